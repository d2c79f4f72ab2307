/- Stage 3: the law ScaleSpanned. -/
import Derived.Test.YtdfdlklglbefiaaBy
namespace Go.Proofs.Ytdfdlklglbefiaa
set_option linter.unusedSimpArgs false
set_option linter.unusedVariables false
open Go.RowKit Go.Shelf
/-- The first k of a list. -/
def tkI (x : List Int) (k : Nat) : List Int := (List.range k).map fun i => iAt x i
theorem tkI_succ (x : List Int) (k : Nat) : tkI x (k + 1) = tkI x k ++ [iAt x k] := by simp [tkI, List.range_succ]
theorem tkI_all (x : List Int) : tkI x x.length = x := by
  refine List.ext_getElem (by simp [tkI]) fun i h1 h2 => ?_
  simp [tkI, iAt, List.getD, h2]
/-- One more in one of two rows. -/
theorem app_two {W : World} {B0 : Nat} {va vb : Value} {k m : Nat} {xs ys : List Value} (ha : W.ownsRow 0 2 1 va k xs) (hb : W.ownsRow 0 2 1 vb m ys) (hD : ∀ j, va.ownBlock = some j → vb.ownBlock ≠ some j) {Z : Nat} {t : Int} (hZ : W.heap[Z]? = some (.cells #[.int .i64 t] 2 (0, 0))) (hl : ∀ j, va.ownBlock = some j → B0 ≤ j) (hB : B0 ≤ W.heap.size) (hk : k ≤ 100000) :
    ∃ va' W', (Builtin.append_ #[23, 23] 23 #[va, .slice (some ⟨Z, 0, none⟩) 1 1]).run Try.prog W = .ok va' W' ∧ W'.ownsRow 0 2 1 va' (k + 1) (xs ++ [.int .i64 t]) ∧ W'.ownsRow 0 2 1 vb m ys ∧ (∀ j, va'.ownBlock = some j → vb.ownBlock ≠ some j) ∧ (∀ j, va'.ownBlock = some j → B0 ≤ j) ∧ Below B0 W W' ∧
      (∀ (q : Nat) (u : Obj), W.heap[q]? = some u → va.ownBlock ≠ some q → W'.heap[q]? = some u) := by
  obtain ⟨v', W', hrun, hown, hK, hv⟩ := app_one Try.underlying23 info2b_ rfl (by omega) (by omega) ha (vals := [.int .i64 t]) rfl hZ (by simp [Value.oneCell']) (by omega)
  refine ⟨v', W', hrun, hown, own_keep hb hK (fun j e e2 => hD j e2 e), fun j e e2 => ?_, fun j e => ?_, hK.below hB (fun j hj e => by have := hl j e; omega), fun q u hu hq => (hK.block q (lt_of_block hu) (fun e => hq e)).trans hu⟩
  · rcases hv with h | ⟨h, _⟩
    · rw [h] at e; exact hD j e e2
    · rw [h] at e; cases e; have := own_lt hb _ e2; omega
  · rcases hv with h | ⟨h, _⟩
    · rw [h] at e; exact hl j e
    · rw [h] at e; cases e; exact hB
theorem gAt_spn (x y : List Int) {m k : Nat} (h : k < m) : gAt (spnL x y m) k = ⟨iAt x k, iAt y k⟩ := by simp [gAt, List.getD, spnL, h]
theorem IntsU.below {w w' : World} {A : Option Addr} {n B : Nat} {zs : List Int} (h : IntsU w A n zs) (hb : Below B w w') (hB : w.heap.size ≤ B) : IntsU w' A n zs := by
  refine ⟨h.1, h.2.1, fun hn => ?_⟩
  obtain ⟨b, o, e, hc⟩ := h.2.2 hn
  have hl := lt_of_cell (hc 0 hn)
  exact ⟨b, o, e, fun j hj => (hb.cell (p := ⟨b, o + j, none⟩) (by simp; omega)).trans (hc j hj)⟩
attribute [local go_sem ↓] exec_app

set_option maxRecDepth 100000 in
set_option maxHeartbeats 40000000 in
theorem spanned8 (A : Option Addr) (n cap : Nat) (zs : List Rg) (C1 : Option Addr) (m1 cap1 : Nat) (us : List Int) (C2 : Option Addr) (m2 cap2 : Nat) (gv : List Int) (w : World) (h : Rgs w A n zs) (hu : IntsU w C1 m1 us) (hg : Ints w C2 m2 gv) (hn : n ≤ 9223372036854775807) (hm1 : m1 ≤ 9223372036854775807) (hm2 : m2 ≤ 9223372036854775807) : Calls Try.prog 8 #[.slice A n cap, .slice C1 m1 cap1, .slice C2 m2 cap2] w fun en w' => en = .returned (.bool true) ∧ Below w.heap.size w w' := by
  have S := Lib.hid h
  have U := Lib.hid hu
  have N := Lib.hid hg
  have HZl := Lib.hid h.1
  have HNl := Lib.hid hg.1
  clear h hu hg
  by_cases hz : chkS zs = 0
  rotate_left
  · have d1 : decide (chkS zs = 0) = false := decide_eq_false hz
    clear hz
    go_enter Try.func8, Try.ntmps8
    go_wp2_with fail
    have hc := fine35 A n cap zs w S.out hn
    rw [d1] at hc
    refine hc.mono ?_
    rintro en w1 ⟨rfl, hb⟩
    replace S := Lib.hid (S.out.below hb (Nat.le_refl _))
    replace N := Lib.hid (N.out.below hb (Nat.le_refl _))
    have B := Lib.hid hb
    clear hc hb d1
    go_wp2_with fail
    refine (works15 _).mono ?_
    rintro en wz ⟨rfl, hb⟩
    have B2 := Lib.hid (B.out.trans (hb.mono B.out.size))
    clear hb
    go_wp2_with fail
    go_ret
    exact ⟨rfl, B2.out⟩
  · have d1 : decide (chkS zs = 0) = true := decide_eq_true hz
    have HZ := Lib.hid hz
    have hl24 := len_of hz
    rw [HZl.out] at hl24
    clear hz
    by_cases h1 : 40 < m1
    · have d2 : (40 : Int) < (m1 : Int) := by omega
      go_enter Try.func8, Try.ntmps8
      go_wp2_with fail
      have hc := fine35 A n cap zs w S.out hn
      rw [d1] at hc
      refine hc.mono ?_
      rintro en w12 ⟨rfl, hb⟩
      replace S := Lib.hid (S.out.below hb (Nat.le_refl _))
      replace N := Lib.hid (N.out.below hb (Nat.le_refl _))
      have B := Lib.hid hb
      clear hc hb d1
      go_wp2_with fail
      refine (works15 _).mono ?_
      rintro en wz ⟨rfl, hb⟩
      have B2 := Lib.hid (B.out.trans (hb.mono B.out.size))
      clear hb
      go_wp2_with fail
      go_ret
      exact ⟨rfl, B2.out⟩
    by_cases h2 : 40 < m2
    · have d2 : ¬ (40 : Int) < (m1 : Int) := by omega
      have d3 : (40 : Int) < (m2 : Int) := by omega
      go_enter Try.func8, Try.ntmps8
      go_wp2_with fail
      have hc := fine35 A n cap zs w S.out hn
      rw [d1] at hc
      refine hc.mono ?_
      rintro en w23 ⟨rfl, hb⟩
      replace S := Lib.hid (S.out.below hb (Nat.le_refl _))
      replace N := Lib.hid (N.out.below hb (Nat.le_refl _))
      have B := Lib.hid hb
      clear hc hb d1
      go_wp2_with fail
      refine (works15 _).mono ?_
      rintro en wz ⟨rfl, hb⟩
      have B2 := Lib.hid (B.out.trans (hb.mono B.out.size))
      clear hb
      go_wp2_with fail
      go_ret
      exact ⟨rfl, B2.out⟩
    have d2 : ¬ (40 : Int) < (m1 : Int) := by omega
    have d3 : ¬ (40 : Int) < (m2 : Int) := by omega
    go_enter Try.func8, Try.ntmps8
    go_wp2_with fail
    have hc := fine35 A n cap zs w S.out hn
    rw [d1] at hc
    refine hc.mono ?_
    rintro en w34 ⟨rfl, hb⟩
    replace S := Lib.hid (S.out.below hb (Nat.le_refl _))
    replace N := Lib.hid (N.out.below hb (Nat.le_refl _))
    have B := Lib.hid hb
    clear hc hb d1
    go_wp2_with fail
    clear d2 d3
    refine (spans28 A n cap zs w34 S.out).mono ?_
    rintro en w35 ⟨hb, hor⟩
    replace S := Lib.hid (S.out.below hb (Nat.le_refl _))
    replace N := Lib.hid (N.out.below hb (Nat.le_refl _))
    replace B := Lib.hid (B.out.trans (hb.mono B.out.size))
    clear hb
    obtain ⟨hz, x, y, Dr, cpr, hx, hy, rfl, hi, hf⟩ | ⟨h0, rfl⟩ := hor
    rotate_left
    · exact absurd HZ.out h0
    have HX := Lib.hid (hx.dn (chkS_ok hz).1)
    have HY := Lib.hid (hy.up (ok_of hz))
    have hlen := dn_up_len (ok_of hz) HX.out HY.out
    have hm24 := up_len hz HY.out
    obtain ⟨m3, hm3⟩ : ∃ m3, x.length = m3 := ⟨_, rfl⟩
    rw [HZl.out] at hm24
    rw [← hlen] at hm24
    rw [hm3] at hi hlen hm24
    rw [hm3]
    have Hlx := Lib.hid hm3
    have Hly := Lib.hid hlen
    have R := Lib.hid hi
    clear hi hf hx hy hz hm3 hlen
    go_wp2_with fail
    refine (fewest25 A n cap zs w35 S.out).mono ?_
    rintro en w36 ⟨hb, hor⟩
    replace S := Lib.hid (S.out.below hb (Nat.le_refl _))
    replace N := Lib.hid (N.out.below hb (Nat.le_refl _))
    replace B := Lib.hid (B.out.trans (hb.mono B.out.size))
    replace R := Lib.hid (R.out.below hb (Nat.le_refl _))
    clear hb
    obtain ⟨hz, s, Ds, cps, hs, rfl, hi, hf⟩ | ⟨h0, rfl⟩ := hor
    rotate_left
    · exact absurd HZ.out h0
    have HS1 := Lib.hid (hs.up (ok_of hz))
    have hls : s.length = m3 := by have := lenU_eq (ok_of hz) (up_lenU HS1.out) (up_lenU HY.out); have := Hly.out; omega
    rw [hls] at hi ⊢
    have Hls := Lib.hid hls
    have F := Lib.hid hi
    clear hi hf hs hz hls
    go_wp2_with fail
    obtain ⟨N3, hN3⟩ : ∃ N3, w36.heap.size = N3 := ⟨_, rfl⟩
    have HN3 := Lib.hid (show N3 = w36.heap.size from hN3.symm)
    clear hN3
    go_loopw [11, 12, 13] (fun va vb i wr => ∃ k : Nat, k ≤ m3 ∧ i = .int .i64 (k : Int) ∧ wr.ownsRow 0 2 1 va k (flatI (tkI x k)) ∧ wr.ownsRow 0 2 1 vb k (flatI (tkI y k)) ∧ (∀ j, va.ownBlock = some j → vb.ownBlock ≠ some j) ∧ (∀ j, va.ownBlock = some j → N3 ≤ j) ∧ (∀ j, vb.ownBlock = some j → N3 ≤ j) ∧ Below N3 w36 wr) (fun va vb i _ => m3 - (intOf i).toNat)
    case atStart => exact ⟨0, Nat.zero_le _, rfl, own_nil _ _ _, own_nil _ _ _, fun j e => (by cases e), fun j e => (by cases e), fun j e => (by cases e), Below.refl _ _⟩
    case round =>
      obtain ⟨k, hk, rfl, hoa, hob, hD, hba, hbb, hS⟩ := hrel
      obtain ⟨wk, rfl⟩ : ∃ wk, wk = wr := ⟨_, rfl⟩
      have Hba := Lib.hid hba
      have Hbb := Lib.hid hbb
      have HS := Lib.hid hS
      clear hba hbb hS
      by_cases hlt : k < m3
      · have Hkx := Lib.hid (tkI_succ x k)
        obtain ⟨b, o, rfl, hcr⟩ := R.out.2 (by omega)
        obtain ⟨c0, c1⟩ := hcr k hlt
        clear hcr
        have i0 : (0 : Int) ≤ (k : Int) := by omega
        have i1 : (k : Int) < (m3 : Int) := by omega
        have i2 : (k : Int) ≤ 24 := by omega
        have d3 : (k : Int).toNat = k := by omega
        rw [gAt_spn x y hlt] at c0 c1
        dsimp only at c0 c1
        have Hky := Lib.hid (tkI_succ y k)
        obtain ⟨lo, hlo⟩ : ∃ lo, iAt x k = lo := ⟨_, rfl⟩
        obtain ⟨hi, hhi⟩ : ∃ hi, iAt y k = hi := ⟨_, rfl⟩
        rw [hlo] at c0 Hkx
        rw [hhi] at c1 Hky
        clear hlo hhi
        obtain ⟨w3, hw3⟩ : ∃ w3, w3 = w36 := ⟨_, rfl⟩
        rw [← hw3] at c0 c1 HS HN3
        have Hoa := Lib.hid hoa
        have Hob := Lib.hid hob
        have HD := Lib.hid hD
        clear hoa hob hD
        go_wp2_with fail
        have hoa := Hoa.out
        have hob := Hob.out
        have hD := HD.out
        clear Hoa Hob HD
        refine wp_region_held_drew (S := fun w2 => Below N3 w3 w2) (by kernel_rfl) (HS.out.trans ((drew_b _ _).mono (by have := HS.out.size; have := HN3.out; omega))) (fun hS0 => ?_)
        refine wpAnyH_take (i := 0) (oi := { dst := some 61, op := Go.Op.move (Go.Operand.tmp 11), type := 23, pos := "outright.go:79", after := #[], guard := none }) (v := u11) rfl (by kernel_rfl) (by kernel_rfl) (by kernel_rfl) (fun _ _ _ h => h) (Or.inl ⟨by rfl, by intro w2 hSw; (try dsimp only at hSw); have e0 := (hSw.cell (p := ⟨b, o + k * 2, none⟩) (Nat.lt_of_lt_of_eq (lt_of_cell c0) HN3.out.symm)).trans c0; have e1 := (hSw.cell (p := ⟨b, o + k * 2 + 1, none⟩) (Nat.lt_of_lt_of_eq (lt_of_cell c1) HN3.out.symm)).trans c1; go_simp⟩) hS0 ?_
        try simp only [Act.put, List.setIfInBounds_toArray, List.set_cons_zero, List.set_cons_succ]
        refine wpAnyH_take (i := 1) (oi := { dst := some 62, op := Go.Op.move (Go.Operand.tmp 7), type := 22, pos := "outright.go:79", after := #[], guard := none }) (v := .slice (some ⟨b, o, none⟩) m3 cpr) rfl (by kernel_rfl) (by kernel_rfl) (by kernel_rfl) (fun _ _ _ h => h) (Or.inl ⟨by rfl, by intro w2 hSw; (try dsimp only at hSw); have e0 := (hSw.cell (p := ⟨b, o + k * 2, none⟩) (Nat.lt_of_lt_of_eq (lt_of_cell c0) HN3.out.symm)).trans c0; have e1 := (hSw.cell (p := ⟨b, o + k * 2 + 1, none⟩) (Nat.lt_of_lt_of_eq (lt_of_cell c1) HN3.out.symm)).trans c1; go_simp⟩) hS0 ?_
        try simp only [Act.put, List.setIfInBounds_toArray, List.set_cons_zero, List.set_cons_succ]
        refine wpAnyH_take (i := 2) (oi := { dst := some 63, op := Go.Op.move (Go.Operand.tmp 13), type := 3, pos := "outright.go:79", after := #[], guard := none }) (v := .int .i64 (k : Int)) rfl (by kernel_rfl) (by kernel_rfl) (by kernel_rfl) (fun _ _ _ h => h) (Or.inl ⟨by rfl, by intro w2 hSw; (try dsimp only at hSw); have e0 := (hSw.cell (p := ⟨b, o + k * 2, none⟩) (Nat.lt_of_lt_of_eq (lt_of_cell c0) HN3.out.symm)).trans c0; have e1 := (hSw.cell (p := ⟨b, o + k * 2 + 1, none⟩) (Nat.lt_of_lt_of_eq (lt_of_cell c1) HN3.out.symm)).trans c1; go_simp⟩) hS0 ?_
        try simp only [Act.put, List.setIfInBounds_toArray, List.set_cons_zero, List.set_cons_succ]
        refine wpAnyH_take (i := 3) (oi := { dst := some 64, op := Go.Op.indexAddr 22 (Go.Operand.tmp 62) (Go.Operand.tmp 63), type := 0, pos := "outright.go:79", after := #[{ on := 1, ground := Go.Ground.data }, { on := 2, ground := Go.Ground.data }], guard := none }) (v := .pointer (some ⟨b, o + k * 2, none⟩)) rfl (by kernel_rfl) (by kernel_rfl) (by kernel_rfl) (fun _ _ _ h => h) (Or.inl ⟨by rfl, by intro w2 hSw; (try dsimp only at hSw); have e0 := (hSw.cell (p := ⟨b, o + k * 2, none⟩) (Nat.lt_of_lt_of_eq (lt_of_cell c0) HN3.out.symm)).trans c0; have e1 := (hSw.cell (p := ⟨b, o + k * 2 + 1, none⟩) (Nat.lt_of_lt_of_eq (lt_of_cell c1) HN3.out.symm)).trans c1; go_simp⟩) hS0 ?_
        try simp only [Act.put, List.setIfInBounds_toArray, List.set_cons_zero, List.set_cons_succ]
        refine wpAnyH_take (i := 4) (oi := { dst := some 65, op := Go.Op.fieldAddr 56 (Go.Operand.tmp 64) 0, type := 0, pos := "outright.go:79", after := #[{ on := 3, ground := Go.Ground.data }], guard := none }) (v := .pointer (some ⟨b, o + k * 2, none⟩)) rfl (by kernel_rfl) (by kernel_rfl) (by kernel_rfl) (fun _ _ _ h => h) (Or.inl ⟨by rfl, by intro w2 hSw; (try dsimp only at hSw); have e0 := (hSw.cell (p := ⟨b, o + k * 2, none⟩) (Nat.lt_of_lt_of_eq (lt_of_cell c0) HN3.out.symm)).trans c0; have e1 := (hSw.cell (p := ⟨b, o + k * 2 + 1, none⟩) (Nat.lt_of_lt_of_eq (lt_of_cell c1) HN3.out.symm)).trans c1; go_simp⟩) hS0 ?_
        try simp only [Act.put, List.setIfInBounds_toArray, List.set_cons_zero, List.set_cons_succ]
        refine wpAnyH_take (i := 5) (oi := { dst := some 66, op := Go.Op.load 2 (Go.Operand.tmp 65), type := 2, pos := "outright.go:79", after := #[{ on := 4, ground := Go.Ground.data }], guard := none }) (v := .int .i64 lo) rfl (by kernel_rfl) (by kernel_rfl) (by kernel_rfl) (fun _ _ _ h => h) (Or.inl ⟨by rfl, by intro w2 hSw; (try dsimp only at hSw); have e0 := (hSw.cell (p := ⟨b, o + k * 2, none⟩) (Nat.lt_of_lt_of_eq (lt_of_cell c0) HN3.out.symm)).trans c0; have e1 := (hSw.cell (p := ⟨b, o + k * 2 + 1, none⟩) (Nat.lt_of_lt_of_eq (lt_of_cell c1) HN3.out.symm)).trans c1; go_simp⟩) hS0 ?_
        try simp only [Act.put, List.setIfInBounds_toArray, List.set_cons_zero, List.set_cons_succ]
        refine wpAnyH_take (i := 8) (oi := { dst := some 69, op := Go.Op.move (Go.Operand.tmp 12), type := 23, pos := "outright.go:79", after := #[], guard := none }) (v := u12) rfl (by kernel_rfl) (by kernel_rfl) (by kernel_rfl) (fun _ _ _ h => h) (Or.inl ⟨by rfl, by intro w2 hSw; (try dsimp only at hSw); have e0 := (hSw.cell (p := ⟨b, o + k * 2, none⟩) (Nat.lt_of_lt_of_eq (lt_of_cell c0) HN3.out.symm)).trans c0; have e1 := (hSw.cell (p := ⟨b, o + k * 2 + 1, none⟩) (Nat.lt_of_lt_of_eq (lt_of_cell c1) HN3.out.symm)).trans c1; go_simp⟩) hS0 ?_
        try simp only [Act.put, List.setIfInBounds_toArray, List.set_cons_zero, List.set_cons_succ]
        refine wpAnyH_take (i := 9) (oi := { dst := some 70, op := Go.Op.move (Go.Operand.tmp 7), type := 22, pos := "outright.go:79", after := #[], guard := none }) (v := .slice (some ⟨b, o, none⟩) m3 cpr) rfl (by kernel_rfl) (by kernel_rfl) (by kernel_rfl) (fun _ _ _ h => h) (Or.inl ⟨by rfl, by intro w2 hSw; (try dsimp only at hSw); have e0 := (hSw.cell (p := ⟨b, o + k * 2, none⟩) (Nat.lt_of_lt_of_eq (lt_of_cell c0) HN3.out.symm)).trans c0; have e1 := (hSw.cell (p := ⟨b, o + k * 2 + 1, none⟩) (Nat.lt_of_lt_of_eq (lt_of_cell c1) HN3.out.symm)).trans c1; go_simp⟩) hS0 ?_
        try simp only [Act.put, List.setIfInBounds_toArray, List.set_cons_zero, List.set_cons_succ]
        refine wpAnyH_take (i := 10) (oi := { dst := some 71, op := Go.Op.move (Go.Operand.tmp 13), type := 3, pos := "outright.go:79", after := #[], guard := none }) (v := .int .i64 (k : Int)) rfl (by kernel_rfl) (by kernel_rfl) (by kernel_rfl) (fun _ _ _ h => h) (Or.inl ⟨by rfl, by intro w2 hSw; (try dsimp only at hSw); have e0 := (hSw.cell (p := ⟨b, o + k * 2, none⟩) (Nat.lt_of_lt_of_eq (lt_of_cell c0) HN3.out.symm)).trans c0; have e1 := (hSw.cell (p := ⟨b, o + k * 2 + 1, none⟩) (Nat.lt_of_lt_of_eq (lt_of_cell c1) HN3.out.symm)).trans c1; go_simp⟩) hS0 ?_
        try simp only [Act.put, List.setIfInBounds_toArray, List.set_cons_zero, List.set_cons_succ]
        refine wpAnyH_take (i := 11) (oi := { dst := some 72, op := Go.Op.indexAddr 22 (Go.Operand.tmp 70) (Go.Operand.tmp 71), type := 0, pos := "outright.go:79", after := #[{ on := 9, ground := Go.Ground.data }, { on := 10, ground := Go.Ground.data }], guard := none }) (v := .pointer (some ⟨b, o + k * 2, none⟩)) rfl (by kernel_rfl) (by kernel_rfl) (by kernel_rfl) (fun _ _ _ h => h) (Or.inl ⟨by rfl, by intro w2 hSw; (try dsimp only at hSw); have e0 := (hSw.cell (p := ⟨b, o + k * 2, none⟩) (Nat.lt_of_lt_of_eq (lt_of_cell c0) HN3.out.symm)).trans c0; have e1 := (hSw.cell (p := ⟨b, o + k * 2 + 1, none⟩) (Nat.lt_of_lt_of_eq (lt_of_cell c1) HN3.out.symm)).trans c1; go_simp⟩) hS0 ?_
        try simp only [Act.put, List.setIfInBounds_toArray, List.set_cons_zero, List.set_cons_succ]
        refine wpAnyH_take (i := 12) (oi := { dst := some 73, op := Go.Op.fieldAddr 56 (Go.Operand.tmp 72) 1, type := 0, pos := "outright.go:79", after := #[{ on := 11, ground := Go.Ground.data }], guard := none }) (v := .pointer (some ⟨b, o + k * 2 + 1, none⟩)) rfl (by kernel_rfl) (by kernel_rfl) (by kernel_rfl) (fun _ _ _ h => h) (Or.inl ⟨by rfl, by intro w2 hSw; (try dsimp only at hSw); have e0 := (hSw.cell (p := ⟨b, o + k * 2, none⟩) (Nat.lt_of_lt_of_eq (lt_of_cell c0) HN3.out.symm)).trans c0; have e1 := (hSw.cell (p := ⟨b, o + k * 2 + 1, none⟩) (Nat.lt_of_lt_of_eq (lt_of_cell c1) HN3.out.symm)).trans c1; go_simp⟩) hS0 ?_
        try simp only [Act.put, List.setIfInBounds_toArray, List.set_cons_zero, List.set_cons_succ]
        refine wpAnyH_take (i := 13) (oi := { dst := some 74, op := Go.Op.load 2 (Go.Operand.tmp 73), type := 2, pos := "outright.go:79", after := #[{ on := 12, ground := Go.Ground.data }], guard := none }) (v := .int .i64 hi) rfl (by kernel_rfl) (by kernel_rfl) (by kernel_rfl) (fun _ _ _ h => h) (Or.inl ⟨by rfl, by intro w2 hSw; (try dsimp only at hSw); have e0 := (hSw.cell (p := ⟨b, o + k * 2, none⟩) (Nat.lt_of_lt_of_eq (lt_of_cell c0) HN3.out.symm)).trans c0; have e1 := (hSw.cell (p := ⟨b, o + k * 2 + 1, none⟩) (Nat.lt_of_lt_of_eq (lt_of_cell c1) HN3.out.symm)).trans c1; go_simp⟩) hS0 ?_
        try simp only [Act.put, List.setIfInBounds_toArray, List.set_cons_zero, List.set_cons_succ]
        have hoa : wk.drew.ownsRow 0 2 1 u11 k (flatI (tkI x k)) := hoa
        have hob : wk.drew.ownsRow 0 2 1 u12 k (flatI (tkI y k)) := hob
        generalize wk.drew = V0 at hS0 hoa hob ⊢
        have hV0 := hS0
        clear hS0
        refine wpAnyH_ready (rs := [6, 14]) (by kernel_rfl) (by simp) ?_
        refine AllReadyH.cons (o := { dst := some 67, op := Go.Op.buildSlice 23 1 #[(0, Go.Operand.tmp 66)], type := 23, pos := "outright.go:79", after := #[{ on := 5, ground := Go.Ground.data }], guard := none }) rfl (fun K2 hK => ?_) ?_
        · go_simp
          have hs9 : N3 ≤ V0.heap.size := by have := hV0.size; have := HN3.out; omega
          refine hK.out _ _ (hV0.trans ((below_alloc_ _ _).mono hs9)) (fun hV1 => ?_)
          clear hK K2
          have hza := heap_alloc_new_ V0 (.cells #[.int .i64 lo] 2)
          have hb := below_alloc_ V0 (.cells #[.int .i64 lo] 2)
          have hnaa := Lib.hid (show ∀ j, u11.ownBlock = some j → j ≠ V0.heap.size from fun j e e2 => by have := own_lt hoa j e; omega)
          have hnba := Lib.hid (show ∀ j, u12.ownBlock = some j → j ≠ V0.heap.size from fun j e e2 => by have := own_lt hob j e; omega)
          replace hoa := own_keep hoa (Keeps.of_new (Mut := fun _ => False) hb) (fun _ _ e => e)
          replace hob := own_keep hob (Keeps.of_new (Mut := fun _ => False) hb) (fun _ _ e => e)
          generalize V0.alloc (.cells #[.int .i64 lo] 2) = V1 at *
          obtain ⟨Za, hZ⟩ : ∃ Za, V0.heap.size = Za := ⟨_, rfl⟩
          rw [hZ] at hza hnaa hnba ⊢
          clear hZ hb hs9
          try simp only [Act.put, List.setIfInBounds_toArray, List.set_cons_zero, List.set_cons_succ]
          refine wpAnyH_ready (rs := [7, 14]) (by kernel_rfl) (by simp) ?_
          refine AllReadyH.cons (o := { dst := some 68, op := Go.Op.call { callee := Go.Callee.builtin Go.Builtin.append, args := #[Go.Operand.tmp 61, Go.Operand.tmp 67], argTypes := #[23, 23] }, type := 23, pos := "outright.go:79", after := #[{ on := 0, ground := Go.Ground.data }, { on := 6, ground := Go.Ground.data }], guard := none }) rfl (fun K2 hK => ?_) ?_
          · have hs9 : N3 ≤ V1.heap.size := by have := hV1.size; have := HN3.out; omega
            obtain ⟨vva, V2, hap, hqa, hqb, hD2, hbl2, hB9, hkp⟩ := app_two hoa hob hD hza Hba.out hs9 (by omega)
            have hrun := run_app hap
            clear hap
            have hV2h := Lib.hid (hV1.trans hB9)
            replace hoa := hqa
            replace hob := hqb
            replace hD : ∀ j, vva.ownBlock = some j → u12.ownBlock ≠ some j := hD2
            have Hba := Lib.hid hbl2
            have Hoa := Lib.hid hoa
            have Hob := Lib.hid hob
            have HD := Lib.hid hD
            clear hqa hqb hD2 hbl2 hB9 hkp hs9 hoa hob hD hza
            go_simp
            try rw [hrun]
            try go_simp
            refine hK.out _ _ hV2h.out (fun hV2 => ?_)
            clear hK K2 hrun hV2h
            have hoa := Hoa.out
            have hob := Hob.out
            have hD := HD.out
            clear Hoa Hob HD
            try simp only [Act.put, List.setIfInBounds_toArray, List.set_cons_zero, List.set_cons_succ]
            refine wpAnyH_ready (rs := [14]) (by kernel_rfl) (by simp) ?_
            refine AllReadyH.cons (o := { dst := some 75, op := Go.Op.buildSlice 23 1 #[(0, Go.Operand.tmp 74)], type := 23, pos := "outright.go:79", after := #[{ on := 13, ground := Go.Ground.data }], guard := none }) rfl (fun K2 hK => ?_) ?_
            · go_simp
              have hs9 : N3 ≤ V2.heap.size := by have := hV2.size; have := HN3.out; omega
              refine hK.out _ _ (hV2.trans ((below_alloc_ _ _).mono hs9)) (fun hV3 => ?_)
              clear hK K2
              have hzb := heap_alloc_new_ V2 (.cells #[.int .i64 hi] 2)
              have hb := below_alloc_ V2 (.cells #[.int .i64 hi] 2)
              have hnbb := Lib.hid (show ∀ j, u12.ownBlock = some j → j ≠ V2.heap.size from fun j e e2 => by have := own_lt hob j e; omega)
              replace hoa := own_keep hoa (Keeps.of_new (Mut := fun _ => False) hb) (fun _ _ e => e)
              replace hob := own_keep hob (Keeps.of_new (Mut := fun _ => False) hb) (fun _ _ e => e)
              generalize V2.alloc (.cells #[.int .i64 hi] 2) = V3 at *
              obtain ⟨Zb, hZ⟩ : ∃ Zb, V2.heap.size = Zb := ⟨_, rfl⟩
              rw [hZ] at hzb hnbb ⊢
              clear hZ hb hs9
              try simp only [Act.put, List.setIfInBounds_toArray, List.set_cons_zero, List.set_cons_succ]
              refine wpAnyH_ready (rs := [15]) (by kernel_rfl) (by simp) ?_
              refine AllReadyH.cons (o := { dst := some 76, op := Go.Op.call { callee := Go.Callee.builtin Go.Builtin.append, args := #[Go.Operand.tmp 69, Go.Operand.tmp 75], argTypes := #[23, 23] }, type := 23, pos := "outright.go:79", after := #[{ on := 8, ground := Go.Ground.data }, { on := 14, ground := Go.Ground.data }, { on := 7, ground := Go.Ground.chain }], guard := none }) rfl (fun K2 hK => ?_) ?_
              · have hs9 : N3 ≤ V3.heap.size := by have := hV3.size; have := HN3.out; omega
                obtain ⟨vvb, V4, hap, hqb, hqa, hD2, hbl2, hB9, hkp⟩ := app_two hob hoa (fun j e e2 => hD j e2 e) hzb Hbb.out hs9 (by omega)
                have hrun := run_app hap
                clear hap
                have hV4h := Lib.hid (hV3.trans hB9)
                replace hob := hqb
                replace hoa := hqa
                replace hD : ∀ j, vva.ownBlock = some j → vvb.ownBlock ≠ some j := fun j e e2 => hD2 j e2 e
                have Hbb := Lib.hid hbl2
                have Hoa := Lib.hid hoa
                have Hob := Lib.hid hob
                have HD := Lib.hid hD
                clear hqb hqa hD2 hbl2 hB9 hkp hs9 hoa hob hD hzb
                go_simp
                try rw [hrun]
                try go_simp
                refine hK.out _ _ hV4h.out (fun hV4 => ?_)
                clear hK K2 hrun hV4h
                have hoa := Hoa.out
                have hob := Hob.out
                have hD := HD.out
                clear Hoa Hob HD
                try simp only [Act.put, List.setIfInBounds_toArray, List.set_cons_zero, List.set_cons_succ]
                refine wpAnyH_take (i := 16) (oi := { dst := some 11, op := Go.Op.assign (Go.Operand.tmp 68), type := 23, pos := "outright.go:79", after := #[{ on := 7, ground := Go.Ground.data }, { on := 15, ground := Go.Ground.chain }, { on := 0, ground := Go.Ground.phase }, { on := 1, ground := Go.Ground.phase }, { on := 2, ground := Go.Ground.phase }, { on := 3, ground := Go.Ground.phase }, { on := 4, ground := Go.Ground.phase }, { on := 5, ground := Go.Ground.phase }, { on := 6, ground := Go.Ground.phase }, { on := 7, ground := Go.Ground.phase }, { on := 8, ground := Go.Ground.textOnly Go.Departure.lateStores }, { on := 9, ground := Go.Ground.textOnly Go.Departure.lateStores }, { on := 10, ground := Go.Ground.textOnly Go.Departure.lateStores }, { on := 11, ground := Go.Ground.textOnly Go.Departure.lateStores }, { on := 12, ground := Go.Ground.textOnly Go.Departure.lateStores }, { on := 13, ground := Go.Ground.textOnly Go.Departure.lateStores }, { on := 14, ground := Go.Ground.textOnly Go.Departure.lateStores }, { on := 15, ground := Go.Ground.textOnly Go.Departure.lateStoresUnsure }], guard := none }) (v := vva) rfl (by kernel_rfl) (by kernel_rfl) (by kernel_rfl) (fun _ _ _ h => h) (Or.inl ⟨by rfl, by intro w2 hSw; (try dsimp only at hSw);  go_simp⟩) hV4 ?_
                try simp only [Act.put, List.setIfInBounds_toArray, List.set_cons_zero, List.set_cons_succ]
                refine wpAnyH_take (i := 17) (oi := { dst := some 12, op := Go.Op.assign (Go.Operand.tmp 76), type := 23, pos := "outright.go:79", after := #[{ on := 15, ground := Go.Ground.data }, { on := 16, ground := Go.Ground.chain }, { on := 0, ground := Go.Ground.phase }, { on := 1, ground := Go.Ground.phase }, { on := 2, ground := Go.Ground.phase }, { on := 3, ground := Go.Ground.phase }, { on := 4, ground := Go.Ground.phase }, { on := 5, ground := Go.Ground.phase }, { on := 6, ground := Go.Ground.phase }, { on := 7, ground := Go.Ground.phase }, { on := 8, ground := Go.Ground.phase }, { on := 9, ground := Go.Ground.phase }, { on := 10, ground := Go.Ground.phase }, { on := 11, ground := Go.Ground.phase }, { on := 12, ground := Go.Ground.phase }, { on := 13, ground := Go.Ground.phase }, { on := 14, ground := Go.Ground.phase }, { on := 15, ground := Go.Ground.phase }, { on := 16, ground := Go.Ground.phase }], guard := none }) (v := vvb) rfl (by kernel_rfl) (by kernel_rfl) (by kernel_rfl) (fun _ _ _ h => h) (Or.inl ⟨by rfl, by intro w2 hSw; (try dsimp only at hSw);  go_simp⟩) hV4 ?_
                try simp only [Act.put, List.setIfInBounds_toArray, List.set_cons_zero, List.set_cons_succ]
                have Hoa := Lib.hid hoa
                have Hob := Lib.hid hob
                have HD := Lib.hid hD
                have HS9 := Lib.hid hV4
                clear hoa hob hD
                refine wpAnyH_done (by kernel_rfl) ?_ _
                go_wp2_with fail
                go_roundw
                case rel => exact ⟨k + 1, by omega, by go_num, by rw [Hkx.out, flatI_snoc]; exact Hoa.out, by rw [Hky.out, flatI_snoc]; exact Hob.out, HD.out, Hba.out, Hbb.out, by rw [← hw3]; exact HS9.out⟩
                case measure => simp [intOf]; omega
              exact AllReadyH.nil
            exact AllReadyH.nil
          refine AllReadyH.cons (o := { dst := some 75, op := Go.Op.buildSlice 23 1 #[(0, Go.Operand.tmp 74)], type := 23, pos := "outright.go:79", after := #[{ on := 13, ground := Go.Ground.data }], guard := none }) rfl (fun K2 hK => ?_) ?_
          · go_simp
            have hs9 : N3 ≤ V1.heap.size := by have := hV1.size; have := HN3.out; omega
            refine hK.out _ _ (hV1.trans ((below_alloc_ _ _).mono hs9)) (fun hV2 => ?_)
            clear hK K2
            have hzb := heap_alloc_new_ V1 (.cells #[.int .i64 hi] 2)
            have hb := below_alloc_ V1 (.cells #[.int .i64 hi] 2)
            replace hza := (hb.block _ (lt_of_block hza)).trans hza
            have hnab := Lib.hid (show ∀ j, u11.ownBlock = some j → j ≠ V1.heap.size from fun j e e2 => by have := own_lt hoa j e; omega)
            have hnbb := Lib.hid (show ∀ j, u12.ownBlock = some j → j ≠ V1.heap.size from fun j e e2 => by have := own_lt hob j e; omega)
            replace hoa := own_keep hoa (Keeps.of_new (Mut := fun _ => False) hb) (fun _ _ e => e)
            replace hob := own_keep hob (Keeps.of_new (Mut := fun _ => False) hb) (fun _ _ e => e)
            generalize V1.alloc (.cells #[.int .i64 hi] 2) = V2 at *
            obtain ⟨Zb, hZ⟩ : ∃ Zb, V1.heap.size = Zb := ⟨_, rfl⟩
            rw [hZ] at hzb hnab hnbb ⊢
            clear hZ hb hs9
            try simp only [Act.put, List.setIfInBounds_toArray, List.set_cons_zero, List.set_cons_succ]
            refine wpAnyH_ready (rs := [7]) (by kernel_rfl) (by simp) ?_
            refine AllReadyH.cons (o := { dst := some 68, op := Go.Op.call { callee := Go.Callee.builtin Go.Builtin.append, args := #[Go.Operand.tmp 61, Go.Operand.tmp 67], argTypes := #[23, 23] }, type := 23, pos := "outright.go:79", after := #[{ on := 0, ground := Go.Ground.data }, { on := 6, ground := Go.Ground.data }], guard := none }) rfl (fun K2 hK => ?_) ?_
            · have hs9 : N3 ≤ V2.heap.size := by have := hV2.size; have := HN3.out; omega
              obtain ⟨vva, V3, hap, hqa, hqb, hD2, hbl2, hB9, hkp⟩ := app_two hoa hob hD hza Hba.out hs9 (by omega)
              have hrun := run_app hap
              clear hap
              replace hzb := hkp _ _ hzb (fun e => hnab.out _ e rfl)
              have hV3h := Lib.hid (hV2.trans hB9)
              replace hoa := hqa
              replace hob := hqb
              replace hD : ∀ j, vva.ownBlock = some j → u12.ownBlock ≠ some j := hD2
              have Hba := Lib.hid hbl2
              have Hoa := Lib.hid hoa
              have Hob := Lib.hid hob
              have HD := Lib.hid hD
              have Hzb := Lib.hid hzb
              clear hzb
              clear hqa hqb hD2 hbl2 hB9 hkp hs9 hoa hob hD hza
              go_simp
              try rw [hrun]
              try go_simp
              refine hK.out _ _ hV3h.out (fun hV3 => ?_)
              clear hK K2 hrun hV3h
              have hoa := Hoa.out
              have hob := Hob.out
              have hD := HD.out
              clear Hoa Hob HD
              have hzb := Hzb.out
              clear Hzb
              try simp only [Act.put, List.setIfInBounds_toArray, List.set_cons_zero, List.set_cons_succ]
              refine wpAnyH_ready (rs := [15]) (by kernel_rfl) (by simp) ?_
              refine AllReadyH.cons (o := { dst := some 76, op := Go.Op.call { callee := Go.Callee.builtin Go.Builtin.append, args := #[Go.Operand.tmp 69, Go.Operand.tmp 75], argTypes := #[23, 23] }, type := 23, pos := "outright.go:79", after := #[{ on := 8, ground := Go.Ground.data }, { on := 14, ground := Go.Ground.data }, { on := 7, ground := Go.Ground.chain }], guard := none }) rfl (fun K2 hK => ?_) ?_
              · have hs9 : N3 ≤ V3.heap.size := by have := hV3.size; have := HN3.out; omega
                obtain ⟨vvb, V4, hap, hqb, hqa, hD2, hbl2, hB9, hkp⟩ := app_two hob hoa (fun j e e2 => hD j e2 e) hzb Hbb.out hs9 (by omega)
                have hrun := run_app hap
                clear hap
                have hV4h := Lib.hid (hV3.trans hB9)
                replace hob := hqb
                replace hoa := hqa
                replace hD : ∀ j, vva.ownBlock = some j → vvb.ownBlock ≠ some j := fun j e e2 => hD2 j e2 e
                have Hbb := Lib.hid hbl2
                have Hoa := Lib.hid hoa
                have Hob := Lib.hid hob
                have HD := Lib.hid hD
                clear hqb hqa hD2 hbl2 hB9 hkp hs9 hoa hob hD hzb
                go_simp
                try rw [hrun]
                try go_simp
                refine hK.out _ _ hV4h.out (fun hV4 => ?_)
                clear hK K2 hrun hV4h
                have hoa := Hoa.out
                have hob := Hob.out
                have hD := HD.out
                clear Hoa Hob HD
                try simp only [Act.put, List.setIfInBounds_toArray, List.set_cons_zero, List.set_cons_succ]
                refine wpAnyH_take (i := 16) (oi := { dst := some 11, op := Go.Op.assign (Go.Operand.tmp 68), type := 23, pos := "outright.go:79", after := #[{ on := 7, ground := Go.Ground.data }, { on := 15, ground := Go.Ground.chain }, { on := 0, ground := Go.Ground.phase }, { on := 1, ground := Go.Ground.phase }, { on := 2, ground := Go.Ground.phase }, { on := 3, ground := Go.Ground.phase }, { on := 4, ground := Go.Ground.phase }, { on := 5, ground := Go.Ground.phase }, { on := 6, ground := Go.Ground.phase }, { on := 7, ground := Go.Ground.phase }, { on := 8, ground := Go.Ground.textOnly Go.Departure.lateStores }, { on := 9, ground := Go.Ground.textOnly Go.Departure.lateStores }, { on := 10, ground := Go.Ground.textOnly Go.Departure.lateStores }, { on := 11, ground := Go.Ground.textOnly Go.Departure.lateStores }, { on := 12, ground := Go.Ground.textOnly Go.Departure.lateStores }, { on := 13, ground := Go.Ground.textOnly Go.Departure.lateStores }, { on := 14, ground := Go.Ground.textOnly Go.Departure.lateStores }, { on := 15, ground := Go.Ground.textOnly Go.Departure.lateStoresUnsure }], guard := none }) (v := vva) rfl (by kernel_rfl) (by kernel_rfl) (by kernel_rfl) (fun _ _ _ h => h) (Or.inl ⟨by rfl, by intro w2 hSw; (try dsimp only at hSw);  go_simp⟩) hV4 ?_
                try simp only [Act.put, List.setIfInBounds_toArray, List.set_cons_zero, List.set_cons_succ]
                refine wpAnyH_take (i := 17) (oi := { dst := some 12, op := Go.Op.assign (Go.Operand.tmp 76), type := 23, pos := "outright.go:79", after := #[{ on := 15, ground := Go.Ground.data }, { on := 16, ground := Go.Ground.chain }, { on := 0, ground := Go.Ground.phase }, { on := 1, ground := Go.Ground.phase }, { on := 2, ground := Go.Ground.phase }, { on := 3, ground := Go.Ground.phase }, { on := 4, ground := Go.Ground.phase }, { on := 5, ground := Go.Ground.phase }, { on := 6, ground := Go.Ground.phase }, { on := 7, ground := Go.Ground.phase }, { on := 8, ground := Go.Ground.phase }, { on := 9, ground := Go.Ground.phase }, { on := 10, ground := Go.Ground.phase }, { on := 11, ground := Go.Ground.phase }, { on := 12, ground := Go.Ground.phase }, { on := 13, ground := Go.Ground.phase }, { on := 14, ground := Go.Ground.phase }, { on := 15, ground := Go.Ground.phase }, { on := 16, ground := Go.Ground.phase }], guard := none }) (v := vvb) rfl (by kernel_rfl) (by kernel_rfl) (by kernel_rfl) (fun _ _ _ h => h) (Or.inl ⟨by rfl, by intro w2 hSw; (try dsimp only at hSw);  go_simp⟩) hV4 ?_
                try simp only [Act.put, List.setIfInBounds_toArray, List.set_cons_zero, List.set_cons_succ]
                have Hoa := Lib.hid hoa
                have Hob := Lib.hid hob
                have HD := Lib.hid hD
                have HS9 := Lib.hid hV4
                clear hoa hob hD
                refine wpAnyH_done (by kernel_rfl) ?_ _
                go_wp2_with fail
                go_roundw
                case rel => exact ⟨k + 1, by omega, by go_num, by rw [Hkx.out, flatI_snoc]; exact Hoa.out, by rw [Hky.out, flatI_snoc]; exact Hob.out, HD.out, Hba.out, Hbb.out, by rw [← hw3]; exact HS9.out⟩
                case measure => simp [intOf]; omega
              exact AllReadyH.nil
            exact AllReadyH.nil
          exact AllReadyH.nil
        refine AllReadyH.cons (o := { dst := some 75, op := Go.Op.buildSlice 23 1 #[(0, Go.Operand.tmp 74)], type := 23, pos := "outright.go:79", after := #[{ on := 13, ground := Go.Ground.data }], guard := none }) rfl (fun K2 hK => ?_) ?_
        · go_simp
          have hs9 : N3 ≤ V0.heap.size := by have := hV0.size; have := HN3.out; omega
          refine hK.out _ _ (hV0.trans ((below_alloc_ _ _).mono hs9)) (fun hV1 => ?_)
          clear hK K2
          have hzb := heap_alloc_new_ V0 (.cells #[.int .i64 hi] 2)
          have hb := below_alloc_ V0 (.cells #[.int .i64 hi] 2)
          have hnab := Lib.hid (show ∀ j, u11.ownBlock = some j → j ≠ V0.heap.size from fun j e e2 => by have := own_lt hoa j e; omega)
          have hnbb := Lib.hid (show ∀ j, u12.ownBlock = some j → j ≠ V0.heap.size from fun j e e2 => by have := own_lt hob j e; omega)
          replace hoa := own_keep hoa (Keeps.of_new (Mut := fun _ => False) hb) (fun _ _ e => e)
          replace hob := own_keep hob (Keeps.of_new (Mut := fun _ => False) hb) (fun _ _ e => e)
          generalize V0.alloc (.cells #[.int .i64 hi] 2) = V1 at *
          obtain ⟨Zb, hZ⟩ : ∃ Zb, V0.heap.size = Zb := ⟨_, rfl⟩
          rw [hZ] at hzb hnab hnbb ⊢
          clear hZ hb hs9
          try simp only [Act.put, List.setIfInBounds_toArray, List.set_cons_zero, List.set_cons_succ]
          refine wpAnyH_ready (rs := [6]) (by kernel_rfl) (by simp) ?_
          refine AllReadyH.cons (o := { dst := some 67, op := Go.Op.buildSlice 23 1 #[(0, Go.Operand.tmp 66)], type := 23, pos := "outright.go:79", after := #[{ on := 5, ground := Go.Ground.data }], guard := none }) rfl (fun K2 hK => ?_) ?_
          · go_simp
            have hs9 : N3 ≤ V1.heap.size := by have := hV1.size; have := HN3.out; omega
            refine hK.out _ _ (hV1.trans ((below_alloc_ _ _).mono hs9)) (fun hV2 => ?_)
            clear hK K2
            have hza := heap_alloc_new_ V1 (.cells #[.int .i64 lo] 2)
            have hb := below_alloc_ V1 (.cells #[.int .i64 lo] 2)
            replace hzb := (hb.block _ (lt_of_block hzb)).trans hzb
            have hnaa := Lib.hid (show ∀ j, u11.ownBlock = some j → j ≠ V1.heap.size from fun j e e2 => by have := own_lt hoa j e; omega)
            have hnba := Lib.hid (show ∀ j, u12.ownBlock = some j → j ≠ V1.heap.size from fun j e e2 => by have := own_lt hob j e; omega)
            replace hoa := own_keep hoa (Keeps.of_new (Mut := fun _ => False) hb) (fun _ _ e => e)
            replace hob := own_keep hob (Keeps.of_new (Mut := fun _ => False) hb) (fun _ _ e => e)
            generalize V1.alloc (.cells #[.int .i64 lo] 2) = V2 at *
            obtain ⟨Za, hZ⟩ : ∃ Za, V1.heap.size = Za := ⟨_, rfl⟩
            rw [hZ] at hza hnaa hnba ⊢
            clear hZ hb hs9
            try simp only [Act.put, List.setIfInBounds_toArray, List.set_cons_zero, List.set_cons_succ]
            refine wpAnyH_ready (rs := [7]) (by kernel_rfl) (by simp) ?_
            refine AllReadyH.cons (o := { dst := some 68, op := Go.Op.call { callee := Go.Callee.builtin Go.Builtin.append, args := #[Go.Operand.tmp 61, Go.Operand.tmp 67], argTypes := #[23, 23] }, type := 23, pos := "outright.go:79", after := #[{ on := 0, ground := Go.Ground.data }, { on := 6, ground := Go.Ground.data }], guard := none }) rfl (fun K2 hK => ?_) ?_
            · have hs9 : N3 ≤ V2.heap.size := by have := hV2.size; have := HN3.out; omega
              obtain ⟨vva, V3, hap, hqa, hqb, hD2, hbl2, hB9, hkp⟩ := app_two hoa hob hD hza Hba.out hs9 (by omega)
              have hrun := run_app hap
              clear hap
              replace hzb := hkp _ _ hzb (fun e => hnab.out _ e rfl)
              have hV3h := Lib.hid (hV2.trans hB9)
              replace hoa := hqa
              replace hob := hqb
              replace hD : ∀ j, vva.ownBlock = some j → u12.ownBlock ≠ some j := hD2
              have Hba := Lib.hid hbl2
              have Hoa := Lib.hid hoa
              have Hob := Lib.hid hob
              have HD := Lib.hid hD
              have Hzb := Lib.hid hzb
              clear hzb
              clear hqa hqb hD2 hbl2 hB9 hkp hs9 hoa hob hD hza
              go_simp
              try rw [hrun]
              try go_simp
              refine hK.out _ _ hV3h.out (fun hV3 => ?_)
              clear hK K2 hrun hV3h
              have hoa := Hoa.out
              have hob := Hob.out
              have hD := HD.out
              clear Hoa Hob HD
              have hzb := Hzb.out
              clear Hzb
              try simp only [Act.put, List.setIfInBounds_toArray, List.set_cons_zero, List.set_cons_succ]
              refine wpAnyH_ready (rs := [15]) (by kernel_rfl) (by simp) ?_
              refine AllReadyH.cons (o := { dst := some 76, op := Go.Op.call { callee := Go.Callee.builtin Go.Builtin.append, args := #[Go.Operand.tmp 69, Go.Operand.tmp 75], argTypes := #[23, 23] }, type := 23, pos := "outright.go:79", after := #[{ on := 8, ground := Go.Ground.data }, { on := 14, ground := Go.Ground.data }, { on := 7, ground := Go.Ground.chain }], guard := none }) rfl (fun K2 hK => ?_) ?_
              · have hs9 : N3 ≤ V3.heap.size := by have := hV3.size; have := HN3.out; omega
                obtain ⟨vvb, V4, hap, hqb, hqa, hD2, hbl2, hB9, hkp⟩ := app_two hob hoa (fun j e e2 => hD j e2 e) hzb Hbb.out hs9 (by omega)
                have hrun := run_app hap
                clear hap
                have hV4h := Lib.hid (hV3.trans hB9)
                replace hob := hqb
                replace hoa := hqa
                replace hD : ∀ j, vva.ownBlock = some j → vvb.ownBlock ≠ some j := fun j e e2 => hD2 j e2 e
                have Hbb := Lib.hid hbl2
                have Hoa := Lib.hid hoa
                have Hob := Lib.hid hob
                have HD := Lib.hid hD
                clear hqb hqa hD2 hbl2 hB9 hkp hs9 hoa hob hD hzb
                go_simp
                try rw [hrun]
                try go_simp
                refine hK.out _ _ hV4h.out (fun hV4 => ?_)
                clear hK K2 hrun hV4h
                have hoa := Hoa.out
                have hob := Hob.out
                have hD := HD.out
                clear Hoa Hob HD
                try simp only [Act.put, List.setIfInBounds_toArray, List.set_cons_zero, List.set_cons_succ]
                refine wpAnyH_take (i := 16) (oi := { dst := some 11, op := Go.Op.assign (Go.Operand.tmp 68), type := 23, pos := "outright.go:79", after := #[{ on := 7, ground := Go.Ground.data }, { on := 15, ground := Go.Ground.chain }, { on := 0, ground := Go.Ground.phase }, { on := 1, ground := Go.Ground.phase }, { on := 2, ground := Go.Ground.phase }, { on := 3, ground := Go.Ground.phase }, { on := 4, ground := Go.Ground.phase }, { on := 5, ground := Go.Ground.phase }, { on := 6, ground := Go.Ground.phase }, { on := 7, ground := Go.Ground.phase }, { on := 8, ground := Go.Ground.textOnly Go.Departure.lateStores }, { on := 9, ground := Go.Ground.textOnly Go.Departure.lateStores }, { on := 10, ground := Go.Ground.textOnly Go.Departure.lateStores }, { on := 11, ground := Go.Ground.textOnly Go.Departure.lateStores }, { on := 12, ground := Go.Ground.textOnly Go.Departure.lateStores }, { on := 13, ground := Go.Ground.textOnly Go.Departure.lateStores }, { on := 14, ground := Go.Ground.textOnly Go.Departure.lateStores }, { on := 15, ground := Go.Ground.textOnly Go.Departure.lateStoresUnsure }], guard := none }) (v := vva) rfl (by kernel_rfl) (by kernel_rfl) (by kernel_rfl) (fun _ _ _ h => h) (Or.inl ⟨by rfl, by intro w2 hSw; (try dsimp only at hSw);  go_simp⟩) hV4 ?_
                try simp only [Act.put, List.setIfInBounds_toArray, List.set_cons_zero, List.set_cons_succ]
                refine wpAnyH_take (i := 17) (oi := { dst := some 12, op := Go.Op.assign (Go.Operand.tmp 76), type := 23, pos := "outright.go:79", after := #[{ on := 15, ground := Go.Ground.data }, { on := 16, ground := Go.Ground.chain }, { on := 0, ground := Go.Ground.phase }, { on := 1, ground := Go.Ground.phase }, { on := 2, ground := Go.Ground.phase }, { on := 3, ground := Go.Ground.phase }, { on := 4, ground := Go.Ground.phase }, { on := 5, ground := Go.Ground.phase }, { on := 6, ground := Go.Ground.phase }, { on := 7, ground := Go.Ground.phase }, { on := 8, ground := Go.Ground.phase }, { on := 9, ground := Go.Ground.phase }, { on := 10, ground := Go.Ground.phase }, { on := 11, ground := Go.Ground.phase }, { on := 12, ground := Go.Ground.phase }, { on := 13, ground := Go.Ground.phase }, { on := 14, ground := Go.Ground.phase }, { on := 15, ground := Go.Ground.phase }, { on := 16, ground := Go.Ground.phase }], guard := none }) (v := vvb) rfl (by kernel_rfl) (by kernel_rfl) (by kernel_rfl) (fun _ _ _ h => h) (Or.inl ⟨by rfl, by intro w2 hSw; (try dsimp only at hSw);  go_simp⟩) hV4 ?_
                try simp only [Act.put, List.setIfInBounds_toArray, List.set_cons_zero, List.set_cons_succ]
                have Hoa := Lib.hid hoa
                have Hob := Lib.hid hob
                have HD := Lib.hid hD
                have HS9 := Lib.hid hV4
                clear hoa hob hD
                refine wpAnyH_done (by kernel_rfl) ?_ _
                go_wp2_with fail
                go_roundw
                case rel => exact ⟨k + 1, by omega, by go_num, by rw [Hkx.out, flatI_snoc]; exact Hoa.out, by rw [Hky.out, flatI_snoc]; exact Hob.out, HD.out, Hba.out, Hbb.out, by rw [← hw3]; exact HS9.out⟩
                case measure => simp [intOf]; omega
              exact AllReadyH.nil
            exact AllReadyH.nil
          exact AllReadyH.nil
        exact AllReadyH.nil
      · have e' : k = m3 := by omega
        subst e'
        have hxk : tkI x k = x := by have := tkI_all x; rwa [Hlx.out] at this
        have hyk : tkI y k = y := by have := tkI_all y; rwa [← Hly.out] at this
        rw [hxk] at hoa
        rw [hyk] at hob
        obtain ⟨Ca, ca, rfl, hca, hia, -⟩ := ints_own Hlx.out hoa
        obtain ⟨Cb, cb, rfl, hcb, hib, -⟩ := ints_own Hly.out.symm hob
        have hb : Below w36.heap.size w36 wk := by rw [← HN3.out]; exact HS.out
        replace S := Lib.hid (S.out.below hb (Nat.le_refl _))
        replace N := Lib.hid (N.out.below hb (Nat.le_refl _))
        replace B := Lib.hid (B.out.trans (hb.mono B.out.size))
        replace R := Lib.hid (R.out.below hb (Nat.le_refl _))
        replace F := Lib.hid (F.out.below hb (Nat.le_refl _))
        have LA := Lib.hid hia
        have LB := Lib.hid hib
        have Hk24 := Lib.hid hm24
        clear hb hoa hob hia hib hxk hyk hD Hba Hbb HS hca hcb hlt hk HN3
        go_wp2_with fail
        have hc := refScale21 A n cap zs Ca k ca x wk S.out LA.out hn
        rw [dn_right HZ.out HX.out HY.out] at hc
        refine hc.mono ?_
        clear hc
        rintro en w37 ⟨rfl, hb⟩
        replace S := Lib.hid (S.out.below hb (Nat.le_refl _))
        replace N := Lib.hid (N.out.below hb (Nat.le_refl _))
        replace B := Lib.hid (B.out.trans (hb.mono B.out.size))
        replace R := Lib.hid (R.out.below hb (Nat.le_refl _))
        replace F := Lib.hid (F.out.below hb (Nat.le_refl _))
        replace LA := Lib.hid (LA.out.below hb (Nat.le_refl _))
        replace LB := Lib.hid (LB.out.below hb (Nat.le_refl _))
        clear hb
        go_wp2_with fail
        have hc := refScale21 A n cap zs Cb k cb y w37 S.out LB.out hn
        rw [up_right HZ.out HY.out] at hc
        refine hc.mono ?_
        clear hc
        rintro en w38 ⟨rfl, hb⟩
        replace S := Lib.hid (S.out.below hb (Nat.le_refl _))
        replace N := Lib.hid (N.out.below hb (Nat.le_refl _))
        replace B := Lib.hid (B.out.trans (hb.mono B.out.size))
        replace R := Lib.hid (R.out.below hb (Nat.le_refl _))
        replace F := Lib.hid (F.out.below hb (Nat.le_refl _))
        replace LA := Lib.hid (LA.out.below hb (Nat.le_refl _))
        replace LB := Lib.hid (LB.out.below hb (Nat.le_refl _))
        clear hb
        go_wp2_with fail
        have hc := checkScale20 A n cap zs Ca k ca x w38 S.out LA.out
        rw [dn_right HZ.out HX.out HY.out] at hc
        refine hc.mono ?_
        clear hc
        rintro en w39 ⟨rfl, hb⟩
        replace S := Lib.hid (S.out.below hb (Nat.le_refl _))
        replace N := Lib.hid (N.out.below hb (Nat.le_refl _))
        replace B := Lib.hid (B.out.trans (hb.mono B.out.size))
        replace R := Lib.hid (R.out.below hb (Nat.le_refl _))
        replace F := Lib.hid (F.out.below hb (Nat.le_refl _))
        replace LA := Lib.hid (LA.out.below hb (Nat.le_refl _))
        replace LB := Lib.hid (LB.out.below hb (Nat.le_refl _))
        clear hb
        go_wp2_with fail
        have hc := checkScale20 A n cap zs Cb k cb y w39 S.out LB.out
        rw [up_right HZ.out HY.out] at hc
        refine hc.mono ?_
        clear hc
        rintro en w40 ⟨rfl, hb⟩
        replace S := Lib.hid (S.out.below hb (Nat.le_refl _))
        replace N := Lib.hid (N.out.below hb (Nat.le_refl _))
        replace B := Lib.hid (B.out.trans (hb.mono B.out.size))
        replace R := Lib.hid (R.out.below hb (Nat.le_refl _))
        replace F := Lib.hid (F.out.below hb (Nat.le_refl _))
        replace LA := Lib.hid (LA.out.below hb (Nat.le_refl _))
        replace LB := Lib.hid (LB.out.below hb (Nat.le_refl _))
        clear hb LA LB
        go_wp2_with fail
        refine (by36 A n cap zs C1 m1 cap1 us w40 S.out (U.out.below B.out (Nat.le_refl _)) HZ.out hm1).mono ?_
        rintro en w41 ⟨z, Dz, cpz, hzc, rfl, hlz, hi, hf, hb⟩
        replace S := Lib.hid (S.out.below hb (Nat.le_refl _))
        replace N := Lib.hid (N.out.below hb (Nat.le_refl _))
        replace B := Lib.hid (B.out.trans (hb.mono B.out.size))
        replace R := Lib.hid (R.out.below hb (Nat.le_refl _))
        replace F := Lib.hid (F.out.below hb (Nat.le_refl _))
        obtain ⟨lz, hlz2⟩ : ∃ lz, z.length = lz := ⟨_, rfl⟩
        rw [hlz2] at hi
        rw [hlz2]
        have hlz24 : lz ≤ 24 := by have := ((ckSc_iff HZ.out).1 hzc).2.1; omega
        have LZ := Lib.hid hi
        clear hb hi hf hlz hlz2 hzc
        go_wp2_with fail
        have hrow := heap_alloc_new_ w41 (.cells #[.slice Ds k cps, .slice Dz lz cpz, .slice C2 m2 cap2] 23)
        have hb := below_alloc_ w41 (.cells #[.slice Ds k cps, .slice Dz lz cpz, .slice C2 m2 cap2] 23)
        obtain ⟨w42, hV⟩ : ∃ w42, w41.alloc (.cells #[.slice Ds k cps, .slice Dz lz cpz, .slice C2 m2 cap2] 23) = w42 := ⟨_, rfl⟩
        rw [hV] at hrow hb ⊢
        clear hV
        replace S := Lib.hid (S.out.below hb (Nat.le_refl _))
        replace N := Lib.hid (N.out.below hb (Nat.le_refl _))
        replace B := Lib.hid (B.out.trans (hb.mono B.out.size))
        replace R := Lib.hid (R.out.below hb (Nat.le_refl _))
        replace F := Lib.hid (F.out.below hb (Nat.le_refl _))
        replace LZ := Lib.hid (LZ.out.below hb (Nat.le_refl _))
        obtain ⟨P, hP⟩ : ∃ P, w41.heap.size = P := ⟨_, rfl⟩
        rw [hP] at hrow ⊢
        have Row := Lib.hid hrow
        clear hb hP hrow
        have HL := Lib.hid (show ∀ q : Nat, q < 3 → ∃ (Cg : Option Addr) (mg cg : Nat) (gs : List Int), w42.cell? ⟨P, q, none⟩ = some (.slice Cg mg cg) ∧ Ints w42 Cg mg gs ∧ mg ≤ 9223372036854775807 ∧ (q = 0 → mg = k ∧ ckSc zs gs = 0) from by
          intro q hq
          rcases (by omega : q = 0 ∨ q = 1 ∨ q = 2) with rfl | rfl | rfl
          · exact ⟨Ds, k, cps, s, by rw [cell_row Row.out]; rfl, F.out, by omega, fun _ => ⟨rfl, up_right HZ.out HS1.out⟩⟩
          · exact ⟨Dz, lz, cpz, z, by rw [cell_row Row.out]; rfl, LZ.out, by omega, fun h => absurd h (by decide)⟩
          · exact ⟨C2, m2, cap2, gv, by rw [cell_row Row.out]; rfl, N.out, hm2, fun h => absurd h (by decide)⟩)
        clear F LZ Row N U Hls HNl
        go_loopw [15] (fun i wr => ∃ q : Nat, q ≤ 3 ∧ i = .int .i64 (q : Int) ∧ Below w42.heap.size w42 wr) (fun i _ => 3 - (intOf i).toNat)
        case atStart => exact ⟨0, by omega, rfl, Below.refl _ _⟩
        case round =>
          obtain ⟨q, hq, rfl, hB⟩ := hrel
          obtain ⟨wq, rfl⟩ : ∃ wq, wq = wr := ⟨_, rfl⟩
          have B7 := Lib.hid hB
          have B9 := Lib.hid (B.out.trans (hB.mono B.out.size))
          by_cases hlt : q < 3
          rotate_left
          · clear HL
            go_wp2_with fail
            refine (works15 _).mono ?_
            rintro en wz ⟨rfl, hb9⟩
            replace B9 := Lib.hid (B9.out.trans (hb9.mono B9.out.size))
            clear hb9
            go_wp2_with fail
            go_ret
            exact ⟨rfl, B9.out⟩
          · obtain ⟨Cg, mg, cg, gs, hcell, hgi, hgm, hg0⟩ := HL.out q hlt
            have c9 : wq.cell? ⟨P, q, none⟩ = some (.slice Cg mg cg) := (hB.cell (p := ⟨P, q, none⟩) (lt_of_cell hcell)).trans hcell
            have G := Lib.hid (hgi.below hB (Nat.le_refl _))
            have S9 := Lib.hid (S.out.below hB (Nat.le_refl _))
            have R9 := Lib.hid (R.out.below hB (Nat.le_refl _))
            have i0 : (0 : Int) ≤ (q : Int) := by omega
            have i1 : (q : Int) < 3 := by omega
            have d3 : (q : Int).toNat = q := by omega
            clear hB hcell hgi
            by_cases hmk : mg = k
            rotate_left
            · have d5 : ((mg : Int) == (k : Int)) = false := by rw [beq_eq_false_iff_ne]; omega
              have d6 : ((q : Int) == 0) = false := by rw [beq_eq_false_iff_ne]; intro h; exact hmk (hg0 (by omega)).1
              have d8 : (mg == k) = false := by rw [beq_eq_false_iff_ne]; exact hmk
              clear hg0
              go_wp2_with fail
              go_roundw
              case rel => exact ⟨q + 1, by omega, by go_num, B7.out⟩
              case measure => simp [intOf]; omega
            · have hmk' : k = mg := hmk.symm
              subst hmk'
              clear hmk
              go_wp2_with fail
              refine (refScale21 A n cap zs Cg k cg gs wq S9.out G.out hn).mono ?_
              rintro en w43 ⟨rfl, hb⟩
              replace G := Lib.hid (G.out.below hb (Nat.le_refl _))
              replace S9 := Lib.hid (S9.out.below hb (Nat.le_refl _))
              replace R9 := Lib.hid (R9.out.below hb (Nat.le_refl _))
              replace B7 := Lib.hid (B7.out.trans (hb.mono B7.out.size))
              replace B9 := Lib.hid (B9.out.trans (hb.mono B9.out.size))
              clear hb
              by_cases he : ckSc zs gs = 0
              rotate_left
              · have d6 : ((q : Int) == 0) = false := by rw [beq_eq_false_iff_ne]; intro h; exact he (hg0 (by omega)).2
                obtain ⟨eg, heg⟩ : ∃ eg, ckSc zs gs = eg := ⟨_, rfl⟩
                rw [heg] at he ⊢
                have d7 : (eg == 0) = false := by rw [beq_eq_false_iff_ne]; exact he
                clear he heg hg0
                go_wp2_with fail
                go_roundw
                case rel => exact ⟨q + 1, by omega, by go_num, B7.out⟩
                case measure => simp [intOf]; omega
              · have HE := Lib.hid ((ckSc_iff HZ.out).1 he)
                rw [he]
                clear he hg0
                have HLE := Lib.hid (show ∀ j, j < k → iAt x j ≤ iAt gs j ∧ iAt gs j ≤ iAt y j from fun j hj => by
                  have hgl := G.out.1
                  have hxl := Hlx.out
                  have hyl := Hly.out
                  have h1 := HX.out.at_ge HE.out.1 HE.out.2.2.2 (by omega) j (by omega)
                  have h2 := HY.out.at_le HE.out.1 HE.out.2.2.2 j (by omega) (by omega)
                  rw [iAt_eq (by omega), iAt_eq (by omega), iAt_eq (by omega)]
                  exact ⟨h1, h2⟩)
                go_wp2_with fail
                go_loopw [17] (fun i wr => ∃ j : Nat, j ≤ k ∧ i = .int .i64 (j : Int) ∧ Below w43.heap.size w43 wr) (fun i _ => k - (intOf i).toNat)
                case atStart => exact ⟨0, by omega, rfl, Below.refl _ _⟩
                case round =>
                  obtain ⟨j, hj, rfl, hBj⟩ := hrel
                  obtain ⟨wj, rfl⟩ : ∃ wj, wj = wr := ⟨_, rfl⟩
                  have BJ := Lib.hid hBj
                  by_cases hjl : j < k
                  rotate_left
                  · have B8 := Lib.hid (B7.out.trans (hBj.mono B7.out.size))
                    clear hBj
                    go_wp2_with fail
                    go_roundw
                    case rel => exact ⟨q + 1, by omega, by go_num, B8.out⟩
                    case measure => simp [intOf]; omega
                  · obtain ⟨b1, o1, rfl, hc1⟩ := (G.out.below hBj (Nat.le_refl _)).2 (by omega)
                    obtain ⟨b2, o2, rfl, hc2⟩ := (R9.out.below hBj (Nat.le_refl _)).2 (by omega)
                    have z0 := hc1 j hjl
                    obtain ⟨z1, z2⟩ := hc2 j hjl
                    rw [gAt_spn x y hjl] at z1 z2
                    dsimp only at z1 z2
                    obtain ⟨l1, l2⟩ := HLE.out j hjl
                    obtain ⟨u, hu⟩ : ∃ u, iAt gs j = u := ⟨_, rfl⟩
                    obtain ⟨lo, hlo⟩ : ∃ lo, iAt x j = lo := ⟨_, rfl⟩
                    obtain ⟨hi, hhi⟩ : ∃ hi, iAt y j = hi := ⟨_, rfl⟩
                    rw [hu] at z0 l1 l2
                    rw [hlo] at z1 l1
                    rw [hhi] at z2 l2
                    clear hu hlo hhi hc1 hc2 hBj
                    have i3 : (0 : Int) ≤ (j : Int) := by omega
                    have i4 : (j : Int) < (k : Int) := by omega
                    have i5 : (j : Int) ≤ 24 := by omega
                    have d8 : (j : Int).toNat = j := by omega
                    have l3 : ¬ u < lo := by omega
                    have l4 : ¬ hi < u := by omega
                    go_wp2_with fail
                    go_quiet (fail)
                    go_wp2_with fail
                    go_roundw
                    case rel => exact ⟨j + 1, by omega, by go_num, BJ.out.trans ((drew_b _ _).mono BJ.out.size)⟩
                    case measure => simp [intOf]; omega
end Go.Proofs.Ytdfdlklglbefiaa
