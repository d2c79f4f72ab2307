/- Stage 3: ints, ranges, rg and Song. -/
import Derived.Test.YtdfdlklglbefiaaRef3
namespace Go.Proofs.Ytdfdlklglbefiaa
set_option linter.unusedSimpArgs false
set_option linter.unusedVariables false
open Go.RowKit Go.Shelf

theorem ints_ne {xs ys : List Int} {k : Nat} (h1 : k < xs.length) (h2 : k < ys.length) (h : iAt xs k ≠ iAt ys k) : decide (xs = ys) = false := decide_eq_false (fun e => h (by rw [e]))
theorem ints_eq {xs ys : List Int} (hl : xs.length = ys.length) (h : ∀ j, j < xs.length → iAt xs j = iAt ys j) : decide (xs = ys) = true := decide_eq_true (List.ext_getElem hl (fun j h1 h2 => by rw [← iAt_eq h1, ← iAt_eq h2]; exact h j h1))
set_option maxRecDepth 100000 in
set_option maxHeartbeats 4000000 in
theorem ints22 (A1 : Option Addr) (n c1 : Nat) (xs : List Int) (A2 : Option Addr) (m c2 : Nat) (ys : List Int) (w : World) (h1 : Ints w A1 n xs) (h2 : Ints w A2 m ys) (hn : n ≤ 1000000) (hm : m ≤ 1000000) :
    Calls Try.prog 22 #[.slice A1 n c1, .slice A2 m c2] w fun e w' => e = .returned (.bool (decide (xs = ys))) ∧ Below w.heap.size w w' := by
  have L1 := Lib.hid h1.1
  have L2 := Lib.hid h2.1
  by_cases hnm : n = m
  · subst hnm
    have d0 : ((n : Int) != (n : Int)) = false := by rw [bne_eq_false_iff_eq]
    go_enter Try.func22, Try.ntmps22
    go_wp2_with fail
    clear d0
    go_loopw [5] (fun i wr => ∃ k : Nat, k ≤ n ∧ i = .int .i64 (k : Int) ∧ Hid (∀ j, j < k → iAt xs j = iAt ys j) ∧ Hid (Below w.heap.size w wr)) (fun i _ => n - (intOf i).toNat)
    case atStart => exact ⟨0, Nat.zero_le _, rfl, Lib.hid (fun j h => by omega), Lib.hid (Below.refl _ _)⟩
    case round =>
      obtain ⟨k, hk, rfl, HI, HB⟩ := hrel
      obtain ⟨wk, rfl⟩ : ∃ wk, wk = wr := ⟨_, rfl⟩
      by_cases hlt : k < n
      · obtain ⟨-, ha⟩ := h1.below HB.out (Nat.le_refl _)
        obtain ⟨-, hb⟩ := h2.below HB.out (Nat.le_refl _)
        obtain ⟨b1, o1, rfl, hc1⟩ := ha (by omega)
        obtain ⟨b2, o2, rfl, hc2⟩ := hb (by omega)
        have x0 := hc1 k hlt
        have y0 := hc2 k hlt
        obtain ⟨x, hx⟩ : ∃ x, iAt xs k = x := ⟨_, rfl⟩
        obtain ⟨y, hy⟩ : ∃ y, iAt ys k = y := ⟨_, rfl⟩
        rw [hx] at x0
        rw [hy] at y0
        have HX := Lib.hid (And.intro hx hy)
        have i0 : (0 : Int) ≤ (k : Int) := by omega
        have i1 : (k : Int) < (n : Int) := by omega
        clear hc1 hc2 ha hb hx hy h1 h2
        by_cases hxy : x = y
        · have d1 : (x != y) = false := by rw [bne_eq_false_iff_eq]; exact hxy
          have HE := Lib.hid hxy
          clear hxy
          go_wp2_with fail
          go_region
          all_goals (go_wp2_with fail)
          go_roundw
          case rel => exact ⟨k + 1, by omega, by go_num, Lib.hid (fun j hj => by
            rcases Nat.lt_or_ge j k with h | h
            · exact HI.out j h
            · have e : j = k := by omega
              subst e; rw [HX.out.1, HX.out.2]; exact HE.out), Lib.hid (HB.out.trans ((drew_b wk 1).mono HB.out.size))⟩
          case measure => simp [intOf]; omega
        · have d1 : (x != y) = true := by rw [bne_iff_ne]; exact hxy
          have HE := Lib.hid hxy
          clear hxy
          go_wp2_with fail
          go_region
          all_goals (go_wp2_with fail)
          go_ret
          exact ⟨ret_bool (ints_ne (k := k) (by rw [L1.out]; omega) (by rw [L2.out]; omega) (by rw [HX.out.1, HX.out.2]; exact HE.out)).symm, HB.out.trans ((drew_b wk 1).mono HB.out.size)⟩
      · go_wp2_with fail
        go_ret
        exact ⟨ret_bool (ints_eq (by rw [L1.out, L2.out]) (fun j hj => HI.out j (by have := L1.out; omega))).symm, HB.out⟩
  · have d0 : ((n : Int) != (m : Int)) = true := by rw [bne_iff_ne]; omega
    have HN := Lib.hid hnm
    clear hnm h1 h2
    go_enter Try.func22, Try.ntmps22
    go_wp2_with fail
    go_ret
    exact ⟨ret_bool (decide_eq_false (fun e => HN.out (by rw [← L1.out, ← L2.out, e]))).symm, Below.refl _ _⟩

theorem run_eqR (x y : Rg) (W : World) : (binOp .neq 56 (.agg #[.int .i64 x.lo, .int .i64 x.hi]) (.agg #[.int .i64 y.lo, .int .i64 y.hi])).run Try.prog W = .ok (.bool (!decide (x = y))) W := by
  obtain ⟨a, b⟩ := x
  obtain ⟨c, d⟩ := y
  by_cases h1 : a = c
  · by_cases h2 : b = d
    · subst h1 h2
      have e : decide ((⟨a, b⟩ : Rg) = ⟨a, b⟩) = true := decide_eq_true rfl
      rw [e]; go_simp
    · have e : decide ((⟨a, b⟩ : Rg) = ⟨c, d⟩) = false := decide_eq_false (fun h => h2 (Rg.mk.inj h).2)
      have h4 : (b == d) = false := by simpa using h2
      rw [e]; subst h1; go_simp
  · have e : decide ((⟨a, b⟩ : Rg) = ⟨c, d⟩) = false := decide_eq_false (fun h => h1 (Rg.mk.inj h).1)
    have h4 : (a == c) = false := by simpa using h1
    rw [e]; go_simp
theorem rgs_ne {xs ys : List Rg} {k : Nat} (h : gAt xs k ≠ gAt ys k) : decide (xs = ys) = false := decide_eq_false (fun e => h (by rw [e]))
theorem rgs_eq {xs ys : List Rg} (hl : xs.length = ys.length) (h : ∀ j, j < xs.length → gAt xs j = gAt ys j) : decide (xs = ys) = true := decide_eq_true (List.ext_getElem hl (fun j h1 h2 => by rw [← gAt_eq h1, ← gAt_eq h2]; exact h j h1))
set_option maxRecDepth 100000 in
set_option maxHeartbeats 4000000 in
theorem ranges32 (A1 : Option Addr) (n c1 : Nat) (xs : List Rg) (A2 : Option Addr) (m c2 : Nat) (ys : List Rg) (w : World) (h1 : Rgs w A1 n xs) (h2 : Rgs w A2 m ys) (hn : n ≤ 1000000) (hm : m ≤ 1000000) :
    Calls Try.prog 32 #[.slice A1 n c1, .slice A2 m c2] w fun e w' => e = .returned (.bool (decide (xs = ys))) ∧ Below w.heap.size w w' := by
  have L1 := Lib.hid h1.1
  have L2 := Lib.hid h2.1
  have q56 := fun x y W => run_eqR x y W
  by_cases hnm : n = m
  · subst hnm
    have d0 : ((n : Int) != (n : Int)) = false := by rw [bne_eq_false_iff_eq]
    go_enter Try.func32, Try.ntmps32
    go_wp2_with fail
    clear d0
    go_loopw [5] (fun i wr => ∃ k : Nat, k ≤ n ∧ i = .int .i64 (k : Int) ∧ Hid (∀ j, j < k → gAt xs j = gAt ys j) ∧ Hid (Below w.heap.size w wr)) (fun i _ => n - (intOf i).toNat)
    case atStart => exact ⟨0, Nat.zero_le _, rfl, Lib.hid (fun j h => by omega), Lib.hid (Below.refl _ _)⟩
    case round =>
      obtain ⟨k, hk, rfl, HI, HB⟩ := hrel
      obtain ⟨wk, rfl⟩ : ∃ wk, wk = wr := ⟨_, rfl⟩
      by_cases hlt : k < n
      · obtain ⟨-, ha⟩ := h1.below HB.out (Nat.le_refl _)
        obtain ⟨-, hb⟩ := h2.below HB.out (Nat.le_refl _)
        obtain ⟨b1, o1, rfl, hc1⟩ := ha (by omega)
        obtain ⟨b2, o2, rfl, hc2⟩ := hb (by omega)
        obtain ⟨x0, x1⟩ := hc1 k hlt
        obtain ⟨y0, y1⟩ := hc2 k hlt
        obtain ⟨x, hx⟩ : ∃ x, gAt xs k = x := ⟨_, rfl⟩
        obtain ⟨y, hy⟩ : ∃ y, gAt ys k = y := ⟨_, rfl⟩
        rw [hx] at x0 x1
        rw [hy] at y0 y1
        have HX := Lib.hid (And.intro hx hy)
        have i0 : (0 : Int) ≤ (k : Int) := by omega
        have i1 : (k : Int) < (n : Int) := by omega
        clear hc1 hc2 ha hb hx hy h1 h2
        have q := fun W => run_eqR x y W
        by_cases hxy : x = y
        · have d1 : decide (x = y) = true := decide_eq_true hxy
          have HE := Lib.hid hxy
          rw [d1] at q
          clear hxy d1 q56
          go_wp2_with fail
          go_region
          all_goals (go_wp2_with fail)
          go_roundw
          case rel => exact ⟨k + 1, by omega, by go_num, Lib.hid (fun j hj => by
            rcases Nat.lt_or_ge j k with h | h
            · exact HI.out j h
            · have e : j = k := by omega
              subst e; rw [HX.out.1, HX.out.2]; exact HE.out), Lib.hid (HB.out.trans ((drew_b wk 1).mono HB.out.size))⟩
          case measure => simp [intOf]; omega
        · have d1 : decide (x = y) = false := decide_eq_false hxy
          have HE := Lib.hid hxy
          rw [d1] at q
          clear hxy d1 q56
          go_wp2_with fail
          go_region
          all_goals (go_wp2_with fail)
          go_ret
          exact ⟨ret_bool (rgs_ne (k := k) (by rw [HX.out.1, HX.out.2]; exact HE.out)).symm, HB.out.trans ((drew_b wk 1).mono HB.out.size)⟩
      · go_wp2_with fail
        go_ret
        exact ⟨ret_bool (rgs_eq (by rw [L1.out, L2.out]) (fun j hj => HI.out j (by have := L1.out; omega))).symm, HB.out⟩
  · have d0 : ((n : Int) != (m : Int)) = true := by rw [bne_iff_ne]; omega
    have HN := Lib.hid hnm
    clear hnm h1 h2 q56
    go_enter Try.func32, Try.ntmps32
    go_wp2_with fail
    go_ret
    exact ⟨ret_bool (decide_eq_false (fun e => HN.out (by rw [← L1.out, ← L2.out, e]))).symm, Below.refl _ _⟩
set_option maxRecDepth 100000 in
theorem rg37 (a b : Int) (w : World) : Calls Try.prog 37 #[.int .i64 a, .int .i64 b] w fun e w' => e = .returned (.agg #[.int .i64 a, .int .i64 b]) ∧ Below w.heap.size w w' := by
  go_enter Try.func37, Try.ntmps37
  go_wp2_with fail
  refine bodyPost_ret (v := .agg #[.int .i64 a, .int .i64 b]) (by simp [results, Try.results37, go_sem]) rfl ⟨rfl, below_alloc_ _ _⟩
/-- The song of the chapter's examples. -/
def songX : List Rg := [⟨100, 140⟩, ⟨120, 200⟩, ⟨300, 330⟩, ⟨190, 310⟩, ⟨320, 400⟩]
set_option maxRecDepth 100000 in
set_option maxHeartbeats 4000000 in
theorem song39 (w : World) : Calls Try.prog 39 #[] w fun e w' => ∃ D, e = .returned (.slice (some ⟨D, 0, none⟩) 5 5) ∧ Rgs w' (some ⟨D, 0, none⟩) 5 songX ∧ w.heap.size ≤ D ∧ Below w.heap.size w w' := by
  go_enter Try.func39, Try.ntmps39
  go_wp2_with fail
  refine (rg37 100 140 _).mono ?_
  rintro e w1 ⟨rfl, hb1⟩
  go_wp2_with fail
  refine (rg37 120 200 _).mono ?_
  rintro e w2 ⟨rfl, hb2⟩
  go_wp2_with fail
  refine (rg37 300 330 _).mono ?_
  rintro e w3 ⟨rfl, hb3⟩
  go_wp2_with fail
  refine (rg37 190 310 _).mono ?_
  rintro e w4 ⟨rfl, hb4⟩
  go_wp2_with fail
  refine (rg37 320 400 _).mono ?_
  rintro e w5 ⟨rfl, hb5⟩
  have hB := hb1.trans ((hb2.trans ((hb3.trans ((hb4.trans (hb5.mono hb4.size)).mono hb3.size)).mono hb2.size)).mono hb1.size)
  have HB := Lib.hid hB
  clear hb1 hb2 hb3 hb4 hb5 hB
  go_wp2_with fail
  go_ret
  have hn := heap_alloc_new_ w5 (.cells #[.int .i64 100, .int .i64 140, .int .i64 120, .int .i64 200, .int .i64 300, .int .i64 330, .int .i64 190, .int .i64 310, .int .i64 320, .int .i64 400] 56)
  refine ⟨_, rfl, ⟨rfl, fun _ => ⟨_, 0, rfl, fun j hj => ?_⟩⟩, HB.out.size, HB.out.trans ((below_alloc_ w5 _).mono HB.out.size)⟩
  simp only [cell_row hn]
  match j, hj with
  | 0, _ => exact ⟨rfl, rfl⟩
  | 1, _ => exact ⟨rfl, rfl⟩
  | 2, _ => exact ⟨rfl, rfl⟩
  | 3, _ => exact ⟨rfl, rfl⟩
  | 4, _ => exact ⟨rfl, rfl⟩
end Go.Proofs.Ytdfdlklglbefiaa
