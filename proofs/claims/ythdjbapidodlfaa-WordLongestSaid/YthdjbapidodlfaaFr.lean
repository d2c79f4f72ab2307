/- Stage 4: what is known of the matches in front of a place, found and kept. -/
import Derived.Test.YthdjbapidodlfaaCht
import Derived.Deep.Cut
import Derived.Deep.CutRange
import Derived.Deep.RegionHeld3
namespace Go.Proofs.Ythdjbapidodlfaa
set_option linter.unusedSimpArgs false
set_option linter.unusedVariables false
open Go.RowKit Go.Shelf
attribute [local go_sem ↓] exec_app at_app
attribute [local go_sem] Oper.semAt_some

def bd : Nat → Nat
  | 0 => 0
  | d + 1 => 8 * (1 + bd d)
/-- How many places are kept at most. -/
def pb (d t : Nat) : Nat := match d with
  | 0 => 0
  | d + 1 => t * (1 + bd d)
theorem pb_le {d t : Nat} (ht : t ≤ 8) : pb d t ≤ bd d := by
  cases d with
  | zero => exact Nat.le_refl _
  | succ d => exact Nat.mul_le_mul_right _ ht
theorem bd_le : ∀ d, d ≤ 4 → bd d ≤ 4680 := by
  intro d hd
  match d, hd with
  | 0, _ => decide
  | 1, _ => decide
  | 2, _ => decide
  | 3, _ => decide
  | 4, _ => decide
/-- What the search in front of a place goes by. -/
structure FrH (E : List Int → Int × Int) (mt : List (List Int)) (m : Nat) : Prop where
  nodup : mt.Nodup
  lo : 1 ≤ m
  hi : m ≤ 4
  wpl : ∀ x ∈ mt, WPl m x
  pos : ∀ x ∈ mt, 0 ≤ (E x).1
  small : ∀ q h, h ≤ m → WPl m q → (∀ i, i < h → 1 ≤ iAt q i) → 0 ≤ (frK E mt m q h).2 ∧ (frK E mt m q h).2 ≤ 1000000000000
/-- All matches in front of a place are on the chart, and nothing else is. -/
structure Dealt (E : List Int → Int × Int) (mt : List (List Int)) (m : Nat) (p : List Int) (Se : List Int → Option Value) : Prop where
  all : ∀ x ∈ mt, befB x p m = true → Se x = some (knV (E x))
  only : ∀ x v, domL x → Se x = some v → x ∈ mt ∧ v = knV (E x)
section
variable {E : List Int → Int × Int} {mt : List (List Int)} {m : Nat} {p : List Int} {Se : List Int → Option Value}
theorem WPl.down {h : Nat} (hp : WPl m p) (hh : h < m) (h4 : m ≤ 4) (h1 : 1 ≤ iAt p h) : WPl m (p.set h (iAt p h - 1)) := by
  have hl := hp.len
  have e : ∀ j, iAt (p.set h (iAt p h - 1)) j = if h = j then iAt p h - 1 else iAt p j := fun j => iAt_set9 _ (by omega)
  refine ⟨by rw [List.length_set]; exact hl, fun i hi => by rw [e, if_neg (by omega)]; exact hp.zero i hi, fun i hi => ?_⟩
  have := hp.rng i hi
  rw [e]
  by_cases hih : h = i
  · subst hih; rw [if_pos rfl]; omega
  · rw [if_neg hih]; exact this
theorem Dealt.down {h : Nat} (hd : Dealt E mt m p Se) (hp : WPl m p) (hh : h < m) (h4 : m ≤ 4) : Dealt E mt m (p.set h (iAt p h - 1)) Se := by
  have hl := hp.len
  have e : ∀ j, iAt (p.set h (iAt p h - 1)) j = if h = j then iAt p h - 1 else iAt p j := fun j => iAt_set9 _ (by omega)
  refine ⟨fun x hx hb => hd.all x hx ?_, hd.only⟩
  rw [befB_iff] at hb ⊢
  intro i hi
  have := hb i hi
  rw [e] at this
  by_cases hih : h = i
  · subst hih; rw [if_pos rfl] at this; omega
  · rw [if_neg hih] at this; exact this
theorem dealt_end (H : FrH E mt m) (hd : Dealt E mt m p Se) (hp : WPl m p) : domL (dK p m) ∧ (Se (dK p m)).getD (knV (0, 0)) = knV (frK E mt m p m) := by
  have hl := hp.len
  have hm4 := H.hi
  have hdom : domL (dK p m) := ⟨by rw [dK_len]; exact hl, fun i hi => by
    rw [dK_at (by omega)]
    unfold inP
    by_cases him : i < m
    · have := hp.rng i him
      rw [if_pos him]; omega
    · rw [if_neg him, hp.zero i (by omega)]; omega⟩
  refine ⟨hdom, ?_⟩
  rw [frK_end E H.nodup H.hi H.wpl hp H.pos]
  by_cases hin : dK p m ∈ mt
  · rw [if_pos hin, hd.all _ hin (befB_iff.2 (fun i hi => by rw [dK_at (by omega), if_pos hi]; omega))]
    rfl
  · rw [if_neg hin]
    cases hS : Se (dK p m) with
    | none => rfl
    | some v => exact absurd (hd.only _ v hdom hS).1 hin
end
set_option maxRecDepth 100000 in
set_option maxHeartbeats 16000000 in
theorem front78_end {E : List Int → Int × Int} {mt : List (List Int)} {m : Nat} (H : FrH E mt m) (Cb B Me : Nat) (Ms : Nat → Nat) (ak : Int × Int) (Se : List Int → Option Value) (A2 : Option Addr) (cap2 : Nat) (p : List Int) (hp : WPl m p) (hd : Dealt E mt m p Se) (nn : Nat) (w : World) (hc : Cht w Cb B Me Ms nn ak Se (fun h p => frK E mt m p h)) (hb : w.cell? ⟨B, 1, none⟩ = some (.slice A2 m cap2)) :
    Calls Try.prog 78 #[.pointer (some ⟨Cb, 0, none⟩), plA p, .int .i64 (m : Int)] w fun e w' => e = .returned (knV (frK E mt m p m)) ∧ Below w.heap.size w w' := by
  obtain ⟨hdom, hget⟩ := dealt_end H hd hp
  have HC := Lib.hid hc
  have HDom := Lib.hid hdom
  have HGet := Lib.hid hget
  have HP := Lib.hid hp
  have hm1 := H.lo
  have hm4 := H.hi
  have k2 : Keeps (fun _ => False) w ((w.alloc (.cells #[.int .i64 (iAt p 0), .int .i64 (iAt p 1), .int .i64 (iAt p 2), .int .i64 (iAt p 3)] 79)).alloc (.cells #[.int .i64 0, .int .i64 0] 91)) := (keep_alloc _ _ _).trans (keep_alloc _ _ _)
  have e0 : RowP ((w.alloc (.cells #[.int .i64 (iAt p 0), .int .i64 (iAt p 1), .int .i64 (iAt p 2), .int .i64 (iAt p 3)] 79)).alloc (.cells #[.int .i64 0, .int .i64 0] 91)) w.heap.size p := ⟨hp.len, by rw [flat4 hp.len]; exact hal_old (heap_alloc_new_ _ _)⟩
  have e1 : ((w.alloc (.cells #[.int .i64 (iAt p 0), .int .i64 (iAt p 1), .int .i64 (iAt p 2), .int .i64 (iAt p 3)] 79)).alloc (.cells #[.int .i64 0, .int .i64 0] 91)).heap[w.heap.size + 1]? = some (.cells #[.int .i64 0, .int .i64 0] 91 (0, 0)) := hal_new (by simp)
  have c0 := (hc.below k2.new (Nat.le_refl _)).c0
  have b1 := (k2.new.cell (p := ⟨B, 1, none⟩) (lt_of_cell hb)).trans hb
  have K2 := Lib.hid k2
  have E0 := Lib.hid e0
  have E1 := Lib.hid e1
  clear k2 e0 e1 hc hd hdom hget
  unfold plA
  go_enter Try.func78, Try.ntmps78
  go_wp2_with fail
  obtain ⟨V, hV⟩ : ∃ V, (w.alloc (.cells #[.int .i64 (iAt p 0), .int .i64 (iAt p 1), .int .i64 (iAt p 2), .int .i64 (iAt p 3)] 79)).alloc (.cells #[.int .i64 0, .int .i64 0] 91) = V := ⟨_, rfl⟩
  obtain ⟨Z, hZ⟩ : ∃ Z, w.heap.size = Z := ⟨_, rfl⟩
  have HZ := Lib.hid hZ
  have k2 := K2.out
  have e0 := E0.out
  have e1 := E1.out
  rw [hV] at k2 e0 e1 ⊢
  rw [hZ] at e0 e1 ⊢
  replace K2 := Lib.hid k2
  replace E0 := Lib.hid e0
  replace E1 := Lib.hid e1
  clear hV hZ k2 e0 e1 c0 b1
  go_loopw [7, 31] (fun x i wr => ∃ k : Nat, k ≤ m ∧ i = .int .i64 (k : Int) ∧ Hid (RowP wr Z (dK p k) ∧ Keeps (fun k => k = Z) V wr)) (fun x i _ => m - (intOf i).toNat)
  case atStart => exact ⟨0, Nat.zero_le _, rfl, Lib.hid ⟨E0.out, Keeps.refl _ _⟩⟩
  case round =>
    obtain ⟨k, hk, rfl, HI⟩ := hrel
    by_cases hlt : k < m
    · have hrow := HI.out.1
      have hput := hrow.put k (iAt p k - 1)
      rw [← dK_succ] at hput
      obtain ⟨hb1, hb2⟩ := HP.out.rng k hlt
      have z0 := hrow.cell (j := k) (by omega)
      rw [dK_at (by rw [HP.out.len]; omega), if_neg (by omega)] at z0
      obtain ⟨pv, hpv⟩ : ∃ pv, iAt p k = pv := ⟨_, rfl⟩
      have zf := hrow.fz k
      have hks := keeps_setCell wr Z k (.int .i64 (iAt p k - 1))
      rw [hpv] at z0 hput hks hb1 hb2
      have HN := Lib.hid (show RowP (wr.setCell ⟨Z, k, none⟩ (.int .i64 (pv - 1))) Z (dK p (k + 1)) ∧ Keeps (fun k => k = Z) V (wr.setCell ⟨Z, k, none⟩ (.int .i64 (pv - 1))) from ⟨hput, HI.out.2.trans hks⟩)
      have i0 : (0 : Int) ≤ (k : Int) := by omega
      have i1 : (k : Int) < (m : Int) := by omega
      have i2 : (k : Int) < 4 := by omega
      clear hrow hput hks HI hpv
      go_wp2_with fail
      go_roundw
      case rel => exact ⟨k + 1, by omega, by go_num, HN⟩
      case measure => simp [intOf]; omega
    · obtain rfl : k = m := by omega
      obtain ⟨hrow, hkk⟩ := HI.out
      have x0 := hrow.cell (j := 0) (by omega)
      have x1 := hrow.cell (j := 1) (by omega)
      have x2 := hrow.cell (j := 2) (by omega)
      have x3 := hrow.cell (j := 3) (by omega)
      have hz1 : wr.heap[Z + 1]? = some (.cells #[.int .i64 0, .int .i64 0] 91 (0, 0)) := (hkk.block _ (lt_of_block E1.out) (by omega)).trans E1.out
      have y0 : wr.cell? ⟨Z + 1, 0, none⟩ = some (.int .i64 0) := by rw [cell_row hz1]; rfl
      have y1 : wr.cell? ⟨Z + 1, 1, none⟩ = some (.int .i64 0) := by rw [cell_row hz1]; rfl
      have f0 : wr.frozen? ⟨Z + 1, 0, none⟩ = false := frozen_row hz1
      have f1 : wr.frozen? ⟨Z + 1, 1, none⟩ = false := frozen_row hz1
      have hbw : Below w.heap.size w wr := by
        have h1 := HZ.out
        exact ((K2.out.none (Mut := fun k => k = Z)).trans hkk).below (Nat.le_refl _) (fun k hk e => by omega)
      have hcr := HC.out.below hbw (Nat.le_refl _)
      have c1 := hcr.c1
      obtain ⟨R, hR⟩ : ∃ R, frK E mt k p k = R := ⟨_, rfl⟩
      have HR := Lib.hid hR
      obtain ⟨q, hq⟩ : ∃ q, dK p k = q := ⟨_, rfl⟩
      rw [hq] at x0 x1 x2 x3
      have Hq := Lib.hid hq
      have HCr := Lib.hid hcr
      have Hbw := Lib.hid hbw
      have Hz1 := Lib.hid hz1
      clear hrow hkk HI hbw hcr hR hq
      go_wp2_with fail
      have hCbZ : Cb < Z := by rw [← HZ.out]; exact lt_of_block HC.out.row
      have hMeZ : Me < Z := by rw [← HZ.out]; exact HC.out.ends.lt
      have hMsZ : ∀ j, j < 4 → Ms j < Z := fun j hj => by rw [← HZ.out]; exact HC.out.ltF hj
      have Hlook := Lib.hid (fun (w2 : World) (h2 : Keeps (fun k => k = Z + 1) wr w2) => (show (Instr.lookup 88 (.map (some Me)) (plA q) false).run Try.prog w2 = .ok (.agg #[.int .i64 R.1, .int .i64 R.2]) w2 from by
        have h3 := (HCr.out.keep h2 (by show ¬ _ = _; omega) (by show ¬ _ = _; omega) (fun j hj => by have := hMsZ j hj; show ¬ _ = _; omega)).lookE (Hq.out ▸ HDom.out)
        rw [← Hq.out, HGet.out, HR.out] at h3
        rw [← Hq.out]
        exact h3))
      clear hMsZ
      refine wp_region_held_drew (S := fun w2 => Keeps (fun k => k = Z + 1) wr w2) (by kernel_rfl) (Keeps.of_new (drew_b _ _)) (fun hS0 => ?_)
      refine wpAnyH_take (i := 0) (oi := { dst := some 40, op := Go.Op.move (Go.Operand.tmp 0), type := 86, pos := "chart.go:56", after := #[], guard := none }) (v := .pointer (some ⟨Cb, 0, none⟩)) rfl (by kernel_rfl) (by kernel_rfl) (by kernel_rfl) (fun _ _ _ h => h) (Or.inl ⟨by rfl, by intro w2 hSw; (try dsimp only at hSw); go_simp⟩) hS0 ?_
      try simp only [Act.put, List.setIfInBounds_toArray, List.set_cons_zero, List.set_cons_succ]
      refine wpAnyH_take (i := 1) (oi := { dst := some 41, op := Go.Op.nilCheck (Go.Operand.tmp 40), type := 0, pos := "chart.go:56", after := #[{ on := 0, ground := Go.Ground.data }], guard := none }) (v := .pointer (some ⟨Cb, 0, none⟩)) rfl (by kernel_rfl) (by kernel_rfl) (by kernel_rfl) (fun _ _ _ h => h) (Or.inl ⟨by rfl, by intro w2 hSw; (try dsimp only at hSw); go_simp⟩) hS0 ?_
      try simp only [Act.put, List.setIfInBounds_toArray, List.set_cons_zero, List.set_cons_succ]
      refine wpAnyH_take (i := 2) (oi := { dst := some 42, op := Go.Op.fieldAddr 93 (Go.Operand.tmp 41) 1, type := 0, pos := "chart.go:56", after := #[{ on := 1, ground := Go.Ground.data }], guard := none }) (v := .pointer (some ⟨Cb, 1, none⟩)) rfl (by kernel_rfl) (by kernel_rfl) (by kernel_rfl) (fun _ _ _ h => h) (Or.inl ⟨by rfl, by intro w2 hSw; (try dsimp only at hSw); go_simp⟩) hS0 ?_
      try simp only [Act.put, List.setIfInBounds_toArray, List.set_cons_zero, List.set_cons_succ]
      refine wpAnyH_take (i := 3) (oi := { dst := some 43, op := Go.Op.load 88 (Go.Operand.tmp 42), type := 88, pos := "chart.go:56", after := #[{ on := 2, ground := Go.Ground.data }], guard := none }) (v := .map (some Me)) rfl (by kernel_rfl) (by kernel_rfl) (by kernel_rfl) (fun _ _ _ h => h) (Or.inl ⟨by rfl, by intro w2 hSw; (try dsimp only at hSw); have q_c1 := (keep_cells hSw (lt_of_cell c1) (by show ¬ _ = _; omega) _).trans c1; go_simp⟩) hS0 ?_
      try simp only [Act.put, List.setIfInBounds_toArray, List.set_cons_zero, List.set_cons_succ]
      refine wpAnyH_take (i := 4) (oi := { dst := some 44, op := Go.Op.load 79 (Go.Operand.tmp 4), type := 79, pos := "chart.go:56", after := #[], guard := none }) (v := .agg #[.int .i64 (iAt q 0), .int .i64 (iAt q 1), .int .i64 (iAt q 2), .int .i64 (iAt q 3)]) rfl (by kernel_rfl) (by kernel_rfl) (by kernel_rfl) (fun _ _ _ h => h) (Or.inl ⟨by rfl, by intro w2 hSw; (try dsimp only at hSw); have q_x0 := (keep_cells hSw (lt_of_cell x0) (by show ¬ _ = _; omega) _).trans x0; have q_x1 := (keep_cells hSw (lt_of_cell x1) (by show ¬ _ = _; omega) _).trans x1; have q_x2 := (keep_cells hSw (lt_of_cell x2) (by show ¬ _ = _; omega) _).trans x2; have q_x3 := (keep_cells hSw (lt_of_cell x3) (by show ¬ _ = _; omega) _).trans x3; go_simp⟩) hS0 ?_
      try simp only [Act.put, List.setIfInBounds_toArray, List.set_cons_zero, List.set_cons_succ]
      refine wpAnyH_take (i := 5) (oi := { dst := some 45, op := Go.Op.lookup 88 (Go.Operand.tmp 43) (Go.Operand.tmp 44) false, type := 91, pos := "chart.go:56", after := #[{ on := 3, ground := Go.Ground.data }, { on := 4, ground := Go.Ground.data }], guard := none }) (v := .agg #[.int .i64 R.1, .int .i64 R.2]) rfl (by kernel_rfl) (by kernel_rfl) (by kernel_rfl) (fun _ _ _ h => h) (Or.inl ⟨by rfl, by intro w2 hSw; (try dsimp only at hSw); have hlk := Hlook.out w2 hSw; (try unfold plA at hlk); go_simp⟩) hS0 ?_
      try simp only [Act.put, List.setIfInBounds_toArray, List.set_cons_zero, List.set_cons_succ]
      refine wpAnyH_ready (rs := [6]) (by kernel_rfl) (by simp) ?_
      refine AllReadyH.cons (o := { dst := none, op := Go.Op.store 91 (Go.Operand.tmp 6) (Go.Operand.tmp 45), type := 0, pos := "chart.go:56", after := #[{ on := 5, ground := Go.Ground.data }, { on := 0, ground := Go.Ground.phase }, { on := 1, ground := Go.Ground.phase }, { on := 2, ground := Go.Ground.phase }, { on := 3, ground := Go.Ground.phase }, { on := 4, ground := Go.Ground.phase }, { on := 5, ground := Go.Ground.phase }], guard := none }) rfl (fun K2 hK => ?_) AllReadyH.nil
      have hb9 := drew_b wr 1
      obtain ⟨V1, hV1⟩ : ∃ V1, wr.drew = V1 := ⟨_, rfl⟩
      have hz2 : V1.heap[Z + 1]? = some (.cells #[.int .i64 0, .int .i64 0] 91 (0, 0)) := by rw [← hV1]; exact Hz1.out
      have HV1 := Lib.hid (show Below wr.heap.size wr V1 by rw [← hV1]; exact drew_b wr 1)
      rw [hV1] at hS0 ⊢
      clear hb9 hV1
      have w0 : V1.cell? ⟨Z + 1, 0, none⟩ = some (.int .i64 0) := by rw [cell_row hz2]; rfl
      have w1 : V1.cell? ⟨Z + 1, 1, none⟩ = some (.int .i64 0) := by rw [cell_row hz2]; rfl
      have g0 : V1.frozen? ⟨Z + 1, 0, none⟩ = false := frozen_row hz2
      have g1 : V1.frozen? ⟨Z + 1, 1, none⟩ = false := frozen_row hz2
      go_simp
      have hkk := keeps_setCell V1 (Z + 1) 0 (.int .i64 R.1)
      have hk2 := keeps_setCell (V1.setCell ⟨Z + 1, 0, none⟩ (.int .i64 R.1)) (Z + 1) 1 (.int .i64 R.2)
      have hrow := set_same (W := V1) 0 (.int .i64 R.1) hz2
      have hrow2 := set_same 1 (.int .i64 R.2) hrow
      obtain ⟨V2, hV2⟩ : ∃ V2, (V1.setCell ⟨Z + 1, 0, none⟩ (.int .i64 R.1)).setCell ⟨Z + 1, 1, none⟩ (.int .i64 R.2) = V2 := ⟨_, rfl⟩
      rw [hV2] at hk2 hrow2 ⊢
      have hk3 : Keeps (fun k => k = Z + 1) wr V2 := (Keeps.of_new HV1.out).trans (hkk.trans hk2)
      have Hrow := Lib.hid hrow2
      have HK3 := Lib.hid hk3
      clear hkk hk2 hrow hrow2 hV2 w0 w1 g0 g1 hz2
      refine hK.out _ _ hk3 (fun hS1 => ?_)
      clear hK K2 hk3
      try simp only [Act.put, List.setIfInBounds_toArray, List.set_cons_zero, List.set_cons_succ]
      refine wpAnyH_done (by kernel_rfl) ?_ _
      go_wp2_with fail
      refine bodyPost_ret (v := knV R) (res_known Try.results78 (by rfl) Hrow.out) rfl ?_
      exact ⟨by rw [HR.out], Hbw.out.trans (HK3.out.below Hbw.out.size (fun k hk e => by have := HZ.out; omega))⟩
set_option maxRecDepth 100000 in
set_option maxHeartbeats 32000000 in
theorem front78_step {E : List Int → Int × Int} {mt : List (List Int)} {m : Nat} (H : FrH E mt m) (Cb B Me : Nat) (Ms : Nat → Nat) (ak : Int × Int) (Se : List Int → Option Value) (A2 : Option Addr) (cap2 : Nat) (hBM : ∀ k, mutF Ms k → k ≠ B) (p : List Int) (h : Nat) (hp : WPl m p) (hh : h < m) (h1 : ∀ i, i < h → 1 ≤ iAt p i) (hph : 1 ≤ iAt p h) (n1 n2 : Nat)
    (R1 : ∀ (nn : Nat) (w : World), Cht w Cb B Me Ms nn ak Se (fun h p => frK E mt m p h) → w.cell? ⟨B, 1, none⟩ = some (.slice A2 m cap2) → nn + n1 ≤ 900000000 →
      Calls Try.prog 78 #[.pointer (some ⟨Cb, 0, none⟩), plA p, .int .i64 ((h : Int) + 1)] w fun e w' => e = .returned (knV (frK E mt m p (h + 1))) ∧ Cht w' Cb B Me Ms (nn + n1) ak Se (fun h p => frK E mt m p h) ∧ Keeps (mutF Ms) w w')
    (R2 : ∀ (nn : Nat) (w : World), Cht w Cb B Me Ms nn ak Se (fun h p => frK E mt m p h) → w.cell? ⟨B, 1, none⟩ = some (.slice A2 m cap2) → nn + n2 ≤ 900000000 →
      Calls Try.prog 78 #[.pointer (some ⟨Cb, 0, none⟩), plA (p.set h (iAt p h - 1)), .int .i64 (h : Int)] w fun e w' => e = .returned (knV (frK E mt m (p.set h (iAt p h - 1)) h)) ∧ Cht w' Cb B Me Ms (nn + n2) ak Se (fun h p => frK E mt m p h) ∧ Keeps (mutF Ms) w w')
    (nn : Nat) (w : World) (hc : Cht w Cb B Me Ms nn ak Se (fun h p => frK E mt m p h)) (hb : w.cell? ⟨B, 1, none⟩ = some (.slice A2 m cap2)) (hnn : nn + (1 + n1 + n2) ≤ 900000000) :
    Calls Try.prog 78 #[.pointer (some ⟨Cb, 0, none⟩), plA p, .int .i64 (h : Int)] w fun e w' => e = .returned (knV (frK E mt m p h)) ∧ Cht w' Cb B Me Ms (nn + (1 + n1 + n2)) ak Se (fun h p => frK E mt m p h) ∧ Keeps (mutF Ms) w w' := by
  have HC := Lib.hid hc
  have HP := Lib.hid hp
  have H1 := Lib.hid h1
  have HR1 := Lib.hid R1
  have HR2 := Lib.hid R2
  have hm4 := H.hi
  have HBM := Lib.hid hBM
  have HBc := Lib.hid hb
  have HSp := Lib.hid (frK_split E mt hh (by rw [hp.len]; omega))
  have k2 : Keeps (fun _ => False) w ((w.alloc (.cells #[.int .i64 (iAt p 0), .int .i64 (iAt p 1), .int .i64 (iAt p 2), .int .i64 (iAt p 3)] 79)).alloc (.cells #[.int .i64 0, .int .i64 0] 91)) := (keep_alloc _ _ _).trans (keep_alloc _ _ _)
  have e0 : RowP ((w.alloc (.cells #[.int .i64 (iAt p 0), .int .i64 (iAt p 1), .int .i64 (iAt p 2), .int .i64 (iAt p 3)] 79)).alloc (.cells #[.int .i64 0, .int .i64 0] 91)) w.heap.size p := ⟨hp.len, by rw [flat4 hp.len]; exact hal_old (heap_alloc_new_ _ _)⟩
  have e1 : ((w.alloc (.cells #[.int .i64 (iAt p 0), .int .i64 (iAt p 1), .int .i64 (iAt p 2), .int .i64 (iAt p 3)] 79)).alloc (.cells #[.int .i64 0, .int .i64 0] 91)).heap[w.heap.size + 1]? = some (.cells #[.int .i64 0, .int .i64 0] 91 (0, 0)) := hal_new (by simp)
  have c0 := (hc.below k2.new (Nat.le_refl _)).c0
  have b1 := (k2.new.cell (p := ⟨B, 1, none⟩) (lt_of_cell hb)).trans hb
  have z0 := e0.cell (j := h) (by omega)
  obtain ⟨pv, hpv⟩ : ∃ pv, iAt p h = pv := ⟨_, rfl⟩
  have hp8 := hp.rng h hh
  rw [hpv] at z0 hph hp8
  have Hpv := Lib.hid hpv
  have K2 := Lib.hid k2
  have E0 := Lib.hid e0
  have E1 := Lib.hid e1
  have HNn := Lib.hid hnn
  have d1 : ((h : Int) == (m : Int)) = false := by rw [beq_eq_false_iff_ne]; omega
  have d2 : (pv == 0) = false := by rw [beq_eq_false_iff_ne]; omega
  have i0 : (0 : Int) ≤ (h : Int) := by omega
  have i2 : (h : Int) < 4 := by omega
  clear k2 e0 e1 hc hp h1 R1 R2 hb hpv hnn hBM
  unfold plA
  go_enter Try.func78, Try.ntmps78
  go_wp2_with fail
  obtain ⟨V, hV⟩ : ∃ V, (w.alloc (.cells #[.int .i64 (iAt p 0), .int .i64 (iAt p 1), .int .i64 (iAt p 2), .int .i64 (iAt p 3)] 79)).alloc (.cells #[.int .i64 0, .int .i64 0] 91) = V := ⟨_, rfl⟩
  obtain ⟨Z, hZ⟩ : ∃ Z, w.heap.size = Z := ⟨_, rfl⟩
  have HZ := Lib.hid hZ
  have k2 := K2.out
  have e0 := E0.out
  have e1 := E1.out
  rw [hV] at k2 e0 e1 ⊢
  rw [hZ] at e0 e1 ⊢
  have hZV : Z + 1 < V.heap.size := lt_of_block e1
  replace K2 := Lib.hid k2
  replace E0 := Lib.hid e0
  replace E1 := Lib.hid e1
  have hcV := HC.out.below k2.new (Nat.le_refl _)
  have HCV := Lib.hid hcV
  have x0 := e0.cell (j := 0) (by omega)
  have x1 := e0.cell (j := 1) (by omega)
  have x2 := e0.cell (j := 2) (by omega)
  have x3 := e0.cell (j := 3) (by omega)
  have cF := hcV.cF (k := h) (by omega)
  clear hV hZ k2 e0 e1 c0 b1 z0 hcV d1 d2
  obtain ⟨ok, L0, hLe, hL⟩ := HCV.out.lookG (k := h) (by omega) HP.out.dom
  have HL := Lib.hid hL
  have HLe := Lib.hid hLe
  clear hL hLe
  cases ok with
  | true =>
    replace HLe := Lib.hid (HLe.out rfl)
    refine wp_region_held_drew (S := fun w2 => Below V.heap.size V w2) (by kernel_rfl) (drew_b _ _) (fun hS0 => ?_)
    refine wpAnyH_take (i := 0) (oi := { dst := some 52, op := Go.Op.move (Go.Operand.tmp 0), type := 86, pos := "chart.go:61", after := #[], guard := none }) (v := .pointer (some ⟨Cb, 0, none⟩)) rfl (by kernel_rfl) (by kernel_rfl) (by kernel_rfl) (fun _ _ _ h => h) (Or.inl ⟨by rfl, by intro w2 hSw; (try dsimp only at hSw); go_simp⟩) hS0 ?_
    try simp only [Act.put, List.setIfInBounds_toArray, List.set_cons_zero, List.set_cons_succ]
    refine wpAnyH_take (i := 1) (oi := { dst := some 53, op := Go.Op.move (Go.Operand.tmp 2), type := 3, pos := "chart.go:61", after := #[], guard := none }) (v := .int .i64 (h : Int)) rfl (by kernel_rfl) (by kernel_rfl) (by kernel_rfl) (fun _ _ _ h => h) (Or.inl ⟨by rfl, by intro w2 hSw; (try dsimp only at hSw); go_simp⟩) hS0 ?_
    try simp only [Act.put, List.setIfInBounds_toArray, List.set_cons_zero, List.set_cons_succ]
    refine wpAnyH_take (i := 2) (oi := { dst := some 54, op := Go.Op.nilCheck (Go.Operand.tmp 52), type := 0, pos := "chart.go:61", after := #[{ on := 0, ground := Go.Ground.data }], guard := none }) (v := .pointer (some ⟨Cb, 0, none⟩)) rfl (by kernel_rfl) (by kernel_rfl) (by kernel_rfl) (fun _ _ _ h => h) (Or.inl ⟨by rfl, by intro w2 hSw; (try dsimp only at hSw); go_simp⟩) hS0 ?_
    try simp only [Act.put, List.setIfInBounds_toArray, List.set_cons_zero, List.set_cons_succ]
    refine wpAnyH_take (i := 3) (oi := { dst := some 55, op := Go.Op.fieldAddr 93 (Go.Operand.tmp 54) 2, type := 0, pos := "chart.go:61", after := #[{ on := 2, ground := Go.Ground.data }], guard := none }) (v := .pointer (some ⟨Cb, 2, none⟩)) rfl (by kernel_rfl) (by kernel_rfl) (by kernel_rfl) (fun _ _ _ h => h) (Or.inl ⟨by rfl, by intro w2 hSw; (try dsimp only at hSw); go_simp⟩) hS0 ?_
    try simp only [Act.put, List.setIfInBounds_toArray, List.set_cons_zero, List.set_cons_succ]
    refine wpAnyH_take (i := 4) (oi := { dst := some 56, op := Go.Op.indexAddr 89 (Go.Operand.tmp 55) (Go.Operand.tmp 53), type := 0, pos := "chart.go:61", after := #[{ on := 3, ground := Go.Ground.data }, { on := 1, ground := Go.Ground.data }], guard := none }) (v := .pointer (some ⟨Cb, 2 + h, none⟩)) rfl (by kernel_rfl) (by kernel_rfl) (by kernel_rfl) (fun _ _ _ h => h) (Or.inl ⟨by rfl, by intro w2 hSw; (try dsimp only at hSw); go_simp⟩) hS0 ?_
    try simp only [Act.put, List.setIfInBounds_toArray, List.set_cons_zero, List.set_cons_succ]
    refine wpAnyH_take (i := 5) (oi := { dst := some 57, op := Go.Op.load 88 (Go.Operand.tmp 56), type := 88, pos := "chart.go:61", after := #[{ on := 4, ground := Go.Ground.data }], guard := none }) (v := .map (some (Ms h))) rfl (by kernel_rfl) (by kernel_rfl) (by kernel_rfl) (fun _ _ _ h => h) (Or.inl ⟨by rfl, by intro w2 hSw; (try dsimp only at hSw); have q_cF := (hSw.cell (lt_of_cell cF)).trans cF; go_simp⟩) hS0 ?_
    try simp only [Act.put, List.setIfInBounds_toArray, List.set_cons_zero, List.set_cons_succ]
    refine wpAnyH_take (i := 6) (oi := { dst := some 58, op := Go.Op.load 79 (Go.Operand.tmp 4), type := 79, pos := "chart.go:61", after := #[], guard := none }) (v := .agg #[.int .i64 (iAt p 0), .int .i64 (iAt p 1), .int .i64 (iAt p 2), .int .i64 (iAt p 3)]) rfl (by kernel_rfl) (by kernel_rfl) (by kernel_rfl) (fun _ _ _ h => h) (Or.inl ⟨by rfl, by intro w2 hSw; (try dsimp only at hSw); have q_x0 := (hSw.cell (lt_of_cell x0)).trans x0; have q_x1 := (hSw.cell (lt_of_cell x1)).trans x1; have q_x2 := (hSw.cell (lt_of_cell x2)).trans x2; have q_x3 := (hSw.cell (lt_of_cell x3)).trans x3; go_simp⟩) hS0 ?_
    try simp only [Act.put, List.setIfInBounds_toArray, List.set_cons_zero, List.set_cons_succ]
    refine wpAnyH_take (i := 7) (oi := { dst := some 59, op := Go.Op.lookup 88 (Go.Operand.tmp 57) (Go.Operand.tmp 58) true, type := 130, pos := "chart.go:61", after := #[{ on := 5, ground := Go.Ground.data }, { on := 6, ground := Go.Ground.data }], guard := none }) (v := .tuple #[.agg #[.int .i64 L0.1, .int .i64 L0.2], .bool true]) rfl (by kernel_rfl) (by kernel_rfl) (by kernel_rfl) (fun _ _ _ h => h) (Or.inl ⟨by rfl, by intro w2 hSw; (try dsimp only at hSw); have hlk := HL.out w2 hSw; (try unfold plA knV at hlk); go_simp⟩) hS0 ?_
    try simp only [Act.put, List.setIfInBounds_toArray, List.set_cons_zero, List.set_cons_succ]
    refine wpAnyH_take (i := 8) (oi := { dst := some 51, op := Go.Op.move (Go.Operand.tmp 59), type := 130, pos := "chart.go:61", after := #[{ on := 7, ground := Go.Ground.data }], guard := none }) (v := .tuple #[.agg #[.int .i64 L0.1, .int .i64 L0.2], .bool true]) rfl (by kernel_rfl) (by kernel_rfl) (by kernel_rfl) (fun _ _ _ h => h) (Or.inl ⟨by rfl, by intro w2 hSw; (try dsimp only at hSw); go_simp⟩) hS0 ?_
    try simp only [Act.put, List.setIfInBounds_toArray, List.set_cons_zero, List.set_cons_succ]
    refine wpAnyH_take (i := 9) (oi := { dst := some 60, op := Go.Op.extract (Go.Operand.tmp 51) 0, type := 91, pos := "chart.go:61", after := #[{ on := 8, ground := Go.Ground.data }], guard := none }) (v := .agg #[.int .i64 L0.1, .int .i64 L0.2]) rfl (by kernel_rfl) (by kernel_rfl) (by kernel_rfl) (fun _ _ _ h => h) (Or.inl ⟨by rfl, by intro w2 hSw; (try dsimp only at hSw); go_simp⟩) hS0 ?_
    try simp only [Act.put, List.setIfInBounds_toArray, List.set_cons_zero, List.set_cons_succ]
    refine wpAnyH_take (i := 10) (oi := { dst := some 61, op := Go.Op.extract (Go.Operand.tmp 51) 1, type := 4, pos := "chart.go:61", after := #[{ on := 8, ground := Go.Ground.data }, { on := 12, ground := Go.Ground.gcOnly Go.Departure.lateStores }], guard := none }) (v := .bool true) rfl (by kernel_rfl) (by kernel_rfl) (by kernel_rfl) (fun _ _ _ h => h) (Or.inl ⟨by rfl, by intro w2 hSw; (try dsimp only at hSw); go_simp⟩) hS0 ?_
    try simp only [Act.put, List.setIfInBounds_toArray, List.set_cons_zero, List.set_cons_succ]
    obtain ⟨V0, hV0⟩ : ∃ V0, V.drew = V0 := ⟨_, rfl⟩
    rw [hV0] at hS0 ⊢
    clear hV0
    refine wpAnyH_ready (rs := [11]) (by kernel_rfl) (by simp) ?_
    refine AllReadyH.cons (o := { dst := some 8, op := Go.Op.alloc 91, type := 0, pos := "chart.go:61", after := #[], guard := none }) rfl (fun K2 hK => ?_) AllReadyH.nil
    go_simp
    have hS1 : Below V.heap.size V (V0.alloc (.cells #[.int .i64 0, .int .i64 0] 91)) := hS0.trans ((below_alloc_ _ _).mono hS0.size)
    refine hK.out _ _ hS1 (fun _ => ?_)
    clear hK K2
    try simp only [Act.put, List.setIfInBounds_toArray, List.set_cons_zero, List.set_cons_succ]
    have hn0 := heap_alloc_new_ V0 (.cells #[.int .i64 0, .int .i64 0] 91)
    obtain ⟨V1, hV1⟩ : ∃ V1, V0.alloc (.cells #[.int .i64 0, .int .i64 0] 91) = V1 := ⟨_, rfl⟩
    obtain ⟨Y, hY⟩ : ∃ Y, V0.heap.size = Y := ⟨_, rfl⟩
    have hYV : V.heap.size ≤ Y := by rw [← hY]; exact hS0.size
    rw [hV1] at hS1 hn0 ⊢
    rw [hY] at hn0 ⊢
    clear hV1 hS0 hY
    refine wpAnyH_ready (rs := [12]) (by kernel_rfl) (by simp) ?_
    refine AllReadyH.cons (o := { dst := none, op := Go.Op.store 91 (Go.Operand.tmp 8) (Go.Operand.tmp 60), type := 0, pos := "chart.go:61", after := #[{ on := 11, ground := Go.Ground.data }, { on := 9, ground := Go.Ground.data }, { on := 0, ground := Go.Ground.phase }, { on := 1, ground := Go.Ground.phase }, { on := 2, ground := Go.Ground.phase }, { on := 3, ground := Go.Ground.phase }, { on := 4, ground := Go.Ground.phase }, { on := 5, ground := Go.Ground.phase }, { on := 6, ground := Go.Ground.phase }, { on := 7, ground := Go.Ground.phase }, { on := 8, ground := Go.Ground.phase }, { on := 9, ground := Go.Ground.phase }, { on := 10, ground := Go.Ground.textOnly Go.Departure.lateStores }, { on := 11, ground := Go.Ground.phase }], guard := none }) rfl (fun K2 hK => ?_) AllReadyH.nil
    have w0 : V1.cell? ⟨Y, 0, none⟩ = some (.int .i64 0) := by rw [cell_row hn0]; rfl
    have w1 : V1.cell? ⟨Y, 1, none⟩ = some (.int .i64 0) := by rw [cell_row hn0]; rfl
    have g0 : V1.frozen? ⟨Y, 0, none⟩ = false := frozen_row hn0
    have g1 : V1.frozen? ⟨Y, 1, none⟩ = false := frozen_row hn0
    go_simp
    have hk1 := keeps_setCell V1 Y 0 (.int .i64 L0.1)
    have hk2 := keeps_setCell (V1.setCell ⟨Y, 0, none⟩ (.int .i64 L0.1)) Y 1 (.int .i64 L0.2)
    have hrow := set_same (W := V1) 0 (.int .i64 L0.1) hn0
    have hrow2 := set_same 1 (.int .i64 L0.2) hrow
    obtain ⟨V2, hV2⟩ : ∃ V2, (V1.setCell ⟨Y, 0, none⟩ (.int .i64 L0.1)).setCell ⟨Y, 1, none⟩ (.int .i64 L0.2) = V2 := ⟨_, rfl⟩
    rw [hV2] at hk2 hrow2 ⊢
    have hS2 : Below V.heap.size V V2 := hS1.trans ((hk1.trans hk2).below hS1.size (fun k hk e => by have e : k = Y := e; omega))
    have Hrow := Lib.hid hrow2
    have HS2 := Lib.hid hS2
    clear hk1 hk2 hrow hrow2 hV2 w0 w1 g0 g1 hn0 hS1
    refine hK.out _ _ hS2 (fun hS3 => ?_)
    clear hK K2 hS2
    try simp only [Act.put, List.setIfInBounds_toArray, List.set_cons_zero, List.set_cons_succ]
    refine wpAnyH_take (i := 13) (oi := { dst := some 9, op := Go.Op.assign (Go.Operand.tmp 61), type := 4, pos := "chart.go:61", after := #[{ on := 10, ground := Go.Ground.data }, { on := 12, ground := Go.Ground.chain }, { on := 0, ground := Go.Ground.phase }, { on := 1, ground := Go.Ground.phase }, { on := 2, ground := Go.Ground.phase }, { on := 3, ground := Go.Ground.phase }, { on := 4, ground := Go.Ground.phase }, { on := 5, ground := Go.Ground.phase }, { on := 6, ground := Go.Ground.phase }, { on := 7, ground := Go.Ground.phase }, { on := 8, ground := Go.Ground.phase }, { on := 9, ground := Go.Ground.phase }, { on := 10, ground := Go.Ground.phase }, { on := 11, ground := Go.Ground.phase }, { on := 12, ground := Go.Ground.phase }], guard := none }) (v := .bool true) rfl (by kernel_rfl) (by kernel_rfl) (by kernel_rfl) (fun _ _ _ h => h) (Or.inl ⟨by rfl, by intro w2 hSw; (try dsimp only at hSw); go_simp⟩) hS3 ?_
    try simp only [Act.put, List.setIfInBounds_toArray, List.set_cons_zero, List.set_cons_succ]
    refine wpAnyH_done (by kernel_rfl) ?_ _
    have e1 := (HS2.out.block _ (lt_of_block E1.out)).trans E1.out
    have y0 : V2.cell? ⟨Z + 1, 0, none⟩ = some (.int .i64 0) := by rw [cell_row e1]; rfl
    have y1 : V2.cell? ⟨Z + 1, 1, none⟩ = some (.int .i64 0) := by rw [cell_row e1]; rfl
    have f0 : V2.frozen? ⟨Z + 1, 0, none⟩ = false := frozen_row e1
    have f1 : V2.frozen? ⟨Z + 1, 1, none⟩ = false := frozen_row e1
    have v0 : V2.cell? ⟨Y, 0, none⟩ = some (.int .i64 L0.1) := by rw [cell_row Hrow.out]; rfl
    have v1 : V2.cell? ⟨Y, 1, none⟩ = some (.int .i64 L0.2) := by rw [cell_row Hrow.out]; rfl
    have hk1 := keeps_setCell V2 (Z + 1) 0 (.int .i64 L0.1)
    have hk2 := keeps_setCell (V2.setCell ⟨Z + 1, 0, none⟩ (.int .i64 L0.1)) (Z + 1) 1 (.int .i64 L0.2)
    have hrow2 := set_same 1 (.int .i64 L0.2) (set_same (W := V2) 0 (.int .i64 L0.1) e1)
    have Hrow2 := Lib.hid hrow2
    have HKf := Lib.hid (hk1.trans hk2)
    clear e1 hk1 hk2 hrow2 hS3
    go_wp2_with fail
    refine bodyPost_ret (v := knV L0) (res_known Try.results78 (by rfl) Hrow2.out) rfl ?_
    have hbw : Below w.heap.size w ((V2.setCell ⟨Z + 1, 0, none⟩ (.int .i64 L0.1)).setCell ⟨Z + 1, 1, none⟩ (.int .i64 L0.2)) := K2.out.new.trans ((HS2.out.mono K2.out.size).trans (HKf.out.below (Nat.le_trans K2.out.size HS2.out.size) (fun k hk e => by have := HZ.out; have e : k = Z + 1 := e; omega)))
    exact ⟨by rw [HLe.out], (HC.out.below hbw (Nat.le_refl _)).mono (by omega), Keeps.of_new hbw⟩
  | false =>
    refine wp_region_held_drew (S := fun w2 => Below V.heap.size V w2) (by kernel_rfl) (drew_b _ _) (fun hS0 => ?_)
    refine wpAnyH_take (i := 0) (oi := { dst := some 52, op := Go.Op.move (Go.Operand.tmp 0), type := 86, pos := "chart.go:61", after := #[], guard := none }) (v := .pointer (some ⟨Cb, 0, none⟩)) rfl (by kernel_rfl) (by kernel_rfl) (by kernel_rfl) (fun _ _ _ h => h) (Or.inl ⟨by rfl, by intro w2 hSw; (try dsimp only at hSw); go_simp⟩) hS0 ?_
    try simp only [Act.put, List.setIfInBounds_toArray, List.set_cons_zero, List.set_cons_succ]
    refine wpAnyH_take (i := 1) (oi := { dst := some 53, op := Go.Op.move (Go.Operand.tmp 2), type := 3, pos := "chart.go:61", after := #[], guard := none }) (v := .int .i64 (h : Int)) rfl (by kernel_rfl) (by kernel_rfl) (by kernel_rfl) (fun _ _ _ h => h) (Or.inl ⟨by rfl, by intro w2 hSw; (try dsimp only at hSw); go_simp⟩) hS0 ?_
    try simp only [Act.put, List.setIfInBounds_toArray, List.set_cons_zero, List.set_cons_succ]
    refine wpAnyH_take (i := 2) (oi := { dst := some 54, op := Go.Op.nilCheck (Go.Operand.tmp 52), type := 0, pos := "chart.go:61", after := #[{ on := 0, ground := Go.Ground.data }], guard := none }) (v := .pointer (some ⟨Cb, 0, none⟩)) rfl (by kernel_rfl) (by kernel_rfl) (by kernel_rfl) (fun _ _ _ h => h) (Or.inl ⟨by rfl, by intro w2 hSw; (try dsimp only at hSw); go_simp⟩) hS0 ?_
    try simp only [Act.put, List.setIfInBounds_toArray, List.set_cons_zero, List.set_cons_succ]
    refine wpAnyH_take (i := 3) (oi := { dst := some 55, op := Go.Op.fieldAddr 93 (Go.Operand.tmp 54) 2, type := 0, pos := "chart.go:61", after := #[{ on := 2, ground := Go.Ground.data }], guard := none }) (v := .pointer (some ⟨Cb, 2, none⟩)) rfl (by kernel_rfl) (by kernel_rfl) (by kernel_rfl) (fun _ _ _ h => h) (Or.inl ⟨by rfl, by intro w2 hSw; (try dsimp only at hSw); go_simp⟩) hS0 ?_
    try simp only [Act.put, List.setIfInBounds_toArray, List.set_cons_zero, List.set_cons_succ]
    refine wpAnyH_take (i := 4) (oi := { dst := some 56, op := Go.Op.indexAddr 89 (Go.Operand.tmp 55) (Go.Operand.tmp 53), type := 0, pos := "chart.go:61", after := #[{ on := 3, ground := Go.Ground.data }, { on := 1, ground := Go.Ground.data }], guard := none }) (v := .pointer (some ⟨Cb, 2 + h, none⟩)) rfl (by kernel_rfl) (by kernel_rfl) (by kernel_rfl) (fun _ _ _ h => h) (Or.inl ⟨by rfl, by intro w2 hSw; (try dsimp only at hSw); go_simp⟩) hS0 ?_
    try simp only [Act.put, List.setIfInBounds_toArray, List.set_cons_zero, List.set_cons_succ]
    refine wpAnyH_take (i := 5) (oi := { dst := some 57, op := Go.Op.load 88 (Go.Operand.tmp 56), type := 88, pos := "chart.go:61", after := #[{ on := 4, ground := Go.Ground.data }], guard := none }) (v := .map (some (Ms h))) rfl (by kernel_rfl) (by kernel_rfl) (by kernel_rfl) (fun _ _ _ h => h) (Or.inl ⟨by rfl, by intro w2 hSw; (try dsimp only at hSw); have q_cF := (hSw.cell (lt_of_cell cF)).trans cF; go_simp⟩) hS0 ?_
    try simp only [Act.put, List.setIfInBounds_toArray, List.set_cons_zero, List.set_cons_succ]
    refine wpAnyH_take (i := 6) (oi := { dst := some 58, op := Go.Op.load 79 (Go.Operand.tmp 4), type := 79, pos := "chart.go:61", after := #[], guard := none }) (v := .agg #[.int .i64 (iAt p 0), .int .i64 (iAt p 1), .int .i64 (iAt p 2), .int .i64 (iAt p 3)]) rfl (by kernel_rfl) (by kernel_rfl) (by kernel_rfl) (fun _ _ _ h => h) (Or.inl ⟨by rfl, by intro w2 hSw; (try dsimp only at hSw); have q_x0 := (hSw.cell (lt_of_cell x0)).trans x0; have q_x1 := (hSw.cell (lt_of_cell x1)).trans x1; have q_x2 := (hSw.cell (lt_of_cell x2)).trans x2; have q_x3 := (hSw.cell (lt_of_cell x3)).trans x3; go_simp⟩) hS0 ?_
    try simp only [Act.put, List.setIfInBounds_toArray, List.set_cons_zero, List.set_cons_succ]
    refine wpAnyH_take (i := 7) (oi := { dst := some 59, op := Go.Op.lookup 88 (Go.Operand.tmp 57) (Go.Operand.tmp 58) true, type := 130, pos := "chart.go:61", after := #[{ on := 5, ground := Go.Ground.data }, { on := 6, ground := Go.Ground.data }], guard := none }) (v := .tuple #[.agg #[.int .i64 L0.1, .int .i64 L0.2], .bool false]) rfl (by kernel_rfl) (by kernel_rfl) (by kernel_rfl) (fun _ _ _ h => h) (Or.inl ⟨by rfl, by intro w2 hSw; (try dsimp only at hSw); have hlk := HL.out w2 hSw; (try unfold plA knV at hlk); go_simp⟩) hS0 ?_
    try simp only [Act.put, List.setIfInBounds_toArray, List.set_cons_zero, List.set_cons_succ]
    refine wpAnyH_take (i := 8) (oi := { dst := some 51, op := Go.Op.move (Go.Operand.tmp 59), type := 130, pos := "chart.go:61", after := #[{ on := 7, ground := Go.Ground.data }], guard := none }) (v := .tuple #[.agg #[.int .i64 L0.1, .int .i64 L0.2], .bool false]) rfl (by kernel_rfl) (by kernel_rfl) (by kernel_rfl) (fun _ _ _ h => h) (Or.inl ⟨by rfl, by intro w2 hSw; (try dsimp only at hSw); go_simp⟩) hS0 ?_
    try simp only [Act.put, List.setIfInBounds_toArray, List.set_cons_zero, List.set_cons_succ]
    refine wpAnyH_take (i := 9) (oi := { dst := some 60, op := Go.Op.extract (Go.Operand.tmp 51) 0, type := 91, pos := "chart.go:61", after := #[{ on := 8, ground := Go.Ground.data }], guard := none }) (v := .agg #[.int .i64 L0.1, .int .i64 L0.2]) rfl (by kernel_rfl) (by kernel_rfl) (by kernel_rfl) (fun _ _ _ h => h) (Or.inl ⟨by rfl, by intro w2 hSw; (try dsimp only at hSw); go_simp⟩) hS0 ?_
    try simp only [Act.put, List.setIfInBounds_toArray, List.set_cons_zero, List.set_cons_succ]
    refine wpAnyH_take (i := 10) (oi := { dst := some 61, op := Go.Op.extract (Go.Operand.tmp 51) 1, type := 4, pos := "chart.go:61", after := #[{ on := 8, ground := Go.Ground.data }, { on := 12, ground := Go.Ground.gcOnly Go.Departure.lateStores }], guard := none }) (v := .bool false) rfl (by kernel_rfl) (by kernel_rfl) (by kernel_rfl) (fun _ _ _ h => h) (Or.inl ⟨by rfl, by intro w2 hSw; (try dsimp only at hSw); go_simp⟩) hS0 ?_
    try simp only [Act.put, List.setIfInBounds_toArray, List.set_cons_zero, List.set_cons_succ]
    obtain ⟨V0, hV0⟩ : ∃ V0, V.drew = V0 := ⟨_, rfl⟩
    rw [hV0] at hS0 ⊢
    clear hV0
    refine wpAnyH_ready (rs := [11]) (by kernel_rfl) (by simp) ?_
    refine AllReadyH.cons (o := { dst := some 8, op := Go.Op.alloc 91, type := 0, pos := "chart.go:61", after := #[], guard := none }) rfl (fun K2 hK => ?_) AllReadyH.nil
    go_simp
    have hS1 : Below V.heap.size V (V0.alloc (.cells #[.int .i64 0, .int .i64 0] 91)) := hS0.trans ((below_alloc_ _ _).mono hS0.size)
    refine hK.out _ _ hS1 (fun _ => ?_)
    clear hK K2
    try simp only [Act.put, List.setIfInBounds_toArray, List.set_cons_zero, List.set_cons_succ]
    have hn0 := heap_alloc_new_ V0 (.cells #[.int .i64 0, .int .i64 0] 91)
    obtain ⟨V1, hV1⟩ : ∃ V1, V0.alloc (.cells #[.int .i64 0, .int .i64 0] 91) = V1 := ⟨_, rfl⟩
    obtain ⟨Y, hY⟩ : ∃ Y, V0.heap.size = Y := ⟨_, rfl⟩
    have hYV : V.heap.size ≤ Y := by rw [← hY]; exact hS0.size
    rw [hV1] at hS1 hn0 ⊢
    rw [hY] at hn0 ⊢
    clear hV1 hS0 hY
    refine wpAnyH_ready (rs := [12]) (by kernel_rfl) (by simp) ?_
    refine AllReadyH.cons (o := { dst := none, op := Go.Op.store 91 (Go.Operand.tmp 8) (Go.Operand.tmp 60), type := 0, pos := "chart.go:61", after := #[{ on := 11, ground := Go.Ground.data }, { on := 9, ground := Go.Ground.data }, { on := 0, ground := Go.Ground.phase }, { on := 1, ground := Go.Ground.phase }, { on := 2, ground := Go.Ground.phase }, { on := 3, ground := Go.Ground.phase }, { on := 4, ground := Go.Ground.phase }, { on := 5, ground := Go.Ground.phase }, { on := 6, ground := Go.Ground.phase }, { on := 7, ground := Go.Ground.phase }, { on := 8, ground := Go.Ground.phase }, { on := 9, ground := Go.Ground.phase }, { on := 10, ground := Go.Ground.textOnly Go.Departure.lateStores }, { on := 11, ground := Go.Ground.phase }], guard := none }) rfl (fun K2 hK => ?_) AllReadyH.nil
    have w0 : V1.cell? ⟨Y, 0, none⟩ = some (.int .i64 0) := by rw [cell_row hn0]; rfl
    have w1 : V1.cell? ⟨Y, 1, none⟩ = some (.int .i64 0) := by rw [cell_row hn0]; rfl
    have g0 : V1.frozen? ⟨Y, 0, none⟩ = false := frozen_row hn0
    have g1 : V1.frozen? ⟨Y, 1, none⟩ = false := frozen_row hn0
    go_simp
    have hk1 := keeps_setCell V1 Y 0 (.int .i64 L0.1)
    have hk2 := keeps_setCell (V1.setCell ⟨Y, 0, none⟩ (.int .i64 L0.1)) Y 1 (.int .i64 L0.2)
    have hrow := set_same (W := V1) 0 (.int .i64 L0.1) hn0
    have hrow2 := set_same 1 (.int .i64 L0.2) hrow
    obtain ⟨V2, hV2⟩ : ∃ V2, (V1.setCell ⟨Y, 0, none⟩ (.int .i64 L0.1)).setCell ⟨Y, 1, none⟩ (.int .i64 L0.2) = V2 := ⟨_, rfl⟩
    rw [hV2] at hk2 hrow2 ⊢
    have hS2 : Below V.heap.size V V2 := hS1.trans ((hk1.trans hk2).below hS1.size (fun k hk e => by have e : k = Y := e; omega))
    have Hrow := Lib.hid hrow2
    have HS2 := Lib.hid hS2
    clear hk1 hk2 hrow hrow2 hV2 w0 w1 g0 g1 hn0 hS1
    refine hK.out _ _ hS2 (fun hS3 => ?_)
    clear hK K2 hS2
    try simp only [Act.put, List.setIfInBounds_toArray, List.set_cons_zero, List.set_cons_succ]
    refine wpAnyH_take (i := 13) (oi := { dst := some 9, op := Go.Op.assign (Go.Operand.tmp 61), type := 4, pos := "chart.go:61", after := #[{ on := 10, ground := Go.Ground.data }, { on := 12, ground := Go.Ground.chain }, { on := 0, ground := Go.Ground.phase }, { on := 1, ground := Go.Ground.phase }, { on := 2, ground := Go.Ground.phase }, { on := 3, ground := Go.Ground.phase }, { on := 4, ground := Go.Ground.phase }, { on := 5, ground := Go.Ground.phase }, { on := 6, ground := Go.Ground.phase }, { on := 7, ground := Go.Ground.phase }, { on := 8, ground := Go.Ground.phase }, { on := 9, ground := Go.Ground.phase }, { on := 10, ground := Go.Ground.phase }, { on := 11, ground := Go.Ground.phase }, { on := 12, ground := Go.Ground.phase }], guard := none }) (v := .bool false) rfl (by kernel_rfl) (by kernel_rfl) (by kernel_rfl) (fun _ _ _ h => h) (Or.inl ⟨by rfl, by intro w2 hSw; (try dsimp only at hSw); go_simp⟩) hS3 ?_
    try simp only [Act.put, List.setIfInBounds_toArray, List.set_cons_zero, List.set_cons_succ]
    refine wpAnyH_done (by kernel_rfl) ?_ _
    clear HLe HL
    have e0 := E0.out.keep (Keeps.of_new HS2.out (Mut := fun _ => False)) (fun e => e)
    have z0 := e0.cell (j := h) (by omega)
    rw [Hpv.out] at z0
    replace x0 := e0.cell (j := 0) (by omega)
    replace x1 := e0.cell (j := 1) (by omega)
    replace x2 := e0.cell (j := 2) (by omega)
    replace x3 := e0.cell (j := 3) (by omega)
    have hb3 := below_alloc_ V2 (.cells ([.int .i64 (iAt p 0), .int .i64 (iAt p 1), .int .i64 (iAt p 2), .int .i64 (iAt p 3)].set h (.int .i64 (pv - 1))).toArray 79)
    have w0 := (hb3.cell (p := ⟨Z, 0, none⟩) (lt_of_cell x0)).trans x0
    have w1 := (hb3.cell (p := ⟨Z, 1, none⟩) (lt_of_cell x1)).trans x1
    have w2 := (hb3.cell (p := ⟨Z, 2, none⟩) (lt_of_cell x2)).trans x2
    have w3 := (hb3.cell (p := ⟨Z, 3, none⟩) (lt_of_cell x3)).trans x3
    have hr3 : RowP (V2.alloc (.cells ([.int .i64 (iAt p 0), .int .i64 (iAt p 1), .int .i64 (iAt p 2), .int .i64 (iAt p 3)].set h (.int .i64 (pv - 1))).toArray 79)) V2.heap.size (p.set h (pv - 1)) := ⟨by rw [List.length_set]; exact HP.out.len, by
      rw [heap_alloc_new_, ← flat4 HP.out.len]
      simp [flatI, List.map_set]⟩
    have Hb3 := Lib.hid hb3
    have Hr3 := Lib.hid hr3
    have hr1 : RowP (V2.alloc (.cells #[.int .i64 (iAt p 0), .int .i64 (iAt p 1), .int .i64 (iAt p 2), .int .i64 (iAt p 3)] 79)) V2.heap.size p := rowP_new HP.out.len
    have t0 := hr1.cell (j := h) (by omega)
    rw [Hpv.out] at t0
    have tf := hr1.fz h
    clear hS3 e0 hb3 hr3 hr1
    go_wp2_with fail
    have b3 := Hb3.out
    have r3 := Hr3.out
    obtain ⟨V3, hV3⟩ : ∃ V3, V2.alloc (.cells ([.int .i64 (iAt p 0), .int .i64 (iAt p 1), .int .i64 (iAt p 2), .int .i64 (iAt p 3)].set h (.int .i64 (pv - 1))).toArray 79) = V3 := ⟨_, rfl⟩
    obtain ⟨X, hX⟩ : ∃ X, V2.heap.size = X := ⟨_, rfl⟩
    rw [hV3] at b3 r3 w0 w1 w2 w3 ⊢
    have hXs : V.heap.size ≤ X := by rw [← hX]; exact HS2.out.size
    have HV23 := Lib.hid b3
    rw [hX] at r3 ⊢
    replace Hr3 := Lib.hid r3
    clear hV3 hX b3 r3 x0 x1 x2 x3 z0 t0 tf Hb3
    have hbV3 := HS2.out.trans (HV23.out.mono HS2.out.size)
    have hc3 := HCV.out.below hbV3 (Nat.le_refl _)
    have hb3 : V3.cell? ⟨B, 1, none⟩ = some (.slice A2 m cap2) := ((K2.out.new.trans (hbV3.mono K2.out.size)).cell (p := ⟨B, 1, none⟩) (lt_of_cell HBc.out)).trans HBc.out
    have hZ3 := (E0.out.keep (Keeps.of_new hbV3 (Mut := fun _ => False)) (fun e => e))
    have hR3 := (hbV3.block _ (lt_of_block E1.out)).trans E1.out
    have hXV3 : X < V3.heap.size := lt_of_block Hr3.out.2
    have HV3s := Lib.hid hbV3.size
    have hnnl := HNn.out
    have Key1 := Lib.hid (HR1.out nn V3 hc3 hb3 (by omega))
    have HMsl := Lib.hid (fun j (hj : j < 4) => (show Ms j < V.heap.size from HCV.out.ltF hj))
    have hnX : ¬ mutF Ms X := fun ⟨j, hj, e⟩ => by have := HMsl.out j hj; omega
    have hnZ : ¬ mutF Ms Z := fun ⟨j, hj, e⟩ => by have := HC.out.ltF hj; have := HZ.out; omega
    have hnZ1 : ¬ mutF Ms (Z + 1) := fun ⟨j, hj, e⟩ => by have := HC.out.ltF hj; have := HZ.out; omega
    have hnB : ¬ mutF Ms B := fun e => HBM.out B e rfl
    have HNX := Lib.hid hnX
    have HNZ := Lib.hid hnZ
    have HNZ1 := Lib.hid hnZ1
    have HNB := Lib.hid hnB
    have HZ3 := Lib.hid hZ3
    have HR3 := Lib.hid hR3
    have HB3 := Lib.hid hb3
    have HKV := Lib.hid (show Keeps (mutF Ms) w V3 from Keeps.of_new (K2.out.new.trans (hbV3.mono K2.out.size)))
    clear hc3 hb3 hbV3 hnnl hnX hnZ hnZ1 hnB hZ3 hR3 w0 w1 w2 w3
    refine Key1.out.mono ?_
    rintro en w4 ⟨rfl, hc4, hk4⟩
    have HA1 := Lib.hid (H.small p (h + 1) (by omega) HP.out (fun i hi => by
      rcases Nat.lt_or_ge i h with q | q
      · exact H1.out i q
      · obtain rfl : i = h := by omega
        rw [Hpv.out]; exact hph))
    have hsp := HSp.out
    rw [Hpv.out] at hsp
    have HA2 := Lib.hid (H.small (p.set h (pv - 1)) h (by omega) (by have := HP.out.down hh hm4 (by rw [Hpv.out]; exact hph); rw [Hpv.out] at this; exact this) (fun i hi => by rw [iAt_set9 _ (by have := HP.out.len; omega), if_neg (by omega)]; exact H1.out i hi))
    have hR2 := HR2.out
    rw [Hpv.out] at hR2
    replace HR2 := Lib.hid hR2
    obtain ⟨A1, hA1⟩ : ∃ A1, frK E mt m p (h + 1) = A1 := ⟨_, rfl⟩
    obtain ⟨A3, hA3⟩ : ∃ A3, frK E mt m (p.set h (pv - 1)) h = A3 := ⟨_, rfl⟩
    obtain ⟨b, hb⟩ : ∃ b, p.set h (pv - 1) = b := ⟨_, rfl⟩
    rw [hA1] at HA1 hsp ⊢
    rw [hA3] at HA2 hsp hR2
    replace HR2 := Lib.hid hR2
    have hr3 := Hr3.out
    rw [hb] at hR2 hr3
    replace HR2 := Lib.hid hR2
    replace Hr3 := Lib.hid hr3
    have HSp2 := Lib.hid hsp
    have HC4 := Lib.hid hc4
    have HK4 := Lib.hid hk4
    have hbs := below_alloc_ w4 (.cells #[.int .i64 A1.1, .int .i64 A1.2] 91)
    have hrs := heap_alloc_new_ w4 (.cells #[.int .i64 A1.1, .int .i64 A1.2] 91)
    have Hbs := Lib.hid hbs
    have Hrs := Lib.hid hrs
    clear hc4 hk4 hsp hA1 hA3 hb hR2 hr3 hbs hrs Key1 HSp
    unfold knV
    go_wp2_with fail
    have hbs := Hbs.out
    have hrs := Hrs.out
    obtain ⟨wd, hwc⟩ : ∃ wd, w4.alloc (.cells #[.int .i64 A1.1, .int .i64 A1.2] 91) = wd := ⟨_, rfl⟩
    obtain ⟨T, hT⟩ : ∃ T, w4.heap.size = T := ⟨_, rfl⟩
    have hTV : V3.heap.size ≤ T := by rw [← hT]; exact HK4.out.size
    rw [hwc] at hbs hrs ⊢
    rw [hT] at hrs ⊢
    have hcc := HC4.out.below hbs (Nat.le_refl _)
    have hkc : Keeps (mutF Ms) V3 wd := HK4.out.trans (Keeps.of_new hbs)
    have HCc := Lib.hid hcc
    have HKc := Lib.hid hkc
    have HT := Lib.hid hrs
    have hnT : ¬ mutF Ms T := fun ⟨j, hj, e⟩ => by have := HMsl.out j hj; have := HV3s.out; omega
    have HNT := Lib.hid hnT
    clear hwc hT hbs hrs hcc hkc Hbs Hrs HC4 HK4 hnT
    have HB9 := Lib.hid ((keep_cells HKc.out (lt_of_cell HB3.out) HNB.out 1).trans HB3.out)
    obtain ⟨A, hA⟩ : ∃ A, orK A1 A3 = A := ⟨_, rfl⟩
    have HA := Lib.hid hA
    have hxr := Hr3.out.keep HKc.out HNX.out
    have x0 := hxr.cell (j := 0) (by omega)
    have x1 := hxr.cell (j := 1) (by omega)
    have x2 := hxr.cell (j := 2) (by omega)
    have x3 := hxr.cell (j := 3) (by omega)
    have t0 : wd.cell? ⟨T, 0, none⟩ = some (.int .i64 A1.1) := by rw [cell_row HT.out]; rfl
    have t1 : wd.cell? ⟨T, 1, none⟩ = some (.int .i64 A1.2) := by rw [cell_row HT.out]; rfl
    clear hA hxr
    go_cut [12] from 75 to 80 (fun v12 wx => ∃ K12 : Nat, v12 = .pointer (some ⟨K12, 0, none⟩) ∧ wx.heap[K12]? = some (.cells #[.int .i64 A.1, .int .i64 A.2] 91 (0, 0)) ∧ Cht wx Cb B Me Ms (nn + n1 + n2) ak Se (fun h p => frK E mt m p h) ∧ Keeps (mutF Ms) wd wx ∧ ¬ mutF Ms K12)
    case first =>
      refine wp_region_held_drew (S := fun w2 => Keeps (mutF Ms) wd w2) (by kernel_rfl) (Keeps.of_new (drew_b _ _)) (fun hS0 => ?_)
      refine wpAnyH_take (i := 0) (oi := { dst := some 75, op := Go.Op.load 91 (Go.Operand.tmp 11), type := 91, pos := "chart.go:67", after := #[], guard := none }) (v := .agg #[.int .i64 A1.1, .int .i64 A1.2]) rfl (by kernel_rfl) (by kernel_rfl) (by kernel_rfl) (fun _ _ _ h => h) (Or.inl ⟨by rfl, by intro w2 hSw; (try dsimp only at hSw); have q_t0 := (keep_cells hSw (lt_of_cell t0) HNT.out _).trans t0; have q_t1 := (keep_cells hSw (lt_of_cell t1) HNT.out _).trans t1; go_simp⟩) hS0 ?_
      try simp only [Act.put, List.setIfInBounds_toArray, List.set_cons_zero, List.set_cons_succ]
      refine wpAnyH_take (i := 1) (oi := { dst := some 76, op := Go.Op.move (Go.Operand.tmp 0), type := 86, pos := "chart.go:67", after := #[], guard := none }) (v := .pointer (some ⟨Cb, 0, none⟩)) rfl (by kernel_rfl) (by kernel_rfl) (by kernel_rfl) (fun _ _ _ h => h) (Or.inl ⟨by rfl, by intro w2 hSw; (try dsimp only at hSw); go_simp⟩) hS0 ?_
      try simp only [Act.put, List.setIfInBounds_toArray, List.set_cons_zero, List.set_cons_succ]
      refine wpAnyH_take (i := 2) (oi := { dst := some 77, op := Go.Op.load 79 (Go.Operand.tmp 10), type := 79, pos := "chart.go:67", after := #[], guard := none }) (v := .agg #[.int .i64 (iAt b 0), .int .i64 (iAt b 1), .int .i64 (iAt b 2), .int .i64 (iAt b 3)]) rfl (by kernel_rfl) (by kernel_rfl) (by kernel_rfl) (fun _ _ _ h => h) (Or.inl ⟨by rfl, by intro w2 hSw; (try dsimp only at hSw); have q_x0 := (keep_cells hSw (lt_of_cell x0) HNX.out _).trans x0; have q_x1 := (keep_cells hSw (lt_of_cell x1) HNX.out _).trans x1; have q_x2 := (keep_cells hSw (lt_of_cell x2) HNX.out _).trans x2; have q_x3 := (keep_cells hSw (lt_of_cell x3) HNX.out _).trans x3; go_simp⟩) hS0 ?_
      try simp only [Act.put, List.setIfInBounds_toArray, List.set_cons_zero, List.set_cons_succ]
      refine wpAnyH_take (i := 3) (oi := { dst := some 78, op := Go.Op.move (Go.Operand.tmp 2), type := 3, pos := "chart.go:67", after := #[], guard := none }) (v := .int .i64 (h : Int)) rfl (by kernel_rfl) (by kernel_rfl) (by kernel_rfl) (fun _ _ _ h => h) (Or.inl ⟨by rfl, by intro w2 hSw; (try dsimp only at hSw); go_simp⟩) hS0 ?_
      try simp only [Act.put, List.setIfInBounds_toArray, List.set_cons_zero, List.set_cons_succ]
      have hd9 : Below wd.heap.size wd wd.drew := ⟨rfl, rfl, rfl, Nat.le_refl _, fun _ _ => rfl⟩
      obtain ⟨X0, hX0⟩ : ∃ X0, wd.drew = X0 := ⟨_, rfl⟩
      rw [hX0] at hS0 hd9 ⊢
      have HS_0 := Lib.hid hS0
      have HC_0 := Lib.hid (HCc.out.below hd9 (Nat.le_refl _))
      clear hX0 hS0 hd9
      refine wpAnyH_ready (rs := [4, 6]) (by kernel_rfl) (by simp) ?_
      refine AllReadyH.cons (o := { dst := some 79, op := Go.Op.call { callee := Go.Callee.value (Go.Operand.func 78), args := #[Go.Operand.tmp 76, Go.Operand.tmp 77, Go.Operand.tmp 78], argTypes := #[86, 79, 3] }, type := 91, pos := "chart.go:67", after := #[{ on := 1, ground := Go.Ground.data }, { on := 2, ground := Go.Ground.data }, { on := 3, ground := Go.Ground.data }], guard := none }) rfl (fun K2 hK => ?_) ?_
      · skip
        go_simp
        have hbV := (keep_cells HS_0.out (lt_of_cell HB9.out) HNB.out 1).trans HB9.out
        have key := HR2.out (nn + n1) X0 HC_0.out hbV (by have := HNn.out; omega)
        refine key.mono ?_
        clear key hbV
        rintro e9 X1 ⟨rfl, hcV, hkV⟩
        try unfold knV
        try go_simp
        have HC_1 := Lib.hid hcV
        have HS_1 := Lib.hid (HS_0.out.trans hkV)
        refine hK.out _ _ HS_1.out (fun _ => ?_)
        clear hK K2 hcV hkV
        try simp only [Act.put, List.setIfInBounds_toArray, List.set_cons_zero, List.set_cons_succ]
        refine wpAnyH_ready (rs := [5, 6]) (by kernel_rfl) (by simp) ?_
        refine AllReadyH.cons (o := { dst := some 80, op := Go.Op.call { callee := Go.Callee.value (Go.Operand.func 88), args := #[Go.Operand.tmp 75, Go.Operand.tmp 79], argTypes := #[91, 91] }, type := 91, pos := "chart.go:67", after := #[{ on := 0, ground := Go.Ground.data }, { on := 4, ground := Go.Ground.data }, { on := 4, ground := Go.Ground.chain }], guard := none }) rfl (fun K2 hK => ?_) ?_
        · skip
          go_simp
          have key := or88 A1 A3 X1 HA1.out HA2.out
          rw [HA.out] at key
          refine key.mono ?_
          clear key
          rintro e9 X2 ⟨rfl, hbV⟩
          try unfold knV
          try go_simp
          have HC_2 := Lib.hid (HC_1.out.below hbV (Nat.le_refl _))
          have HS_2 := Lib.hid (HS_1.out.trans (Keeps.of_new hbV))
          refine hK.out _ _ HS_2.out (fun _ => ?_)
          clear hK K2 hbV
          try simp only [Act.put, List.setIfInBounds_toArray, List.set_cons_zero, List.set_cons_succ]
          refine wpAnyH_ready (rs := [6]) (by kernel_rfl) (by simp) ?_
          refine AllReadyH.cons (o := { dst := some 12, op := Go.Op.alloc 91, type := 0, pos := "chart.go:67", after := #[], guard := none }) rfl (fun K2 hK => ?_) AllReadyH.nil
          go_simp
          have hbV := below_alloc_ X2 (.cells #[.int .i64 0, .int .i64 0] 91)
          have hrV := heap_alloc_new_ X2 (.cells #[.int .i64 0, .int .i64 0] 91)
          obtain ⟨X3, hW⟩ : ∃ W2, X2.alloc (.cells #[.int .i64 0, .int .i64 0] 91) = W2 := ⟨_, rfl⟩
          obtain ⟨K12, hK12⟩ : ∃ K12, X2.heap.size = K12 := ⟨_, rfl⟩
          rw [hW] at hbV hrV ⊢
          have HK12 := Lib.hid (show wd.heap.size ≤ K12 from by rw [← hK12]; exact HS_2.out.size)
          rw [hK12] at hrV ⊢
          have HNK : Hid (¬ mutF Ms K12) := Lib.hid (fun ⟨j, hj, e⟩ => by have := HMsl.out j hj; have := HV3s.out; have := HKc.out.size; have := HK12.out; omega)
          have HC_3 := Lib.hid (HC_2.out.below hbV (Nat.le_refl _))
          have HS_3 := Lib.hid (HS_2.out.trans (Keeps.of_new hbV))
          have HRW_3 := Lib.hid hrV
          refine hK.out _ _ HS_3.out (fun _ => ?_)
          clear hK K2 hbV hrV hW hK12
          try simp only [Act.put, List.setIfInBounds_toArray, List.set_cons_zero, List.set_cons_succ]
          refine wpAnyH_ready (rs := [7]) (by kernel_rfl) (by simp) ?_
          refine AllReadyH.cons (o := { dst := none, op := Go.Op.store 91 (Go.Operand.tmp 12) (Go.Operand.tmp 80), type := 0, pos := "chart.go:67", after := #[{ on := 6, ground := Go.Ground.data }, { on := 5, ground := Go.Ground.data }, { on := 5, ground := Go.Ground.chain }, { on := 0, ground := Go.Ground.phase }, { on := 1, ground := Go.Ground.phase }, { on := 2, ground := Go.Ground.phase }, { on := 3, ground := Go.Ground.phase }, { on := 4, ground := Go.Ground.phase }, { on := 5, ground := Go.Ground.phase }, { on := 6, ground := Go.Ground.phase }], guard := none }) rfl (fun K2 hK => ?_) AllReadyH.nil
          have hn0 := HRW_3.out
          have w0 : X3.cell? ⟨K12, 0, none⟩ = some (.int .i64 0) := by rw [cell_row hn0]; rfl
          have w1 : X3.cell? ⟨K12, 1, none⟩ = some (.int .i64 0) := by rw [cell_row hn0]; rfl
          have g0 : X3.frozen? ⟨K12, 0, none⟩ = false := frozen_row hn0
          have g1 : X3.frozen? ⟨K12, 1, none⟩ = false := frozen_row hn0
          go_simp
          have hk1 := keeps_setCell X3 K12 0 (.int .i64 A.1)
          have hk2 := keeps_setCell (X3.setCell ⟨K12, 0, none⟩ (.int .i64 A.1)) K12 1 (.int .i64 A.2)
          have hrow2 := set_same 1 (.int .i64 A.2) (set_same (W := X3) 0 (.int .i64 A.1) hn0)
          obtain ⟨V2, hV2⟩ : ∃ V2, (X3.setCell ⟨K12, 0, none⟩ (.int .i64 A.1)).setCell ⟨K12, 1, none⟩ (.int .i64 A.2) = V2 := ⟨_, rfl⟩
          rw [hV2] at hk2 hrow2 ⊢
          have hk3 := hk1.trans hk2
          have HSF := Lib.hid (show Keeps (mutF Ms) wd V2 from keeps_old ((HS_3.out.mono (fun _ _ e => .inl e)).trans (hk3.mono (fun k _ e => .inr (by have e : k = K12 := e; have := HK12.out; omega)))))
          have HCF := Lib.hid (HC_3.out.keep hk3 (by have := lt_of_block HCc.out.row; have := HK12.out; show ¬ _ = _; omega) (by have := HCc.out.ends.lt; have := HK12.out; show ¬ _ = _; omega) (fun j hj => by have := HCc.out.ltF hj; have := HK12.out; show ¬ _ = _; omega))
          have HRF := Lib.hid hrow2
          clear hk1 hk2 hk3 hrow2 hV2 w0 w1 g0 g1 hn0
          refine hK.out _ _ HSF.out (fun _ => ?_)
          clear hK K2
          try simp only [Act.put, List.setIfInBounds_toArray, List.set_cons_zero, List.set_cons_succ]
          refine wpAnyH_done (by kernel_rfl) ?_ _
          go_wp2_with fail
          go_meet
          case rel => exact ⟨K12, rfl, HRF.out, HCF.out, HSF.out, HNK.out⟩
        refine AllReadyH.cons (o := { dst := some 12, op := Go.Op.alloc 91, type := 0, pos := "chart.go:67", after := #[], guard := none }) rfl (fun K2 hK => ?_) AllReadyH.nil
        go_simp
        have hbV := below_alloc_ X1 (.cells #[.int .i64 0, .int .i64 0] 91)
        have hrV := heap_alloc_new_ X1 (.cells #[.int .i64 0, .int .i64 0] 91)
        obtain ⟨X4, hW⟩ : ∃ W2, X1.alloc (.cells #[.int .i64 0, .int .i64 0] 91) = W2 := ⟨_, rfl⟩
        obtain ⟨K12, hK12⟩ : ∃ K12, X1.heap.size = K12 := ⟨_, rfl⟩
        rw [hW] at hbV hrV ⊢
        have HK12 := Lib.hid (show wd.heap.size ≤ K12 from by rw [← hK12]; exact HS_1.out.size)
        rw [hK12] at hrV ⊢
        have HNK : Hid (¬ mutF Ms K12) := Lib.hid (fun ⟨j, hj, e⟩ => by have := HMsl.out j hj; have := HV3s.out; have := HKc.out.size; have := HK12.out; omega)
        have HC_4 := Lib.hid (HC_1.out.below hbV (Nat.le_refl _))
        have HS_4 := Lib.hid (HS_1.out.trans (Keeps.of_new hbV))
        have HRW_4 := Lib.hid hrV
        refine hK.out _ _ HS_4.out (fun _ => ?_)
        clear hK K2 hbV hrV hW hK12
        try simp only [Act.put, List.setIfInBounds_toArray, List.set_cons_zero, List.set_cons_succ]
        refine wpAnyH_ready (rs := [5]) (by kernel_rfl) (by simp) ?_
        refine AllReadyH.cons (o := { dst := some 80, op := Go.Op.call { callee := Go.Callee.value (Go.Operand.func 88), args := #[Go.Operand.tmp 75, Go.Operand.tmp 79], argTypes := #[91, 91] }, type := 91, pos := "chart.go:67", after := #[{ on := 0, ground := Go.Ground.data }, { on := 4, ground := Go.Ground.data }, { on := 4, ground := Go.Ground.chain }], guard := none }) rfl (fun K2 hK => ?_) AllReadyH.nil
        go_simp
        have key := or88 A1 A3 X4 HA1.out HA2.out
        rw [HA.out] at key
        refine key.mono ?_
        clear key
        rintro e9 X5 ⟨rfl, hbV⟩
        try unfold knV
        try go_simp
        have HC_5 := Lib.hid (HC_4.out.below hbV (Nat.le_refl _))
        have HS_5 := Lib.hid (HS_4.out.trans (Keeps.of_new hbV))
        have HRW_5 := Lib.hid ((hbV.block _ (lt_of_block HRW_4.out)).trans HRW_4.out)
        refine hK.out _ _ HS_5.out (fun _ => ?_)
        clear hK K2 hbV
        try simp only [Act.put, List.setIfInBounds_toArray, List.set_cons_zero, List.set_cons_succ]
        refine wpAnyH_ready (rs := [7]) (by kernel_rfl) (by simp) ?_
        refine AllReadyH.cons (o := { dst := none, op := Go.Op.store 91 (Go.Operand.tmp 12) (Go.Operand.tmp 80), type := 0, pos := "chart.go:67", after := #[{ on := 6, ground := Go.Ground.data }, { on := 5, ground := Go.Ground.data }, { on := 5, ground := Go.Ground.chain }, { on := 0, ground := Go.Ground.phase }, { on := 1, ground := Go.Ground.phase }, { on := 2, ground := Go.Ground.phase }, { on := 3, ground := Go.Ground.phase }, { on := 4, ground := Go.Ground.phase }, { on := 5, ground := Go.Ground.phase }, { on := 6, ground := Go.Ground.phase }], guard := none }) rfl (fun K2 hK => ?_) AllReadyH.nil
        have hn0 := HRW_5.out
        have w0 : X5.cell? ⟨K12, 0, none⟩ = some (.int .i64 0) := by rw [cell_row hn0]; rfl
        have w1 : X5.cell? ⟨K12, 1, none⟩ = some (.int .i64 0) := by rw [cell_row hn0]; rfl
        have g0 : X5.frozen? ⟨K12, 0, none⟩ = false := frozen_row hn0
        have g1 : X5.frozen? ⟨K12, 1, none⟩ = false := frozen_row hn0
        go_simp
        have hk1 := keeps_setCell X5 K12 0 (.int .i64 A.1)
        have hk2 := keeps_setCell (X5.setCell ⟨K12, 0, none⟩ (.int .i64 A.1)) K12 1 (.int .i64 A.2)
        have hrow2 := set_same 1 (.int .i64 A.2) (set_same (W := X5) 0 (.int .i64 A.1) hn0)
        obtain ⟨V2, hV2⟩ : ∃ V2, (X5.setCell ⟨K12, 0, none⟩ (.int .i64 A.1)).setCell ⟨K12, 1, none⟩ (.int .i64 A.2) = V2 := ⟨_, rfl⟩
        rw [hV2] at hk2 hrow2 ⊢
        have hk3 := hk1.trans hk2
        have HSF := Lib.hid (show Keeps (mutF Ms) wd V2 from keeps_old ((HS_5.out.mono (fun _ _ e => .inl e)).trans (hk3.mono (fun k _ e => .inr (by have e : k = K12 := e; have := HK12.out; omega)))))
        have HCF := Lib.hid (HC_5.out.keep hk3 (by have := lt_of_block HCc.out.row; have := HK12.out; show ¬ _ = _; omega) (by have := HCc.out.ends.lt; have := HK12.out; show ¬ _ = _; omega) (fun j hj => by have := HCc.out.ltF hj; have := HK12.out; show ¬ _ = _; omega))
        have HRF := Lib.hid hrow2
        clear hk1 hk2 hk3 hrow2 hV2 w0 w1 g0 g1 hn0
        refine hK.out _ _ HSF.out (fun _ => ?_)
        clear hK K2
        try simp only [Act.put, List.setIfInBounds_toArray, List.set_cons_zero, List.set_cons_succ]
        refine wpAnyH_done (by kernel_rfl) ?_ _
        go_wp2_with fail
        go_meet
        case rel => exact ⟨K12, rfl, HRF.out, HCF.out, HSF.out, HNK.out⟩
      refine AllReadyH.cons (o := { dst := some 12, op := Go.Op.alloc 91, type := 0, pos := "chart.go:67", after := #[], guard := none }) rfl (fun K2 hK => ?_) AllReadyH.nil
      go_simp
      have hbV := below_alloc_ X0 (.cells #[.int .i64 0, .int .i64 0] 91)
      have hrV := heap_alloc_new_ X0 (.cells #[.int .i64 0, .int .i64 0] 91)
      obtain ⟨X6, hW⟩ : ∃ W2, X0.alloc (.cells #[.int .i64 0, .int .i64 0] 91) = W2 := ⟨_, rfl⟩
      obtain ⟨K12, hK12⟩ : ∃ K12, X0.heap.size = K12 := ⟨_, rfl⟩
      rw [hW] at hbV hrV ⊢
      have HK12 := Lib.hid (show wd.heap.size ≤ K12 from by rw [← hK12]; exact HS_0.out.size)
      rw [hK12] at hrV ⊢
      have HNK : Hid (¬ mutF Ms K12) := Lib.hid (fun ⟨j, hj, e⟩ => by have := HMsl.out j hj; have := HV3s.out; have := HKc.out.size; have := HK12.out; omega)
      have HC_6 := Lib.hid (HC_0.out.below hbV (Nat.le_refl _))
      have HS_6 := Lib.hid (HS_0.out.trans (Keeps.of_new hbV))
      have HRW_6 := Lib.hid hrV
      refine hK.out _ _ HS_6.out (fun _ => ?_)
      clear hK K2 hbV hrV hW hK12
      try simp only [Act.put, List.setIfInBounds_toArray, List.set_cons_zero, List.set_cons_succ]
      refine wpAnyH_ready (rs := [4]) (by kernel_rfl) (by simp) ?_
      refine AllReadyH.cons (o := { dst := some 79, op := Go.Op.call { callee := Go.Callee.value (Go.Operand.func 78), args := #[Go.Operand.tmp 76, Go.Operand.tmp 77, Go.Operand.tmp 78], argTypes := #[86, 79, 3] }, type := 91, pos := "chart.go:67", after := #[{ on := 1, ground := Go.Ground.data }, { on := 2, ground := Go.Ground.data }, { on := 3, ground := Go.Ground.data }], guard := none }) rfl (fun K2 hK => ?_) AllReadyH.nil
      go_simp
      have hbV := (keep_cells HS_6.out (lt_of_cell HB9.out) HNB.out 1).trans HB9.out
      have key := HR2.out (nn + n1) X6 HC_6.out hbV (by have := HNn.out; omega)
      refine key.mono ?_
      clear key hbV
      rintro e9 X7 ⟨rfl, hcV, hkV⟩
      try unfold knV
      try go_simp
      have HC_7 := Lib.hid hcV
      have HS_7 := Lib.hid (HS_6.out.trans hkV)
      have HRW_7 := Lib.hid ((hkV.block _ (lt_of_block HRW_6.out) HNK.out).trans HRW_6.out)
      refine hK.out _ _ HS_7.out (fun _ => ?_)
      clear hK K2 hcV hkV
      try simp only [Act.put, List.setIfInBounds_toArray, List.set_cons_zero, List.set_cons_succ]
      refine wpAnyH_ready (rs := [5]) (by kernel_rfl) (by simp) ?_
      refine AllReadyH.cons (o := { dst := some 80, op := Go.Op.call { callee := Go.Callee.value (Go.Operand.func 88), args := #[Go.Operand.tmp 75, Go.Operand.tmp 79], argTypes := #[91, 91] }, type := 91, pos := "chart.go:67", after := #[{ on := 0, ground := Go.Ground.data }, { on := 4, ground := Go.Ground.data }, { on := 4, ground := Go.Ground.chain }], guard := none }) rfl (fun K2 hK => ?_) AllReadyH.nil
      go_simp
      have key := or88 A1 A3 X7 HA1.out HA2.out
      rw [HA.out] at key
      refine key.mono ?_
      clear key
      rintro e9 X8 ⟨rfl, hbV⟩
      try unfold knV
      try go_simp
      have HC_8 := Lib.hid (HC_7.out.below hbV (Nat.le_refl _))
      have HS_8 := Lib.hid (HS_7.out.trans (Keeps.of_new hbV))
      have HRW_8 := Lib.hid ((hbV.block _ (lt_of_block HRW_7.out)).trans HRW_7.out)
      refine hK.out _ _ HS_8.out (fun _ => ?_)
      clear hK K2 hbV
      try simp only [Act.put, List.setIfInBounds_toArray, List.set_cons_zero, List.set_cons_succ]
      refine wpAnyH_ready (rs := [7]) (by kernel_rfl) (by simp) ?_
      refine AllReadyH.cons (o := { dst := none, op := Go.Op.store 91 (Go.Operand.tmp 12) (Go.Operand.tmp 80), type := 0, pos := "chart.go:67", after := #[{ on := 6, ground := Go.Ground.data }, { on := 5, ground := Go.Ground.data }, { on := 5, ground := Go.Ground.chain }, { on := 0, ground := Go.Ground.phase }, { on := 1, ground := Go.Ground.phase }, { on := 2, ground := Go.Ground.phase }, { on := 3, ground := Go.Ground.phase }, { on := 4, ground := Go.Ground.phase }, { on := 5, ground := Go.Ground.phase }, { on := 6, ground := Go.Ground.phase }], guard := none }) rfl (fun K2 hK => ?_) AllReadyH.nil
      have hn0 := HRW_8.out
      have w0 : X8.cell? ⟨K12, 0, none⟩ = some (.int .i64 0) := by rw [cell_row hn0]; rfl
      have w1 : X8.cell? ⟨K12, 1, none⟩ = some (.int .i64 0) := by rw [cell_row hn0]; rfl
      have g0 : X8.frozen? ⟨K12, 0, none⟩ = false := frozen_row hn0
      have g1 : X8.frozen? ⟨K12, 1, none⟩ = false := frozen_row hn0
      go_simp
      have hk1 := keeps_setCell X8 K12 0 (.int .i64 A.1)
      have hk2 := keeps_setCell (X8.setCell ⟨K12, 0, none⟩ (.int .i64 A.1)) K12 1 (.int .i64 A.2)
      have hrow2 := set_same 1 (.int .i64 A.2) (set_same (W := X8) 0 (.int .i64 A.1) hn0)
      obtain ⟨V2, hV2⟩ : ∃ V2, (X8.setCell ⟨K12, 0, none⟩ (.int .i64 A.1)).setCell ⟨K12, 1, none⟩ (.int .i64 A.2) = V2 := ⟨_, rfl⟩
      rw [hV2] at hk2 hrow2 ⊢
      have hk3 := hk1.trans hk2
      have HSF := Lib.hid (show Keeps (mutF Ms) wd V2 from keeps_old ((HS_8.out.mono (fun _ _ e => .inl e)).trans (hk3.mono (fun k _ e => .inr (by have e : k = K12 := e; have := HK12.out; omega)))))
      have HCF := Lib.hid (HC_8.out.keep hk3 (by have := lt_of_block HCc.out.row; have := HK12.out; show ¬ _ = _; omega) (by have := HCc.out.ends.lt; have := HK12.out; show ¬ _ = _; omega) (fun j hj => by have := HCc.out.ltF hj; have := HK12.out; show ¬ _ = _; omega))
      have HRF := Lib.hid hrow2
      clear hk1 hk2 hk3 hrow2 hV2 w0 w1 g0 g1 hn0
      refine hK.out _ _ HSF.out (fun _ => ?_)
      clear hK K2
      try simp only [Act.put, List.setIfInBounds_toArray, List.set_cons_zero, List.set_cons_succ]
      refine wpAnyH_done (by kernel_rfl) ?_ _
      go_wp2_with fail
      go_meet
      case rel => exact ⟨K12, rfl, HRF.out, HCF.out, HSF.out, HNK.out⟩
    case rest =>
      obtain ⟨K12, rfl, hrw, hcx, hkx, hnk⟩ := hcut
      have HKW := Lib.hid (HKc.out.trans hkx)
      have hzr := HZ3.out.keep HKW.out HNZ.out
      replace x0 := hzr.cell (j := 0) (by omega)
      replace x1 := hzr.cell (j := 1) (by omega)
      replace x2 := hzr.cell (j := 2) (by omega)
      replace x3 := hzr.cell (j := 3) (by omega)
      replace t0 : wc.cell? ⟨K12, 0, none⟩ = some (.int .i64 A.1) := by rw [cell_row hrw]; rfl
      replace t1 : wc.cell? ⟨K12, 1, none⟩ = some (.int .i64 A.2) := by rw [cell_row hrw]; rfl
      have cF := hcx.cF (k := h) (by omega)
      have HR9 := Lib.hid ((HKW.out.block _ (lt_of_block HR3.out) HNZ1.out).trans HR3.out)
      have HKx := Lib.hid hkx
      have HCx := Lib.hid hcx
      have HRw := Lib.hid hrw
      have HNC := Lib.hid (show ¬ mutF Ms Cb from fun ⟨j, hj, e⟩ => (HC.out.ne2 j hj).1 e)
      have HNK2 := Lib.hid hnk
      clear hzr hkx hcx hrw hnk
      go_wp2_with fail
      refine wp_region_held_drew (S := fun w2 => Keeps (mutF Ms) wc w2) (by kernel_rfl) (Keeps.of_new (drew_b _ _)) (fun hS0 => ?_)
      refine wpAnyH_take (i := 0) (oi := { dst := some 81, op := Go.Op.move (Go.Operand.tmp 0), type := 86, pos := "chart.go:68", after := #[], guard := none }) (v := .pointer (some ⟨Cb, 0, none⟩)) rfl (by kernel_rfl) (by kernel_rfl) (by kernel_rfl) (fun _ _ _ h => h) (Or.inl ⟨by rfl, by intro w2 hSw; (try dsimp only at hSw); go_simp⟩) hS0 ?_
      try simp only [Act.put, List.setIfInBounds_toArray, List.set_cons_zero, List.set_cons_succ]
      refine wpAnyH_take (i := 1) (oi := { dst := some 82, op := Go.Op.move (Go.Operand.tmp 2), type := 3, pos := "chart.go:68", after := #[], guard := none }) (v := .int .i64 (h : Int)) rfl (by kernel_rfl) (by kernel_rfl) (by kernel_rfl) (fun _ _ _ h => h) (Or.inl ⟨by rfl, by intro w2 hSw; (try dsimp only at hSw); go_simp⟩) hS0 ?_
      try simp only [Act.put, List.setIfInBounds_toArray, List.set_cons_zero, List.set_cons_succ]
      refine wpAnyH_take (i := 2) (oi := { dst := some 83, op := Go.Op.nilCheck (Go.Operand.tmp 81), type := 0, pos := "chart.go:68", after := #[{ on := 0, ground := Go.Ground.data }], guard := none }) (v := .pointer (some ⟨Cb, 0, none⟩)) rfl (by kernel_rfl) (by kernel_rfl) (by kernel_rfl) (fun _ _ _ h => h) (Or.inl ⟨by rfl, by intro w2 hSw; (try dsimp only at hSw); go_simp⟩) hS0 ?_
      try simp only [Act.put, List.setIfInBounds_toArray, List.set_cons_zero, List.set_cons_succ]
      refine wpAnyH_take (i := 3) (oi := { dst := some 84, op := Go.Op.fieldAddr 93 (Go.Operand.tmp 83) 2, type := 0, pos := "chart.go:68", after := #[{ on := 2, ground := Go.Ground.data }], guard := none }) (v := .pointer (some ⟨Cb, 2, none⟩)) rfl (by kernel_rfl) (by kernel_rfl) (by kernel_rfl) (fun _ _ _ h => h) (Or.inl ⟨by rfl, by intro w2 hSw; (try dsimp only at hSw); go_simp⟩) hS0 ?_
      try simp only [Act.put, List.setIfInBounds_toArray, List.set_cons_zero, List.set_cons_succ]
      refine wpAnyH_take (i := 4) (oi := { dst := some 85, op := Go.Op.indexAddr 89 (Go.Operand.tmp 84) (Go.Operand.tmp 82), type := 0, pos := "chart.go:68", after := #[{ on := 3, ground := Go.Ground.data }, { on := 1, ground := Go.Ground.data }], guard := none }) (v := .pointer (some ⟨Cb, 2 + h, none⟩)) rfl (by kernel_rfl) (by kernel_rfl) (by kernel_rfl) (fun _ _ _ h => h) (Or.inl ⟨by rfl, by intro w2 hSw; (try dsimp only at hSw); go_simp⟩) hS0 ?_
      try simp only [Act.put, List.setIfInBounds_toArray, List.set_cons_zero, List.set_cons_succ]
      refine wpAnyH_take (i := 5) (oi := { dst := some 86, op := Go.Op.load 88 (Go.Operand.tmp 85), type := 88, pos := "chart.go:68", after := #[{ on := 4, ground := Go.Ground.data }], guard := none }) (v := .map (some (Ms h))) rfl (by kernel_rfl) (by kernel_rfl) (by kernel_rfl) (fun _ _ _ h => h) (Or.inl ⟨by rfl, by intro w2 hSw; (try dsimp only at hSw); have q_cF := (keep_cells hSw (lt_of_cell cF) HNC.out _).trans cF; go_simp⟩) hS0 ?_
      try simp only [Act.put, List.setIfInBounds_toArray, List.set_cons_zero, List.set_cons_succ]
      refine wpAnyH_take (i := 6) (oi := { dst := some 87, op := Go.Op.load 79 (Go.Operand.tmp 4), type := 79, pos := "chart.go:68", after := #[], guard := none }) (v := .agg #[.int .i64 (iAt p 0), .int .i64 (iAt p 1), .int .i64 (iAt p 2), .int .i64 (iAt p 3)]) rfl (by kernel_rfl) (by kernel_rfl) (by kernel_rfl) (fun _ _ _ h => h) (Or.inl ⟨by rfl, by intro w2 hSw; (try dsimp only at hSw); have q_x0 := (keep_cells hSw (lt_of_cell x0) HNZ.out _).trans x0; have q_x1 := (keep_cells hSw (lt_of_cell x1) HNZ.out _).trans x1; have q_x2 := (keep_cells hSw (lt_of_cell x2) HNZ.out _).trans x2; have q_x3 := (keep_cells hSw (lt_of_cell x3) HNZ.out _).trans x3; go_simp⟩) hS0 ?_
      try simp only [Act.put, List.setIfInBounds_toArray, List.set_cons_zero, List.set_cons_succ]
      refine wpAnyH_take (i := 7) (oi := { dst := some 88, op := Go.Op.load 91 (Go.Operand.tmp 12), type := 91, pos := "chart.go:68", after := #[], guard := none }) (v := .agg #[.int .i64 A.1, .int .i64 A.2]) rfl (by kernel_rfl) (by kernel_rfl) (by kernel_rfl) (fun _ _ _ h => h) (Or.inl ⟨by rfl, by intro w2 hSw; (try dsimp only at hSw); have q_t0 := (keep_cells hSw (lt_of_cell t0) HNK2.out _).trans t0; have q_t1 := (keep_cells hSw (lt_of_cell t1) HNK2.out _).trans t1; go_simp⟩) hS0 ?_
      try simp only [Act.put, List.setIfInBounds_toArray, List.set_cons_zero, List.set_cons_succ]
      have hd9 : Below wc.heap.size wc wc.drew := ⟨rfl, rfl, rfl, Nat.le_refl _, fun _ _ => rfl⟩
      obtain ⟨X0, hX0⟩ : ∃ X0, wc.drew = X0 := ⟨_, rfl⟩
      rw [hX0] at hS0 hd9 ⊢
      obtain ⟨X1, hput, hcx, hkx⟩ := (HCx.out.below hd9 (Nat.le_refl _)).putF (k := h) (by omega) HP.out.dom (by have := HNn.out; omega)
      have hput2 : (Instr.mapUpdate 88 (.map (some (Ms h))) (.agg #[.int .i64 (iAt p 0), .int .i64 (iAt p 1), .int .i64 (iAt p 2), .int .i64 (iAt p 3)]) (.agg #[.int .i64 A.1, .int .i64 A.2])).run Try.prog X0 = .ok () X1 := by
        have e : knV (frK E mt m p h) = .agg #[.int .i64 A.1, .int .i64 A.2] := by rw [HSp2.out, HA.out]; rfl
        rw [← e]; exact hput
      have HSX := Lib.hid (show Keeps (mutF Ms) wc X1 from hS0.trans (hkx.mono (fun k _ e => ⟨h, by omega, e⟩)))
      have HCX := Lib.hid hcx
      clear hX0 hS0 hd9 hput hcx hkx cF x0 x1 x2 x3 t0 t1
      refine wpAnyH_ready (rs := [8]) (by kernel_rfl) (by simp) ?_
      refine AllReadyH.cons (o := { dst := none, op := Go.Op.mapUpdate 88 (Go.Operand.tmp 86) (Go.Operand.tmp 87) (Go.Operand.tmp 88), type := 0, pos := "chart.go:68", after := #[{ on := 5, ground := Go.Ground.data }, { on := 6, ground := Go.Ground.data }, { on := 7, ground := Go.Ground.data }, { on := 0, ground := Go.Ground.phase }, { on := 1, ground := Go.Ground.phase }, { on := 2, ground := Go.Ground.phase }, { on := 3, ground := Go.Ground.phase }, { on := 4, ground := Go.Ground.phase }, { on := 5, ground := Go.Ground.phase }, { on := 6, ground := Go.Ground.phase }, { on := 7, ground := Go.Ground.phase }], guard := none }) rfl (fun K2 hK => ?_) AllReadyH.nil
      go_simp
      try rw [hput2]
      try go_simp
      refine hK.out _ _ HSX.out (fun _ => ?_)
      clear hK K2 hput2
      try simp only [Act.put, List.setIfInBounds_toArray, List.set_cons_zero, List.set_cons_succ]
      refine wpAnyH_done (by kernel_rfl) ?_ _
      have e1 := (HSX.out.block _ (lt_of_block HR9.out) HNZ1.out).trans HR9.out
      have ek := (HSX.out.block _ (lt_of_block HRw.out) HNK2.out).trans HRw.out
      have t0 : X1.cell? ⟨K12, 0, none⟩ = some (.int .i64 A.1) := by rw [cell_row ek]; rfl
      have t1 : X1.cell? ⟨K12, 1, none⟩ = some (.int .i64 A.2) := by rw [cell_row ek]; rfl
      have y0 : X1.cell? ⟨Z + 1, 0, none⟩ = some (.int .i64 0) := by rw [cell_row e1]; rfl
      have y1 : X1.cell? ⟨Z + 1, 1, none⟩ = some (.int .i64 0) := by rw [cell_row e1]; rfl
      have f0 : X1.frozen? ⟨Z + 1, 0, none⟩ = false := frozen_row e1
      have f1 : X1.frozen? ⟨Z + 1, 1, none⟩ = false := frozen_row e1
      have hk1 := keeps_setCell X1 (Z + 1) 0 (.int .i64 A.1)
      have hk2 := keeps_setCell (X1.setCell ⟨Z + 1, 0, none⟩ (.int .i64 A.1)) (Z + 1) 1 (.int .i64 A.2)
      have Hrow2 := Lib.hid (set_same 1 (.int .i64 A.2) (set_same (W := X1) 0 (.int .i64 A.1) e1))
      have HKf := Lib.hid (hk1.trans hk2)
      clear e1 ek hk1 hk2
      go_wp2_with fail
      refine bodyPost_ret (v := knV A) (res_known Try.results78 (by rfl) Hrow2.out) rfl ?_
      have hkw : Keeps (mutF Ms) w ((X1.setCell ⟨Z + 1, 0, none⟩ (.int .i64 A.1)).setCell ⟨Z + 1, 1, none⟩ (.int .i64 A.2)) := keeps_old ((((HKV.out.trans HKW.out).trans HSX.out).mono (fun _ _ e => .inl e)).trans (HKf.out.mono (fun k _ e => .inr (by have e : k = Z + 1 := e; have := HZ.out; omega))))
      refine ⟨by rw [HSp2.out, HA.out], ?_, hkw⟩
      refine (HCX.out.keep HKf.out (by have := lt_of_block HC.out.row; have := HZ.out; show ¬ _ = _; omega) (by have := HC.out.ends.lt; have := HZ.out; show ¬ _ = _; omega) (fun j hj => by have := HC.out.ltF hj; have := HZ.out; show ¬ _ = _; omega)).mono (by omega)
end Go.Proofs.Ythdjbapidodlfaa
