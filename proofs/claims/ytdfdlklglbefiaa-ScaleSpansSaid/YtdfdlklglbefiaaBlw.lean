/- Stage 3: the document's Below and Short. -/
import Derived.Test.YtdfdlklglbefiaaBlm
import Derived.Laws.MakeOwn
import Derived.Laws.OwnMore
import Derived.StillTailTactics
import Derived.BigQuiet
import Derived.Deep.QuietTactic
namespace Go.Proofs.Ytdfdlklglbefiaa
set_option linter.unusedSimpArgs false
set_option linter.unusedVariables false
open Go.RowKit Go.Shelf

/-- A row of numbers, whole. -/
def RowK (W : World) (D : Nat) (o : List Int) : Prop := W.heap[D]? = some (.cells (flatI o).toArray 3 (0, 0))
theorem RowK.cell {W : World} {D : Nat} {o : List Int} (h : RowK W D o) {j : Nat} (hj : j < o.length) : W.cell? ⟨D, j, none⟩ = some (.int .i64 (iAt o j)) := by
  rw [cell_row h, iAt_eq hj]; simp [flatI, hj]
theorem RowK.fz {W : World} {D : Nat} {o : List Int} (h : RowK W D o) (j : Nat) : W.frozen? ⟨D, j, none⟩ = false := frozen_row h
theorem RowK.put {W : World} {D : Nat} {o : List Int} (h : RowK W D o) (j : Nat) (v : Int) : RowK (W.setCell ⟨D, j, none⟩ (.int .i64 v)) D (o.set j v) := by
  unfold RowK
  rw [set_same j (.int .i64 v) h]
  congr 2
  unfold flatI
  rw [List.setIfInBounds_toArray, List.map_set]
theorem RowK.keep {W W' : World} {D : Nat} {o : List Int} {Mut : Nat → Prop} (h : RowK W D o) (hK : Keeps Mut W W') (hm : ¬ Mut D) : RowK W' D o := (hK.block _ (lt_of_block h) hm).trans h
theorem RowK.ints {W : World} {D : Nat} {o : List Int} (h : RowK W D o) : Ints W (some ⟨D, 0, none⟩) o.length o :=
  ⟨rfl, fun _ => ⟨D, 0, rfl, fun j hj => by rw [Nat.zero_add]; exact h.cell hj⟩⟩
theorem make26 (n : Nat) (hn : n ≤ 1000) (W : World) : (Instr.makeSlice 26 (.int .i64 (n : Int)) (.int .i64 (n : Int))).run Try.prog W = .ok (.slice (some ⟨W.heap.size, 0, none⟩) n n) (W.alloc (.cells (flatI (List.replicate n 0)).toArray 3)) := by
  obtain ⟨i, hi, hz, hs, hb⟩ := info_parts info3_
  have h := run_makeSlice (P := Try.prog) W 26 3 i _ Try.underlying26 hi hz .i64 .i64 (n : Int) (n : Int) (by omega) (by omega) (by rw [hs]; omega) (by rw [hb]; omega) (by omega)
  simp only [Int.toNat_natCast, hs, Nat.mul_one] at h
  rw [h]
  have e : madeCells (Value.int IntKind.i64 0).cells n = (flatI (List.replicate n 0)).toArray := by
    apply Array.ext'
    have : (Value.int IntKind.i64 0).cells = #[Value.int IntKind.i64 0] := rfl
    rw [this, toList_madeCells_one]
    simp [flatI]
  rw [e]
set_option maxRecDepth 100000 in
set_option maxHeartbeats 40000000 in
theorem below50 (A : Option Addr) (n cap : Nat) (zs gs : List Rg) (w : World) (h : Rgs w A n zs) (hn : n ≤ 1000) (ho : Ok zs) (hG : IsG gs zs) :
    Calls Try.prog 50 #[.slice A n cap] w fun e w' => ∃ D, e = .returned (.slice (some ⟨D, 0, none⟩) n n) ∧ Ints w' (some ⟨D, 0, none⟩) n (blwL zs gs) ∧ w.heap.size ≤ D ∧ Below w.heap.size w w' := by
  have Hn := Lib.hid h.1
  have H := Lib.hid h
  have HO := Lib.hid ho
  have HG := Lib.hid hG
  have hmk := make26 n hn w
  have hk0 := keep_alloc (fun _ => False) w (.cells (flatI (List.replicate n 0)).toArray 3)
  have hr0 : RowK (w.alloc (.cells (flatI (List.replicate n 0)).toArray 3)) w.heap.size (List.replicate n 0) := heap_alloc_new_ _ _
  obtain ⟨w1, hw1⟩ : ∃ w1, w.alloc (.cells (flatI (List.replicate n 0)).toArray 3) = w1 := ⟨_, rfl⟩
  obtain ⟨D, hD⟩ : ∃ D, w.heap.size = D := ⟨_, rfl⟩
  rw [hw1] at hmk hk0 hr0
  rw [hD] at hmk hr0
  have HK0 := Lib.hid hk0
  have HR0 := Lib.hid hr0
  have HD := Lib.hid hD
  clear h ho hG hk0 hr0 hw1 hD
  go_enter Try.func50, Try.ntmps50
  go_wp2_with fail
  clear hmk
  have HI0 : Hid (∃ o, RowK w1 D o ∧ BlI zs gs 0 0 o ∧ Keeps (fun j => j = D) w1 w1) := Lib.hid ⟨_, HR0.out, by rw [← Hn.out]; exact BlI.start zs gs, Keeps.refl _ _⟩
  go_loopw [4] (fun r wr => ∃ q : Nat, q ≤ n ∧ r = .int .i64 (q : Int) ∧ Hid (∃ o, RowK wr D o ∧ BlI zs gs q 0 o ∧ Keeps (fun j => j = D) w1 wr)) (fun r _ => n - (intOf r).toNat)
  case atStart => exact ⟨0, Nat.zero_le _, rfl, HI0⟩
  case round =>
    obtain ⟨q, hq, rfl, HI⟩ := hrel
    obtain ⟨wq, rfl⟩ : ∃ wq, wq = wr := ⟨_, rfl⟩
    by_cases hlt : q < n
    · go_wp2_with fail
      go_loopw [5] (fun i wr => ∃ m : Nat, m ≤ n ∧ i = .int .i64 (m : Int) ∧ Hid (∃ o, RowK wr D o ∧ BlI zs gs q m o ∧ Keeps (fun j => j = D) w1 wr)) (fun i _ => n - (intOf i).toNat)
      case atStart => exact ⟨0, Nat.zero_le _, rfl, HI⟩
      case round =>
        obtain ⟨m, hm, rfl, HJ⟩ := hrel
        obtain ⟨wm, rfl⟩ : ∃ wm, wm = wr := ⟨_, rfl⟩
        by_cases hlt2 : m < n
        · obtain ⟨o, hrow, hbi, hkm⟩ := HJ.out
          have hol : o.length = n := hbi.len.trans Hn.out
          have x0 := hrow.cell (j := m) (by omega)
          have z0 := hrow.fz m
          have hup := hbi.up m (by rw [Hn.out]; exact hlt2)
          obtain ⟨v, hv⟩ : ∃ v, iAt o m = v := ⟨_, rfl⟩
          rw [hv] at x0 hup
          have hvb : v ≤ 1001 := by
            have := isG_len HG.out HO.out; have := cntB_le gs (gAt zs m).lo; have := Hn.out; unfold blw at hup; omega
          have i0 : (0 : Int) ≤ (m : Int) := by omega
          have i1 : (m : Int) < (n : Int) := by omega
          have HBI := Lib.hid hbi
          have Hrow := Lib.hid hrow
          have Hkm := Lib.hid hkm
          have Hv := Lib.hid hv
          have Hol := Lib.hid hol
          clear hbi hrow hkm hv hol hup
          go_wp2_with fail
          have HJ0 : Hid (∃ o, RowK (wm.setCell ⟨D, m, none⟩ (.int .i64 (max v 1))) D o ∧ BlJ zs gs q m 0 o ∧ Keeps (fun j => j = D) w1 (wm.setCell ⟨D, m, none⟩ (.int .i64 (max v 1)))) := Lib.hid ⟨_, Hrow.out.put m (max v 1), by
            have h1 := HBI.out.first (by rw [Hn.out]; exact hlt2)
            rwa [Hv.out] at h1, Hkm.out.trans (keeps_setCell _ _ _ _)⟩
          clear x0 z0
          go_loopw [6] (fun i wr => ∃ k : Nat, k ≤ n ∧ i = .int .i64 (k : Int) ∧ Hid (∃ o, RowK wr D o ∧ BlJ zs gs q m k o ∧ Keeps (fun j => j = D) w1 wr)) (fun i _ => n - (intOf i).toNat)
          case atStart => exact ⟨0, Nat.zero_le _, rfl, HJ0⟩
          case round =>
            obtain ⟨k, hk, rfl, HK⟩ := hrel
            obtain ⟨wk, rfl⟩ : ∃ wk, wk = wr := ⟨_, rfl⟩
            by_cases hlt3 : k < n
            · obtain ⟨o2, hrow2, hbj, hkk⟩ := HK.out
              have hol2 : o2.length = n := hbj.base.len.trans Hn.out
              have y0 := hrow2.cell (j := m) (by omega)
              have y1 := hrow2.cell (j := k) (by omega)
              have y2 := hrow2.fz m
              have hup2 := hbj.base.up m (by rw [Hn.out]; exact hlt2)
              have hup3 := hbj.base.up k (by rw [Hn.out]; exact hlt3)
              have hgl := isG_len HG.out HO.out
              have hc2 := cntB_le gs (gAt zs m).lo
              have hc3 := cntB_le gs (gAt zs k).lo
              unfold blw at hup2 hup3
              have hR := H.out.keep (HK0.out.none.trans hkk) (fun b o e h => by
                obtain ⟨b2, o2, e2, hcc⟩ := H.out.2 (by omega)
                rw [e2] at e
                cases e
                have := lt_of_cell (hcc 0 (by omega)).1
                have := HD.out
                omega)
              obtain ⟨bz, oz, rfl, hcz⟩ := hR.2 (by omega)
              obtain ⟨a0, a1⟩ := hcz k hlt3
              obtain ⟨b0, b1⟩ := hcz m hlt2
              obtain ⟨u, hu⟩ : ∃ u, iAt o2 m = u := ⟨_, rfl⟩
              obtain ⟨s, hs⟩ : ∃ s, iAt o2 k = s := ⟨_, rfl⟩
              rw [hu] at y0 hup2
              rw [hs] at y1 hup3
              have hub : u ≤ 1001 ∧ 0 ≤ u := by have := Hn.out; omega
              have hsb : s ≤ 1001 ∧ 0 ≤ s := by have := Hn.out; omega
              obtain ⟨kh, hkh⟩ : ∃ kh, (gAt zs k).hi = kh := ⟨_, rfl⟩
              obtain ⟨ml, hml⟩ : ∃ ml, (gAt zs m).lo = ml := ⟨_, rfl⟩
              rw [hkh] at a1
              rw [hml] at b0
              have Hu := Lib.hid hu
              have Hs := Lib.hid hs
              have Hkh := Lib.hid hkh
              have Hml := Lib.hid hml
              have HBJ := Lib.hid hbj
              have Hrow2 := Lib.hid hrow2
              have Hkk := Lib.hid hkk
              have j0 : (0 : Int) ≤ (k : Int) := by omega
              have j1 : (k : Int) < (n : Int) := by omega
              clear hrow2 hbj hkk hol2 hup2 hup3 hgl hc2 hc3 hR hcz hu hs hkh hml a0 b1
              by_cases hlo : kh < ml
              · have dl : decide (kh < ml) = true := decide_eq_true hlo
                have Hlo := Lib.hid hlo
                clear hlo
                go_wp2_with fail
                go_still_tail 10, (by kernel_rfl)
                go_wp2_with fail
                have hw1 : IntKind.i64.wrap (s + 1) = s + 1 := IntWalk.i64_in _ (by omega)
                obtain ⟨X, hX⟩ : ∃ X, wk.drew = X := ⟨_, rfl⟩
                have hkX : Keeps (fun _ => False) wk X := by rw [← hX]; exact Keeps.of_new (drew_b wk 1)
                rw [hX]
                have Hrow3 := Lib.hid (Hrow2.out.keep hkX (fun e => e))
                have HkX := Lib.hid hkX
                replace y0 := (keep_cells hkX (lt_of_cell y0) (fun e => e) m).trans y0
                replace y1 := (keep_cells hkX (lt_of_cell y1) (fun e => e) k).trans y1
                replace y2 := Hrow3.out.fz m
                clear hX hkX a1 b0 dl
                go_still_tail 13, (by kernel_rfl)
                go_wp2_with fail
                go_roundw
                case rel =>
                  have h1 := HBJ.out.take HG.out HO.out (by rw [Hn.out]; exact hlt2) (by rw [Hn.out]; exact hlt3) (by rw [Hkh.out, Hml.out]; exact Hlo.out)
                  rw [Hu.out, Hs.out] at h1
                  have k1 := keeps_setCell X D m (.int .i64 (max u (s + 1)))
                  exact ⟨k + 1, by omega, by go_num, Lib.hid ⟨_, (Hrow3.out.put m (max u (s + 1))).keep (Keeps.of_new (Mut := fun _ => False) (drew_b _ 1)) (fun e => e), h1, ((Hkk.out.trans HkX.out.none).trans k1).trans (Keeps.of_new (drew_b _ 1))⟩⟩
                case measure => simp [intOf]; omega
              · have dl : decide (kh < ml) = false := decide_eq_false hlo
                have Hlo := Lib.hid hlo
                clear hlo
                go_wp2_with fail
                go_still_tail 10, (by kernel_rfl)
                go_wp2_with fail
                go_roundw
                case rel => exact ⟨k + 1, by omega, by go_num, Lib.hid ⟨o2, Hrow2.out, HBJ.out.skip (by rw [Hkh.out, Hml.out]; have := Hlo.out; omega), Hkk.out.trans (Keeps.of_new (drew_b _ _))⟩⟩
                case measure => simp [intOf]; omega
            · have e : k = n := by omega
              subst e
              go_wp2_with fail
              go_roundw
              case rel =>
                obtain ⟨o2, h1, h2, h3⟩ := HK.out
                exact ⟨m + 1, by omega, by go_num, Lib.hid ⟨o2, h1, BlJ.done HG.out HO.out (by rw [Hn.out]; exact h2) (by rw [Hn.out]; exact hlt2), h3⟩⟩
              case measure => simp [intOf]; omega
        · have e : m = n := by omega
          subst e
          go_wp2_with fail
          go_roundw
          case rel =>
            obtain ⟨o, h1, h2, h3⟩ := HJ.out
            exact ⟨q + 1, by omega, by go_num, Lib.hid ⟨o, h1, BlI.round (by rw [Hn.out]; exact h2), h3⟩⟩
          case measure => simp [intOf]; omega
    · have e : q = n := by omega
      subst e
      obtain ⟨o, h1, h2, h3⟩ := HI.out
      have heq := (show BlI zs gs zs.length 0 o by rw [Hn.out]; exact h2).eq HG.out HO.out
      have hol : o.length = q := h2.len.trans Hn.out
      have hi := h1.ints
      rw [heq] at hi
      rw [heq] at hol
      rw [hol] at hi
      have HIi := Lib.hid hi
      have H3 := Lib.hid h3
      clear h1 h2 h3 heq hol hi
      go_wp2_with fail
      go_ret
      refine ⟨D, rfl, HIi.out, by have := HD.out; omega, ?_⟩
      exact (HK0.out.none.trans H3.out).below (Nat.le_refl _) (fun k hk e => by have := HD.out; omega)
set_option maxRecDepth 100000 in
set_option maxHeartbeats 4000000 in
theorem short27 (A : Option Addr) (n cap : Nat) (zs : List Rg) (w : World) (h : Rgs w A n zs) (hn1 : 1 ≤ n) (hn : n ≤ 1000) (ho : Ok zs) :
    Calls Try.prog 27 #[.slice A n cap] w fun e w' => ∃ a, LenU zs a ∧ a ≤ n ∧ e = .returned (.int .i64 (a : Int)) ∧ Below w.heap.size w w' := by
  obtain ⟨gs, hG⟩ := exG ho
  have Hn := Lib.hid h.1
  have H := Lib.hid h
  have HO := Lib.hid ho
  have HG := Lib.hid hG
  clear h ho hG
  go_enter Try.func27, Try.ntmps27
  go_wp2_with fail
  refine (below50 A n cap zs gs w H.out hn HO.out HG.out).mono ?_
  rintro e w1 ⟨D, rfl, hi, hD, hb⟩
  have Hi := Lib.hid hi
  have Hb := Lib.hid hb
  clear hi hD hb
  go_wp2_with fail
  go_loopw [4, 5] (fun v i wr => ∃ k : Nat, k ≤ n ∧ i = .int .i64 (k : Int) ∧ wr = w1 ∧ ∃ M : Nat, v = .int .i64 (M : Int) ∧ Hid ((∀ j, j < k → blw zs gs j ≤ M) ∧ M ≤ gs.length) ∧ M ≤ 1001) (fun _ i _ => n - (intOf i).toNat)
  case atStart => exact ⟨0, Nat.zero_le _, rfl, rfl, 0, rfl, Lib.hid ⟨fun j h => by omega, Nat.zero_le _⟩, by omega⟩
  case round =>
    obtain ⟨k, hk, rfl, rfl, M, rfl, HI, hM⟩ := hrel
    by_cases hlt : k < n
    · have hbl := blw_le HG.out (i := k) (by rw [Hn.out]; exact hlt)
      have hgl := isG_len HG.out HO.out
      obtain ⟨b, o, he, hc⟩ := Hi.out.2 (by omega)
      cases he
      have x0 := hc k hlt
      rw [Nat.zero_add] at x0
      have e0 : iAt (blwL zs gs) k = blw zs gs k := by
        rw [iAt_eq (by simp [blwL]; rw [Hn.out]; exact hlt)]; simp [blwL]
      obtain ⟨v, hv⟩ : ∃ v : Nat, blw zs gs k = (v : Int) := ⟨(blw zs gs k).toNat, by omega⟩
      rw [e0, hv] at x0
      rw [hv] at hbl
      have hv2 : v ≤ 1001 := by have := Hn.out; omega
      have Hv := Lib.hid hv
      have Hbl := Lib.hid hbl
      have i0 : (0 : Int) ≤ (k : Int) := by omega
      have i1 : (k : Int) < (n : Int) := by omega
      clear hbl hgl hc e0 hv
      go_wp2_with fail
      go_roundw
      case rel =>
        refine ⟨k + 1, by omega, by go_num, (by first | rfl | trivial), max M v, by congr 1; omega, Lib.hid ⟨fun j hj => ?_, ?_⟩, by omega⟩
        · rcases Nat.lt_or_ge j k with h | h
          · have := HI.out.1 j h; omega
          · obtain rfl : j = k := by omega
            rw [Hv.out]; omega
        · have := HI.out.2; have := Hbl.out; omega
      case measure => simp [intOf]; omega
    · have e : k = n := by omega
      subst e
      obtain ⟨i, hi, hmx⟩ := blw_max HG.out HO.out (by have := Hn.out; omega)
      have h1 := HI.out.1 i (by have := Hn.out; omega)
      have h2 := HI.out.2
      have hMe : M = gs.length := by omega
      have hgl := isG_len HG.out HO.out
      have HR := Lib.hid (show LenU zs M ∧ M ≤ k from ⟨⟨gs, HG.out, hMe.symm⟩, by have := Hn.out; omega⟩)
      clear hi hmx h1 h2 hMe hgl
      go_wp2_with fail
      go_ret
      exact ⟨M, HR.out.1, HR.out.2, rfl, Hb.out⟩
end Go.Proofs.Ytdfdlklglbefiaa
