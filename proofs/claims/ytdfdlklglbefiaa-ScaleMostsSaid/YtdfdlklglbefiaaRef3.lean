/- Stage 3: the document's CheckScale and Met; ints and ranges; Song. -/
import Derived.Test.YtdfdlklglbefiaaMet
import Derived.BigQuiet
namespace Go.Proofs.Ytdfdlklglbefiaa
set_option linter.unusedSimpArgs false
set_option linter.unusedVariables false
open Go.RowKit Go.Shelf
attribute [local go_sem ↓] exec_app

set_option maxRecDepth 100000 in
set_option maxHeartbeats 8000000 in
theorem refSong19 (A : Option Addr) (n cap : Nat) (zs : List Rg) (w : World) (h : Rgs w A n zs) (hn : n ≤ 9223372036854775807) :
    Calls Try.prog 19 #[.slice A n cap] w fun e w' => e = .returned (.int .i64 (chkS zs)) ∧ Below w.heap.size w w' := by
  have Hlen := Lib.hid h.1
  by_cases h1 : n < 1
  · have d1 : decide ((n : Int) < 1) = true := decide_eq_true (by omega)
    have H1 := Lib.hid h1
    clear h1 hn h
    go_enter Try.func19, Try.ntmps19
    go_wp2_with fail
    go_ret
    exact ⟨ret_int (by unfold chkS; rw [if_pos (by have := H1.out; have := Hlen.out; omega)]), Below.refl _ _⟩
  · have d1 : decide ((n : Int) < 1) = false := decide_eq_false (by omega)
    by_cases h2 : 24 < n
    · have d2 : decide ((24 : Int) < (n : Int)) = true := decide_eq_true (by omega)
      have H2 := Lib.hid h2
      clear h1 h2 hn h
      go_enter Try.func19, Try.ntmps19
      go_wp2_with fail
      go_ret
      exact ⟨ret_int (by unfold chkS; rw [if_pos (by have := H2.out; have := Hlen.out; omega)]), Below.refl _ _⟩
    · have d2 : decide ((24 : Int) < (n : Int)) = false := decide_eq_false (by omega)
      have Hn := Lib.hid (show chkS zs = if validZ zs then 0 else 2 by unfold chkS; rw [if_neg (by have := Hlen.out; omega)])
      go_enter Try.func19, Try.ntmps19
      go_wp2_with fail
      clear d1 d2
      go_loopw [3] (fun i wr => ∃ k : Nat, k ≤ n ∧ i = .int .i64 (k : Int) ∧ validZ (zs.take k) = true ∧ Below w.heap.size w wr) (fun i _ => n - (intOf i).toNat)
      case atStart => exact ⟨0, Nat.zero_le _, rfl, rfl, Below.refl _ _⟩
      case round =>
        obtain ⟨k, hk, rfl, hw, hB⟩ := hrel
        obtain ⟨wk, rfl⟩ : ∃ wk, wk = wr := ⟨_, rfl⟩
        by_cases hlt : k < n
        · obtain ⟨hl, hc⟩ := h.below hB (Nat.le_refl _)
          obtain ⟨b, o, rfl, hc2⟩ := hc (by omega)
          obtain ⟨c0, c1⟩ := hc2 k hlt
          have Hs := Lib.hid (validZ_take zs k (by omega))
          have Hf := Lib.hid (validZ_stop zs k (by omega))
          have Hw := Lib.hid hw
          obtain ⟨g, hg⟩ : ∃ g, gAt zs k = g := ⟨_, rfl⟩
          rw [hg] at c0 c1 Hs Hf
          have i0 : (0 : Int) ≤ (k : Int) := by omega
          have i1 : (k : Int) < (n : Int) := by omega
          have HB := Lib.hid hB
          have hcells : ∀ a, (wk.drewN a).cell? ⟨b, o + k * 2, none⟩ = some (.int .i64 g.lo) ∧ (wk.drewN a).cell? ⟨b, o + k * 2 + 1, none⟩ = some (.int .i64 g.hi) := fun a => ⟨c0, c1⟩
          clear hc hc2 hw hl hg hB h h1 h2
          by_cases x1 : g.lo < 0
          · have d1 : decide (g.lo < 0) = true := decide_eq_true x1
            go_wp2_with fail
            go_quiet (fail)
            go_wp2_with fail
            go_ret
            exact ⟨ret_int (by rw [Hn.out, Hf.out (by omega)]; rfl), HB.out.trans ((drew_b wk _).mono HB.out.size)⟩
          · have d1 : decide (g.lo < 0) = false := decide_eq_false x1
            by_cases x2 : g.hi < g.lo
            · have d2 : decide (g.hi < g.lo) = true := decide_eq_true x2
              go_wp2_with fail
              go_quiet (fail)
              go_wp2_with fail
              go_ret
              exact ⟨ret_int (by rw [Hn.out, Hf.out (by omega)]; rfl), HB.out.trans ((drew_b wk _).mono HB.out.size)⟩
            · have d2 : decide (g.hi < g.lo) = false := decide_eq_false x2
              by_cases x3 : 10000 < g.hi
              · have d3 : decide (10000 < g.hi) = true := decide_eq_true x3
                go_wp2_with fail
                go_quiet (fail)
                go_wp2_with fail
                go_ret
                exact ⟨ret_int (by rw [Hn.out, Hf.out (by omega)]; rfl), HB.out.trans ((drew_b wk _).mono HB.out.size)⟩
              · have d3 : decide (10000 < g.hi) = false := decide_eq_false x3
                go_wp2_with fail
                go_quiet (fail)
                go_wp2_with fail
                go_roundw
                case rel => exact ⟨k + 1, by omega, by go_num, by rw [Hs.out, Hw.out, okZ_iff.2 ⟨by omega, by omega, by omega⟩]; rfl, HB.out.trans ((drew_b wk _).mono HB.out.size)⟩
                case measure => simp [intOf]; omega
        · go_wp2_with fail
          go_ret
          exact ⟨ret_int (by rw [Hn.out, ← List.take_of_length_le (l := zs) (i := k) (by have := Hlen.out; omega), hw]; rfl), hB⟩
end Go.Proofs.Ytdfdlklglbefiaa

namespace Go.Proofs.Ytdfdlklglbefiaa
set_option linter.unusedSimpArgs false
set_option linter.unusedVariables false
open Go.RowKit Go.Shelf
attribute [local go_sem ↓] exec_app

theorem meets_take {st : List Int} {r : Rg} {k : Nat} (hk : k < st.length) (h : meets (st.take k) r = false) : meets (st.take (k + 1)) r = onR (iAt st k) r := by
  unfold meets at h ⊢
  rw [List.take_succ_eq_append_getElem hk, List.any_append, h, iAt_eq hk]
  simp
theorem meets_on {st : List Int} {r : Rg} {k : Nat} (hk : k < st.length) (h : onR (iAt st k) r = true) : meets st r = true := by
  rw [iAt_eq hk] at h
  exact List.any_eq_true.2 ⟨_, List.getElem_mem hk, h⟩
set_option maxRecDepth 100000 in
set_option maxHeartbeats 8000000 in
theorem meets38 (g : Rg) (A : Option Addr) (n cap : Nat) (st : List Int) (w : World) (h : Ints w A n st) (hn : n ≤ 1000000) :
    Calls Try.prog 38 #[.agg #[.int .i64 g.lo, .int .i64 g.hi], .slice A n cap] w fun e w' => e = .returned (.bool (meets st g)) ∧ Below w.heap.size w w' := by
  have Hlen := Lib.hid h.1
  have hb0 := below_alloc_ w (.cells #[.int .i64 g.lo, .int .i64 g.hi] 56)
  have hR0 := heap_alloc_new_ w (.cells #[.int .i64 g.lo, .int .i64 g.hi] 56)
  have Hb0 := Lib.hid hb0
  have HR0 := Lib.hid hR0
  have h2 := h.below hb0 (Nat.le_refl _)
  clear hb0 hR0
  go_enter Try.func38, Try.ntmps38
  go_wp2_with fail
  obtain ⟨W0, hW0⟩ : ∃ W0, w.alloc (.cells #[.int .i64 g.lo, .int .i64 g.hi] 56) = W0 := ⟨_, rfl⟩
  rw [hW0] at Hb0 HR0 h2 ⊢
  obtain ⟨R, hR⟩ : ∃ R, w.heap.size = R := ⟨_, rfl⟩
  have HRe := Lib.hid hR
  rw [hR] at HR0
  rw [hR]
  clear hW0 hR
  go_loopw [5] (fun i wr => ∃ k : Nat, k ≤ n ∧ i = .int .i64 (k : Int) ∧ meets (st.take k) g = false ∧ Below W0.heap.size W0 wr) (fun i _ => n - (intOf i).toNat)
  case atStart => exact ⟨0, Nat.zero_le _, rfl, rfl, Below.refl _ _⟩
  case round =>
    obtain ⟨k, hk, rfl, hw, hB⟩ := hrel
    obtain ⟨wk, rfl⟩ : ∃ wk, wk = wr := ⟨_, rfl⟩
    by_cases hlt : k < n
    · obtain ⟨hl, hc⟩ := h2.below hB (Nat.le_refl _)
      obtain ⟨b, o, rfl, hc2⟩ := hc (by omega)
      have c0 := hc2 k hlt
      have Hs := Lib.hid (meets_take (st := st) (r := g) (by omega) hw)
      have Hf := Lib.hid (fun hh => meets_on (st := st) (r := g) (k := k) (by omega) hh)
      obtain ⟨x, hx⟩ : ∃ x, iAt st k = x := ⟨_, rfl⟩
      rw [hx] at c0 Hs Hf
      have hRk := (hB.block _ (lt_of_block HR0.out)).trans HR0.out
      have r0 : wk.cell? ⟨R, 0, none⟩ = some (.int .i64 g.lo) := by rw [cell_row hRk]; rfl
      have r1 : wk.cell? ⟨R, 1, none⟩ = some (.int .i64 g.hi) := by rw [cell_row hRk]; rfl
      have i0 : (0 : Int) ≤ (k : Int) := by omega
      have i1 : (k : Int) < (n : Int) := by omega
      have HB := Lib.hid hB
      have hcells : ∀ a, (wk.drewN a).cell? ⟨b, o + k, none⟩ = some (.int .i64 x) ∧ (wk.drewN a).cell? ⟨R, 0, none⟩ = some (.int .i64 g.lo) ∧ (wk.drewN a).cell? ⟨R, 1, none⟩ = some (.int .i64 g.hi) := fun a => ⟨c0, r0, r1⟩
      have HF := Lib.hid (show ∀ q, Below w.heap.size w (wk.drewN q) from fun q => (Hb0.out.trans (hB.mono Hb0.out.size)).trans ((drew_b wk q).mono (by have := Hb0.out.size; have := hB.size; omega)))
      clear hc hc2 hw hl hx hB h h2 hRk
      by_cases x1 : g.lo ≤ x
      · have d1 : decide (g.lo ≤ x) = true := decide_eq_true x1
        by_cases x2 : x ≤ g.hi
        · have d2 : decide (x ≤ g.hi) = true := decide_eq_true x2
          go_wp2_with fail
          go_quiet (fail)
          go_wp2_with fail
          go_ret
          exact ⟨ret_bool (Hf.out (onR_iff.2 ⟨x1, x2⟩)).symm, HF.out _⟩
        · have d2 : decide (x ≤ g.hi) = false := decide_eq_false x2
          go_wp2_with fail
          go_quiet (fail)
          go_wp2_with fail
          go_roundw
          case rel => exact ⟨k + 1, by omega, by go_num, by rw [Hs.out]; simp [onR, d2], HB.out.trans ((drew_b wk _).mono HB.out.size)⟩
          case measure => simp [intOf]; omega
      · have d1 : decide (g.lo ≤ x) = false := decide_eq_false x1
        go_wp2_with fail
        go_quiet (fail)
        go_wp2_with fail
        go_roundw
        case rel => exact ⟨k + 1, by omega, by go_num, by rw [Hs.out]; simp [onR, d1], HB.out.trans ((drew_b wk _).mono HB.out.size)⟩
        case measure => simp [intOf]; omega
    · have HF := Lib.hid (show Below w.heap.size w wk from Hb0.out.trans (hB.mono Hb0.out.size))
      have e : k = n := by omega
      subst e
      clear hB h h2
      go_wp2_with fail
      go_ret
      exact ⟨ret_bool (by rw [← hw, List.take_of_length_le (by have := Hlen.out; omega)]), HF.out⟩

set_option maxRecDepth 100000 in
set_option maxHeartbeats 8000000 in
theorem refIsScale41 (A : Option Addr) (n cap : Nat) (zs : List Rg) (A2 : Option Addr) (m cap2 : Nat) (st : List Int) (w : World) (h : Rgs w A n zs) (hs : Ints w A2 m st) (hn : n ≤ 9223372036854775807) :
    Calls Try.prog 41 #[.slice A n cap, .slice A2 m cap2] w fun e w' => e = .returned (.int .i64 (isSc zs st)) ∧ Below w.heap.size w w' := by
  have Hm := Lib.hid hs.1
  have Hn := Lib.hid h.1
  have HN := Lib.hid hn
  go_enter Try.func41, Try.ntmps41
  go_wp2_with fail
  refine (refSong19 A n cap zs w h HN.out).mono ?_
  rintro e w2 ⟨rfl, hb⟩
  have h2 := h.below hb (Nat.le_refl _)
  have hs2 := hs.below hb (Nat.le_refl _)
  obtain ⟨c, hc⟩ : ∃ c, chkS zs = c := ⟨_, rfl⟩
  rw [hc]
  have Hc := Lib.hid hc
  have Hb := Lib.hid hb
  clear hb h hs hc hn
  by_cases h0 : c = 0
  · subst h0
    have H2 := Lib.hid h2
    have Hs := Lib.hid hs2
    clear h2 hs2
    by_cases hl : 24 < m
    · have d1 : decide ((24 : Int) < (m : Int)) = true := decide_eq_true (by omega)
      have Hl := Lib.hid hl
      clear hl
      go_wp2_with fail
      go_ret
      exact ⟨ret_int (by unfold isSc; rw [if_neg (by simpa using Hc.out), if_pos (by have := Hl.out; have := Hm.out; omega)]), Hb.out⟩
    · have d1 : decide ((24 : Int) < (m : Int)) = false := decide_eq_false (by omega)
      have Hi := Lib.hid (show isSc zs st = if withI 0 10000 st = false then 3 else if risB st = false then 16 else 0 by unfold isSc; rw [if_neg (by simpa using Hc.out), if_neg (by have := Hm.out; omega)])
      go_wp2_with fail
      clear d1
      go_loopw [5] (fun i wr => ∃ k : Nat, k ≤ m ∧ i = .int .i64 (k : Int) ∧ withI 0 10000 (st.take k) = true ∧ Below w2.heap.size w2 wr) (fun i _ => m - (intOf i).toNat)
      case atStart => exact ⟨0, Nat.zero_le _, rfl, rfl, Below.refl _ _⟩
      case round =>
        obtain ⟨k, hk, rfl, hw, hB⟩ := hrel
        obtain ⟨wk, rfl⟩ : ∃ wk, wk = wr := ⟨_, rfl⟩
        have HF := Lib.hid (show ∀ q, Below w.heap.size w (wk.drewN q) from fun q => (Hb.out.trans (hB.mono Hb.out.size)).trans ((drew_b wk q).mono (by have := Hb.out.size; have := hB.size; omega)))
        have HB := Lib.hid hB
        by_cases hlt : k < m
        · obtain ⟨hl2, hc⟩ := Hs.out.below hB (Nat.le_refl _)
          obtain ⟨b, o, rfl, hc2⟩ := hc (by omega)
          have c0 := hc2 k hlt
          have Hst := Lib.hid (withI_take 0 10000 st k (by omega))
          have Hf := Lib.hid (withI_stop 0 10000 st k (by omega))
          have Hw := Lib.hid hw
          obtain ⟨x, hx⟩ : ∃ x, iAt st k = x := ⟨_, rfl⟩
          rw [hx] at c0 Hst Hf
          have i0 : (0 : Int) ≤ (k : Int) := by omega
          have i1 : (k : Int) < (m : Int) := by omega
          have hcells : ∀ a, (wk.drewN a).cell? ⟨b, o + k, none⟩ = some (.int .i64 x) := fun a => c0
          clear hc hc2 hw hl2 hx hB
          by_cases x1 : x < 0
          · have d1 : decide (x < 0) = true := decide_eq_true x1
            go_wp2_with fail
            go_ret
            exact ⟨ret_int (by rw [Hi.out, if_pos (Hf.out (by omega))]), HF.out 0⟩
          · have d1 : decide (x < 0) = false := decide_eq_false x1
            by_cases x2 : 10000 < x
            · have d2 : decide (10000 < x) = true := decide_eq_true x2
              go_wp2_with fail
              go_ret
              exact ⟨ret_int (by rw [Hi.out, if_pos (Hf.out (by omega))]), HF.out 0⟩
            · have d2 : decide (10000 < x) = false := decide_eq_false x2
              go_wp2_with fail
              go_roundw
              case rel => exact ⟨k + 1, by omega, by go_num, by rw [Hst.out, Hw.out, inB_iff.2 ⟨by omega, by omega⟩]; rfl, HB.out⟩
              case measure => simp [intOf]; omega
        · have e : k = m := by omega
          subst e
          have Hw := Lib.hid (show withI 0 10000 st = true by rw [← hw, List.take_of_length_le (by have := Hm.out; omega)])
          have Hs5 := Lib.hid (Hs.out.below hB (Nat.le_refl _))
          clear hw hB HB
          go_wp2_with fail
          go_loopw [6] (fun i wr => ∃ q : Nat, 1 ≤ q ∧ q ≤ k + 1 ∧ i = .int .i64 (q : Int) ∧ (∀ j, j + 1 < q → j + 1 < k → iAt st j < iAt st (j + 1)) ∧ Below wk.heap.size wk wr) (fun i _ => k + 1 - (intOf i).toNat)
          case atStart => exact ⟨1, Nat.le_refl _, by omega, rfl, fun j h1 => by omega, Below.refl _ _⟩
          case round =>
            obtain ⟨q, hq1, hq, rfl, hr, hB⟩ := hrel
            obtain ⟨wq, rfl⟩ : ∃ wq, wq = wr := ⟨_, rfl⟩
            have HFq := Lib.hid (show ∀ a, Below w.heap.size w (wq.drewN a) from fun a => (HF.out 0).trans ((hB.trans ((drew_b wq a).mono hB.size)).mono (HF.out 0).size))
            have HB := Lib.hid hB
            by_cases hlt : q < k
            · obtain ⟨hl3, hc⟩ := Hs5.out.below hB (Nat.le_refl _)
              obtain ⟨b, o, rfl, hc2⟩ := hc (by omega)
              obtain ⟨p, rfl⟩ : ∃ p, q = p + 1 := ⟨q - 1, by omega⟩
              have c0 := hc2 p (by omega)
              have c1 := hc2 (p + 1) hlt
              have Hf := Lib.hid (fun hh => not_incr (zs := st) (i := p) (by omega) hh)
              have Hr := Lib.hid hr
              obtain ⟨g, hg⟩ : ∃ g, iAt st p = g := ⟨_, rfl⟩
              obtain ⟨g', hg'⟩ : ∃ g, iAt st (p + 1) = g := ⟨_, rfl⟩
              rw [hg] at c0
              rw [hg'] at c1
              have HG := Lib.hid (And.intro hg hg')
              have i0 : (0 : Int) ≤ (p : Int) := by omega
              have i1 : (p : Int) < (k : Int) := by omega
              have i2 : (p : Int) + 1 < (k : Int) := by omega
              have i3 : (0 : Int) ≤ (p : Int) + 1 := by omega
              have e1 : ((p : Int) + 1).toNat = p + 1 := by omega
              have e2 : ((p + 1 : Nat) : Int) = (p : Int) + 1 := by omega
              clear hc hc2 hr hl3 hg hg' hB
              by_cases x1 : g' ≤ g
              · have d1 : decide (g' ≤ g) = true := decide_eq_true x1
                go_wp2_with fail
                go_region
                all_goals (go_wp2_with fail)
                go_ret
                exact ⟨ret_int (by rw [Hi.out, if_neg (by rw [Hw.out]; decide), if_pos (Hf.out (by have := HG.out.1; have := HG.out.2; omega))]), HFq.out 1⟩
              · have d1 : decide (g' ≤ g) = false := decide_eq_false x1
                go_wp2_with fail
                go_region
                all_goals (go_wp2_with fail)
                go_roundw
                case rel => exact ⟨p + 2, by omega, by omega, by go_num, fun j h2 h3 => by
                  rcases Nat.lt_or_ge (j + 1) (p + 1) with h4 | h4
                  · exact Hr.out j h4 h3
                  · have e : j = p := by omega
                    subst e
                    have := HG.out.1; have := HG.out.2; omega, HB.out.trans (drew_b wq 1 |>.mono HB.out.size)⟩
                case measure => simp [intOf]; omega
            · have hr2 := (risB_iff st).2 (incr_of_adj st (fun i hi => hr i (by have := Hm.out; omega) (by have := Hm.out; omega)))
              have Hr2 := Lib.hid hr2
              clear hr hB hr2
              go_wp2_with fail
              go_ret
              exact ⟨ret_int (by rw [Hi.out, if_neg (by rw [Hw.out]; decide), if_neg (by rw [Hr2.out]; decide)]), HFq.out 0⟩
  · have d0 : (c != 0) = true := by rw [bne_iff_ne]; exact h0
    have H0 := Lib.hid h0
    clear h0
    go_wp2_with fail
    refine (refSong19 A n cap zs w2 h2 HN.out).mono ?_
    rintro e w3 ⟨rfl, hb3⟩
    have HF := Lib.hid (Hb.out.trans (hb3.mono Hb.out.size))
    clear hb3 h2 hs2 d0
    go_wp2_with fail
    go_ret
    exact ⟨ret_int (by unfold isSc; rw [if_pos (by rw [Hc.out]; exact H0.out)]), HF.out⟩
end Go.Proofs.Ytdfdlklglbefiaa

namespace Go.Proofs.Ytdfdlklglbefiaa
set_option linter.unusedSimpArgs false
set_option linter.unusedVariables false
open Go.RowKit Go.Shelf
attribute [local go_sem ↓] exec_app

theorem allM_take {zs : List Rg} {st : List Int} {k : Nat} (hk : k < zs.length) : (zs.take (k + 1)).all (meets st) = ((zs.take k).all (meets st) && meets st (gAt zs k)) := all_take _ zs k ⟨0, 0⟩ hk
theorem allM_stop {zs : List Rg} {st : List Int} {k : Nat} (hk : k < zs.length) (h : meets st (gAt zs k) = false) : zs.all (meets st) = false := all_stop _ zs k ⟨0, 0⟩ hk h
set_option maxRecDepth 100000 in
set_option maxHeartbeats 8000000 in
theorem refScale21 (A : Option Addr) (n cap : Nat) (zs : List Rg) (A2 : Option Addr) (m cap2 : Nat) (st : List Int) (w : World) (h : Rgs w A n zs) (hs : Ints w A2 m st) (hn : n ≤ 9223372036854775807) :
    Calls Try.prog 21 #[.slice A n cap, .slice A2 m cap2] w fun e w' => e = .returned (.int .i64 (ckSc zs st)) ∧ Below w.heap.size w w' := by
  have Hm := Lib.hid hs.1
  have Hn := Lib.hid h.1
  have HN := Lib.hid hn
  go_enter Try.func21, Try.ntmps21
  go_wp2_with fail
  refine (refIsScale41 A n cap zs A2 m cap2 st w h hs HN.out).mono ?_
  rintro e w2 ⟨rfl, hb⟩
  have H2 := Lib.hid (h.below hb (Nat.le_refl _))
  have Hs2 := Lib.hid (hs.below hb (Nat.le_refl _))
  obtain ⟨c, hc⟩ : ∃ c, isSc zs st = c := ⟨_, rfl⟩
  rw [hc]
  have Hc := Lib.hid hc
  have Hb := Lib.hid hb
  clear hb h hs hc hn
  by_cases h0 : c = 0
  · subst h0
    have Hm24 := Lib.hid (show m ≤ 24 by have := (isSc_zero.1 Hc.out).2.1; have := Hm.out; omega)
    have hn24 : n ≤ 24 := by have := (chkS_zero.1 (isSc_zero.1 Hc.out).1).2.1; have := Hn.out; omega
    have Hi := Lib.hid (show ckSc zs st = if zs.all (meets st) then 0 else 19 by unfold ckSc; rw [if_neg (by simpa using Hc.out)])
    go_wp2_with fail
    go_loopw [5] (fun i wr => ∃ k : Nat, k ≤ n ∧ i = .int .i64 (k : Int) ∧ (zs.take k).all (meets st) = true ∧ Below w2.heap.size w2 wr) (fun i _ => n - (intOf i).toNat)
    case atStart => exact ⟨0, Nat.zero_le _, rfl, rfl, Below.refl _ _⟩
    case round =>
      obtain ⟨k, hk, rfl, hw, hB⟩ := hrel
      obtain ⟨wk, rfl⟩ : ∃ wk, wk = wr := ⟨_, rfl⟩
      have HF := Lib.hid (show ∀ W', Below wk.heap.size wk W' → Below w.heap.size w W' from fun W' hW => (Hb.out.trans (hB.mono Hb.out.size)).trans (hW.mono (by have := Hb.out.size; have := hB.size; omega)))
      have HB := Lib.hid hB
      by_cases hlt : k < n
      · obtain ⟨hl2, hc⟩ := H2.out.below hB (Nat.le_refl _)
        obtain ⟨b, o, rfl, hc2⟩ := hc (by omega)
        obtain ⟨c0, c1⟩ := hc2 k hlt
        have Hst := Lib.hid (allM_take (zs := zs) (st := st) (k := k) (by omega))
        have Hf := Lib.hid (fun hh => allM_stop (zs := zs) (st := st) (k := k) (by omega) hh)
        have Hw := Lib.hid hw
        have Hsk := Lib.hid (Hs2.out.below hB (Nat.le_refl _))
        obtain ⟨g, hg⟩ : ∃ g, gAt zs k = g := ⟨_, rfl⟩
        rw [hg] at c0 c1 Hst Hf
        have i0 : (0 : Int) ≤ (k : Int) := by omega
        have i1 : (k : Int) < (n : Int) := by omega
        clear hc hc2 hw hl2 hg hB
        go_wp2_with fail
        refine (meets38 g A2 m cap2 st wk Hsk.out (by have := Hm24.out; omega)).mono ?_
        rintro e w3 ⟨rfl, hb3⟩
        obtain ⟨mm, hmm⟩ : ∃ mm, meets st g = mm := ⟨_, rfl⟩
        rw [hmm]
        rw [hmm] at Hst
        have Hmm := Lib.hid hmm
        have HB3 := Lib.hid hb3
        clear hmm hb3 c0 c1
        cases mm with
        | true =>
          go_wp2_with fail
          go_roundw
          case rel => exact ⟨k + 1, by omega, by go_num, by rw [Hst.out, Hw.out]; rfl, HB.out.trans (HB3.out.mono HB.out.size)⟩
          case measure => simp [intOf]; omega
        | false =>
          go_wp2_with fail
          go_ret
          exact ⟨ret_int (by rw [Hi.out, Hf.out Hmm.out]; rfl), HF.out _ HB3.out⟩
      · have Hw := Lib.hid (show zs.all (meets st) = true by rw [← hw, List.take_of_length_le (by have := Hn.out; omega)])
        clear hw hB
        go_wp2_with fail
        go_ret
        exact ⟨ret_int (by rw [Hi.out, Hw.out]; rfl), HF.out _ (Below.refl _ _)⟩
  · have d0 : (c != 0) = true := by rw [bne_iff_ne]; exact h0
    have H0 := Lib.hid h0
    clear h0
    go_wp2_with fail
    refine (refIsScale41 A n cap zs A2 m cap2 st w2 H2.out Hs2.out HN.out).mono ?_
    rintro e w3 ⟨rfl, hb3⟩
    have HF := Lib.hid (Hb.out.trans (hb3.mono Hb.out.size))
    clear hb3 d0
    go_wp2_with fail
    go_ret
    exact ⟨ret_int (by unfold ckSc; rw [if_pos (by rw [Hc.out]; exact H0.out)]), HF.out⟩

set_option maxRecDepth 100000 in
set_option maxHeartbeats 8000000 in
theorem refMet17 (A : Option Addr) (n cap : Nat) (zs : List Rg) (A2 : Option Addr) (m cap2 : Nat) (st : List Int) (w : World) (h : Rgs w A n zs) (hs : Ints w A2 m st) (hn : n ≤ 9223372036854775807) :
    Calls Try.prog 17 #[.slice A n cap, .slice A2 m cap2] w (NamesPost (metR zs st) (isSc zs st) w) := by
  have Hm := Lib.hid hs.1
  have Hn := Lib.hid h.1
  have HN := Lib.hid hn
  go_enter Try.func17, Try.ntmps17
  go_wp2_with fail
  refine (refIsScale41 A n cap zs A2 m cap2 st w h hs HN.out).mono ?_
  rintro e w2 ⟨rfl, hb⟩
  have H2 := Lib.hid (h.below hb (Nat.le_refl _))
  have Hs2 := Lib.hid (hs.below hb (Nat.le_refl _))
  obtain ⟨c, hc⟩ : ∃ c, isSc zs st = c := ⟨_, rfl⟩
  have HcR := Lib.hid hc
  rw [hc]
  have Hc := Lib.hid hc
  have Hb := Lib.hid hb
  clear hb h hs hc hn
  by_cases h0 : c = 0
  · subst h0
    have Hm24 := Lib.hid (show m ≤ 24 by have := (isSc_zero.1 Hc.out).2.1; have := Hm.out; omega)
    have Hn24 := Lib.hid (show n ≤ 24 by have := (chkS_zero.1 (isSc_zero.1 Hc.out).1).2.1; have := Hn.out; omega)
    have hn24 : n ≤ 24 := Hn24.out
    have Hr := Lib.hid (show metR zs st = metL zs st n from by unfold metR; rw [if_pos Hc.out, Hn.out])
    go_wp2_with fail
    go_loopw [6, 7] (fun v i wr => ∃ k : Nat, k ≤ n ∧ i = .int .i64 (k : Int) ∧ wr.ownsRow 0 3 1 v (metL zs st k).length (flatI (metL zs st k)) ∧ (∀ j, v.ownBlock = some j → w2.heap.size ≤ j) ∧ Below w2.heap.size w2 wr) (fun v i _ => n - (intOf i).toNat)
    case atStart => exact ⟨0, Nat.zero_le _, rfl, own_nil _ _ _, fun j e => (by cases e), Below.refl _ _⟩
    case round =>
      obtain ⟨k, hk, rfl, ho, hob, hB⟩ := hrel
      obtain ⟨wk, rfl⟩ : ∃ wk, wk = wr := ⟨_, rfl⟩
      have HB := Lib.hid hB
      have Ho := Lib.hid ho
      have Hob := Lib.hid hob
      by_cases hlt : k < n
      · obtain ⟨hl2, hc⟩ := H2.out.below hB (Nat.le_refl _)
        obtain ⟨b, o, rfl, hc2⟩ := hc (by omega)
        obtain ⟨c0, c1⟩ := hc2 k hlt
        have Hon := Lib.hid (fun hh => metL_on (zs := zs) (st := st) (k := k) hh)
        have Hoff := Lib.hid (fun hh => metL_off (zs := zs) (st := st) (k := k) hh)
        have Hml := Lib.hid (metL_len zs st k)
        have Hsk := Lib.hid (Hs2.out.below hB (Nat.le_refl _))
        obtain ⟨g, hg⟩ : ∃ g, gAt zs k = g := ⟨_, rfl⟩
        simp only [hg] at c0 c1 Hon Hoff
        have i0 : (0 : Int) ≤ (k : Int) := by omega
        have i1 : (k : Int) < (n : Int) := by omega
        clear hc hc2 hl2 hg hB ho hob
        go_wp2_with fail
        refine (meets38 g A2 m cap2 st wk Hsk.out (by have := Hm24.out; omega)).mono ?_
        rintro e w3 ⟨rfl, hb3⟩
        obtain ⟨mm, hmm⟩ : ∃ mm, meets st g = mm := ⟨_, rfl⟩
        rw [hmm]
        have Hmm := Lib.hid hmm
        have HB3 := Lib.hid hb3
        clear hmm hb3 c0 c1
        cases mm with
        | false =>
          go_wp2_with fail
          go_roundw
          case rel =>
            refine ⟨k + 1, by omega, by go_num, ?_, Hob.out, HB.out.trans (HB3.out.mono HB.out.size)⟩
            rw [Hoff.out Hmm.out]
            exact own_keep (Mut := fun _ => False) Ho.out (Keeps.of_new HB3.out) (fun _ _ e => e)
          case measure => simp [intOf]; omega
        | true =>
          have hbz := below_alloc_ w3 (.cells #[.int .i64 (k : Int)] 3)
          have hz := heap_alloc_new_ w3 (.cells #[.int .i64 (k : Int)] 3)
          have hob2 := own_keep (Mut := fun _ => False) Ho.out ((Keeps.of_new HB3.out).trans (Keeps.of_new hbz)) (fun _ _ e => e)
          obtain ⟨v', W3, hrun, hown3, hK3, hv3⟩ := app_one Try.underlying26 info3_ rfl (by omega) (by omega) hob2 (vals := [.int .i64 (k : Int)]) rfl hz (by simp [Value.oneCell']) (by have := Hml.out; have := Hn24.out; omega)
          replace hrun := run_app hrun
          have hB3 : Below w2.heap.size w2 W3 := (HB.out.trans ((HB3.out.trans (hbz.mono HB3.out.size)).mono HB.out.size)).trans (hK3.below (by have := HB.out.size; have := HB3.out.size; have := hbz.size; omega) (fun j hj e => by have := Hob.out j e; omega))
          have hv4 : ∀ j, v'.ownBlock = some j → w2.heap.size ≤ j := by
            intro j hj
            rcases hv3 with e | ⟨e, _⟩
            · rw [e] at hj; exact Hob.out j hj
            · rw [e] at hj; cases hj; have := HB.out.size; have := HB3.out.size; have := hbz.size; omega
          have HB4 := Lib.hid hB3
          have HV4 := Lib.hid hv4
          have HO3 := Lib.hid hown3
          clear hbz hz hob2 hown3 hK3 hv3 hB3 hv4
          go_wp2_with fail
          go_roundw
          case rel =>
            refine ⟨k + 1, by omega, by go_num, ?_, HV4.out, HB4.out⟩
            rw [Hon.out Hmm.out, flatI_snoc, List.length_append]
            exact HO3.out
          case measure => simp [intOf]; omega
      · have e : k = n := by omega
        subst e
        obtain ⟨C3, cp3, rfl, hcp3, hi3, hC3⟩ := ints_own rfl ho
        have Hi3 := Lib.hid hi3
        have HC3 := Lib.hid (fun b o (e : C3 = some ⟨b, o, none⟩) => hob b (hC3 b o e).1)
        clear ho hob hB hi3 hC3 hcp3 Ho Hob
        go_wp2_with fail
        refine bodyPost_ret (v := .tuple #[.slice C3 (metL zs st k).length cp3, .int .i64 0]) (by simp [results, Try.results17, go_sem]) rfl ?_
        unfold NamesPost
        rw [Hr.out, HcR.out]
        exact ⟨C3, cp3, rfl, Hi3.out, fun b o e => Nat.le_trans Hb.out.size (HC3.out b o e), Hb.out.trans (HB.out.mono Hb.out.size)⟩
  · have d0 : (c != 0) = true := by rw [bne_iff_ne]; exact h0
    have He := Lib.hid (show metR zs st = [] by unfold metR; rw [if_neg (by rw [Hc.out]; exact h0)])
    clear h0
    go_wp2_with fail
    refine (refIsScale41 A n cap zs A2 m cap2 st w2 H2.out Hs2.out HN.out).mono ?_
    rintro e w3 ⟨rfl, hb3⟩
    have HF := Lib.hid (Hb.out.trans (hb3.mono Hb.out.size))
    obtain ⟨c', hc'⟩ : ∃ c', isSc zs st = c' := ⟨_, rfl⟩
    rw [hc']
    have Hc' := Lib.hid hc'
    clear hb3 d0 hc'
    go_wp2_with fail
    refine bodyPost_ret (v := .tuple #[.slice none 0 0, .int .i64 c']) (by simp [results, Try.results17, go_sem]) rfl ?_
    unfold NamesPost
    rw [He.out, Hc'.out]
    exact ⟨none, 0, rfl, ints_nil _, fun b o e => (by cases e), HF.out⟩

theorem great14 (A : Option Addr) (n cap : Nat) (w : World) : Calls Try.prog 14 #[.slice A n cap] w fun e w' => e = .returned (.bool (decide ((30 : Int) < (n : Int)))) ∧ w' = w := by
  go_enter Try.func14, Try.ntmps14
  go_wp2_with fail
  go_ret
  exact ⟨rfl, rfl⟩
end Go.Proofs.Ytdfdlklglbefiaa
