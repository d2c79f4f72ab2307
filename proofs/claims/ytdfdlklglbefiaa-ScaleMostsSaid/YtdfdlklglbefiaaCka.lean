/- Stage 3: the document's CheckApart. -/
import Derived.Test.YtdfdlklglbefiaaMis
namespace Go.Proofs.Ytdfdlklglbefiaa
set_option linter.unusedSimpArgs false
set_option linter.unusedVariables false
open Go.RowKit Go.Shelf

/-- Two ranges have a number in common. -/
def ovl (a b : Rg) : Bool := decide (max a.lo b.lo ≤ min a.hi b.hi)
/-- The names are names of tones, in order. -/
def okN (n : Nat) (ns : List Int) : Bool := withI 0 ((n : Int) - 1) ns && risB ns
def nmAt (zs : List Rg) (ns : List Int) (i : Nat) : Rg := gAt zs (iAt ns i).toNat
/-- No two of them have a number in common. -/
def apB (zs : List Rg) (ns : List Int) : Bool := (List.range ns.length).all fun i => (List.range i).all fun k => !ovl (nmAt zs ns i) (nmAt zs ns k)
def ckAp (zs : List Rg) (ns : List Int) : Int := if chkS zs ≠ 0 then chkS zs else if okN zs.length ns = false then 3 else if apB zs ns then 0 else 14
theorem apB_true {zs : List Rg} {ns : List Int} (h : ∀ i, i < ns.length → ∀ k, k < i → ovl (nmAt zs ns i) (nmAt zs ns k) = false) : apB zs ns = true := by
  unfold apB
  rw [List.all_eq_true]
  intro i hi
  rw [List.all_eq_true]
  intro k hk
  rw [h i (by simpa using hi) k (by simpa using hk)]; rfl
theorem apB_false {zs : List Rg} {ns : List Int} {i k : Nat} (hi : i < ns.length) (hk : k < i) (h : ovl (nmAt zs ns i) (nmAt zs ns k) = true) : apB zs ns = false := by
  unfold apB
  rw [List.all_eq_false]
  refine ⟨i, by simpa using hi, ?_⟩
  rw [Bool.not_eq_true, List.all_eq_false]
  exact ⟨k, by simpa using hk, by rw [h]; simp⟩
theorem apB_iff {zs : List Rg} {ns : List Int} : apB zs ns = true ↔ ∀ i, i < ns.length → ∀ k, k < i → ovl (nmAt zs ns i) (nmAt zs ns k) = false := by
  refine ⟨fun h i hi k hk => ?_, apB_true⟩
  cases ho : ovl (nmAt zs ns i) (nmAt zs ns k)
  · rfl
  · rw [apB_false hi hk ho] at h; cases h
theorem okN_true {n : Nat} {ns : List Int} (h : ∀ i, i < ns.length → 0 ≤ iAt ns i ∧ iAt ns i < n) (h2 : ∀ i, i + 1 < ns.length → iAt ns i < iAt ns (i + 1)) : okN n ns = true := by
  unfold okN
  have h1 : withI 0 ((n : Int) - 1) ns = true := by
    unfold withI
    rw [List.all_eq_true]
    intro x hx
    obtain ⟨j, hj, rfl⟩ := List.mem_iff_getElem.1 hx
    have := h j hj
    rw [iAt_eq hj] at this
    exact inB_iff.2 (by omega)
  rw [h1, (risB_iff ns).2 (incr_of_adj ns h2)]; rfl
theorem okN_stop {n : Nat} {ns : List Int} {i : Nat} (hi : i < ns.length) (h : ¬ (0 ≤ iAt ns i ∧ iAt ns i ≤ (n : Int) - 1)) : okN n ns = false := by
  unfold okN; rw [withI_stop _ _ ns i hi h]; rfl
theorem okN_stop2 {n : Nat} {ns : List Int} {i : Nat} (hi : i + 1 < ns.length) (h : ¬ iAt ns i < iAt ns (i + 1)) : okN n ns = false := by
  unfold okN; rw [not_incr hi h, Bool.and_false]

theorem two_b (W : World) (x y : Obj) : Below W.heap.size W ((W.alloc x).alloc y).drew := ((below_alloc_ W x).trans ((below_alloc_ _ y).mono (by simp))).trans ((drew_b _ 1).mono (by simp; omega))
set_option maxRecDepth 100000 in
set_option maxHeartbeats 8000000 in
theorem refApart24 (A : Option Addr) (n cap : Nat) (zs : List Rg) (A2 : Option Addr) (m cap2 : Nat) (ns : List Int) (w : World) (h : Rgs w A n zs) (hs : Ints w A2 m ns) (hn : n ≤ 9223372036854775807) (hm : m ≤ 1000000) :
    Calls Try.prog 24 #[.slice A n cap, .slice A2 m cap2] w fun e w' => e = .returned (.int .i64 (ckAp zs ns)) ∧ Below w.heap.size w w' := by
  have Hm := Lib.hid hs.1
  have Hn := Lib.hid h.1
  have HN := Lib.hid hn
  go_enter Try.func24, Try.ntmps24
  go_wp2_with fail
  refine (refSong19 A n cap zs w h HN.out).mono ?_
  rintro e w2 ⟨rfl, hb⟩
  have H2 := Lib.hid (h.below hb (Nat.le_refl _))
  have Hs2 := Lib.hid (hs.below hb (Nat.le_refl _))
  obtain ⟨c, hc⟩ : ∃ c, chkS zs = c := ⟨_, rfl⟩
  rw [hc]
  have Hc := Lib.hid hc
  have Hb := Lib.hid hb
  clear hb h hs hc hn
  by_cases h0 : c = 0
  · subst h0
    have hn24 : n ≤ 24 := by have := (chkS_zero.1 Hc.out).2.1; have := Hn.out; omega
    have Hi := Lib.hid (show ckAp zs ns = if okN n ns = false then 3 else if apB zs ns then 0 else 14 by unfold ckAp; rw [if_neg (by simpa using Hc.out), Hn.out])
    go_wp2_with fail
    go_loopw [5] (fun i wr => ∃ k : Nat, k ≤ m ∧ i = .int .i64 (k : Int) ∧ Hid ((∀ j, j < k → 0 ≤ iAt ns j ∧ iAt ns j < n) ∧ (∀ j, j + 1 < k → iAt ns j < iAt ns (j + 1)) ∧ Below w2.heap.size w2 wr)) (fun i _ => m - (intOf i).toNat)
    case atStart => exact ⟨0, Nat.zero_le _, rfl, Lib.hid ⟨fun j h => by omega, fun j h => by omega, Below.refl _ _⟩⟩
    case round =>
      obtain ⟨k, hk, rfl, HI⟩ := hrel
      obtain ⟨wk, rfl⟩ : ∃ wk, wk = wr := ⟨_, rfl⟩
      have HF := Lib.hid (show ∀ q, Below w.heap.size w (wk.drewN q) from fun q => (Hb.out.trans (HI.out.2.2.mono Hb.out.size)).trans ((drew_b wk q).mono (by have := Hb.out.size; have := HI.out.2.2.size; omega)))
      by_cases hlt : k < m
      · obtain ⟨-, hc⟩ := Hs2.out.below HI.out.2.2 (Nat.le_refl _)
        obtain ⟨b, o, rfl, hc2⟩ := hc (by omega)
        have x0 := hc2 k hlt
        have Hst := Lib.hid (fun hh => okN_stop (n := n) (ns := ns) (i := k) (by rw [Hm.out]; exact hlt) hh)
        obtain ⟨x, hx⟩ : ∃ x, iAt ns k = x := ⟨_, rfl⟩
        rw [hx] at x0 Hst
        have HX := Lib.hid hx
        have i0 : (0 : Int) ≤ (k : Int) := by omega
        have i1 : (k : Int) < (m : Int) := by omega
        have hcx : ∀ a, (wk.drewN a).cell? ⟨b, o + k, none⟩ = some (.int .i64 x) := fun a => x0
        clear hx
        by_cases t1 : x < 0
        · have d1 : decide (x < 0) = true := decide_eq_true t1
          clear hc hc2
          go_wp2_with fail
          go_quiet (fail)
          go_wp2_with fail
          go_ret
          exact ⟨ret_int (by rw [Hi.out, if_pos (Hst.out (by omega))]), HF.out _⟩
        · have d1 : decide (x < 0) = false := decide_eq_false t1
          by_cases t2 : (n : Int) ≤ x
          · have d2 : decide ((n : Int) ≤ x) = true := decide_eq_true t2
            clear hc hc2
            go_wp2_with fail
            go_quiet (fail)
            go_wp2_with fail
            go_ret
            exact ⟨ret_int (by rw [Hi.out, if_pos (Hst.out (by omega))]), HF.out _⟩
          · have d2 : decide ((n : Int) ≤ x) = false := decide_eq_false t2
            have HR := Lib.hid (show 0 ≤ x ∧ x < n by omega)
            by_cases hk0 : k = 0
            · have HK0 := Lib.hid hk0
              have d3 : decide ((0 : Int) < (k : Int)) = false := decide_eq_false (by omega)
              have d4 : ¬ (0 : Int) < (k : Int) := by omega
              have d5 : decide (0 < k) = false := decide_eq_false (by omega)
              have d6 : ¬ 0 < k := by omega
              clear hc hc2 hk0
              go_wp2_with fail
              go_quiet (fail)
              go_wp2_with fail
              go_roundw
              case rel => exact ⟨k + 1, by omega, by go_num, Lib.hid ⟨fun j hj => by
                have e : j = k := by have := HK0.out; omega
                subst e; rw [HX.out]; exact HR.out, fun j hj => by have := HK0.out; omega, HI.out.2.2.trans ((drew_b wk _).mono HI.out.2.2.size)⟩⟩
              case measure => simp [intOf]; omega
            · obtain ⟨q, rfl⟩ : ∃ q, k = q + 1 := ⟨k - 1, by omega⟩
              have y0 := hc2 q (by omega)
              have Hst2 := Lib.hid (fun hh => okN_stop2 (n := n) (ns := ns) (i := q) (by rw [Hm.out]; omega) hh)
              obtain ⟨y, hy⟩ : ∃ y, iAt ns q = y := ⟨_, rfl⟩
              rw [hy, HX.out] at Hst2
              rw [hy] at y0
              have HY := Lib.hid hy
              have hcy : ∀ a, (wk.drewN a).cell? ⟨b, o + q, none⟩ = some (.int .i64 y) := fun a => y0
              have i2 : (0 : Int) ≤ (q : Int) := by omega
              have i3 : (q : Int) < (m : Int) := by omega
              have i4 : (q : Int) + 1 < (m : Int) := by omega
              have i5 : (0 : Int) ≤ (q : Int) + 1 := by omega
              have i6 : (0 : Int) < (q : Int) + 1 := by omega
              have e1 : ((q : Int) + 1).toNat = q + 1 := by omega
              have e2 : ((q + 1 : Nat) : Int) = (q : Int) + 1 := by omega
              have w1 : IntKind.i64.wrap ((q : Int) + 1 - 1) = (q : Int) := by rw [IntKind.wrap_i64]; omega
              have w3 : IntKind.i64.wrap (q : Int) = (q : Int) := by rw [IntKind.wrap_i64]; omega
              clear hc hc2 hy
              by_cases t3 : x ≤ y
              · have d3 : decide (x ≤ y) = true := decide_eq_true t3
                go_wp2_with fail
                go_quiet (fail)
                go_wp2_with fail
                go_ret
                exact ⟨ret_int (by rw [Hi.out, if_pos (Hst2.out (by omega))]), HF.out _⟩
              · have d3 : decide (x ≤ y) = false := decide_eq_false t3
                have HXY := Lib.hid (show y < x by omega)
                go_wp2_with fail
                go_quiet (fail)
                go_wp2_with fail
                go_roundw
                case rel => exact ⟨q + 2, by omega, by go_num, Lib.hid ⟨fun j hj => by
                  rcases Nat.lt_or_ge j (q + 1) with h | h
                  · exact HI.out.1 j h
                  · have e : j = q + 1 := by omega
                    subst e; rw [HX.out]; exact HR.out, fun j hj => by
                  rcases Nat.lt_or_ge (j + 1) (q + 1) with h | h
                  · exact HI.out.2.1 j h
                  · have e : j = q := by omega
                    subst e; rw [HX.out, HY.out]; exact HXY.out, HI.out.2.2.trans ((drew_b wk _).mono HI.out.2.2.size)⟩⟩
                case measure => simp [intOf]; omega
      · have e : k = m := by omega
        subst e
        have HO := Lib.hid (show okN n ns = true from okN_true (fun i hi => HI.out.1 i (by rw [← Hm.out]; exact hi)) (fun i hi => HI.out.2.1 i (by rw [← Hm.out]; exact hi)))
        have HR := Lib.hid HI.out.1
        have Hi2 := Lib.hid (show ckAp zs ns = if apB zs ns then 0 else 14 by rw [Hi.out, HO.out]; rfl)
        have HBk := Lib.hid (HF.out 0)
        have H3 := Lib.hid (H2.out.below HI.out.2.2 (Nat.le_refl _))
        have Hs3 := Lib.hid (Hs2.out.below HI.out.2.2 (Nat.le_refl _))
        clear hlt
        go_wp2_with fail
        go_loopw [6] (fun i wr => ∃ i' : Nat, i' ≤ k ∧ i = .int .i64 (i' : Int) ∧ Hid ((∀ a, a < i' → ∀ b, b < a → ovl (nmAt zs ns a) (nmAt zs ns b) = false) ∧ Below wk.heap.size wk wr)) (fun i _ => k - (intOf i).toNat)
        case atStart => exact ⟨0, Nat.zero_le _, rfl, Lib.hid ⟨fun a h => by omega, Below.refl _ _⟩⟩
        case round =>
          obtain ⟨i', hi', rfl, HJ⟩ := hrel
          obtain ⟨wi, rfl⟩ : ∃ wi, wi = wr := ⟨_, rfl⟩
          by_cases hlt : i' < k
          · have i1 : (i' : Int) < (k : Int) := by omega
            go_wp2_with fail
            go_loopw [7] (fun v wr => ∃ q : Nat, q ≤ i' ∧ v = .int .i64 (q : Int) ∧ Hid ((∀ b, b < q → ovl (nmAt zs ns i') (nmAt zs ns b) = false) ∧ Below wk.heap.size wk wr)) (fun v _ => i' - (intOf v).toNat)
            case atStart => exact ⟨0, Nat.zero_le _, rfl, Lib.hid ⟨fun b h => by omega, HJ.out.2⟩⟩
            case round =>
              obtain ⟨q, hq, rfl, HQ⟩ := hrel
              obtain ⟨wq, rfl⟩ : ∃ wq, wq = wr := ⟨_, rfl⟩
              by_cases hlt2 : q < i'
              · obtain ⟨-, hc⟩ := Hs3.out.below HQ.out.2 (Nat.le_refl _)
                obtain ⟨-, hz⟩ := H3.out.below HQ.out.2 (Nat.le_refl _)
                have hri := HR.out i' (by omega)
                have hrq := HR.out q (by omega)
                obtain ⟨b, o, rfl, hc2⟩ := hc (by omega)
                obtain ⟨bz, oz, rfl, hz2⟩ := hz (by omega)
                obtain ⟨x, hx⟩ : ∃ x : Nat, (iAt ns i').toNat = x := ⟨_, rfl⟩
                obtain ⟨y, hy⟩ : ∃ y : Nat, (iAt ns q).toNat = y := ⟨_, rfl⟩
                have x0 := hc2 i' (by omega)
                have y0 := hc2 q (by omega)
                rw [show iAt ns i' = (x : Int) by omega] at x0
                rw [show iAt ns q = (y : Int) by omega] at y0
                obtain ⟨a0, a1⟩ := hz2 x (by omega)
                obtain ⟨b0, b1⟩ := hz2 y (by omega)
                obtain ⟨ga, hga⟩ : ∃ g, gAt zs x = g := ⟨_, rfl⟩
                obtain ⟨gb, hgb⟩ : ∃ g, gAt zs y = g := ⟨_, rfl⟩
                rw [hga] at a0 a1
                rw [hgb] at b0 b1
                have HV := Lib.hid (show ovl (nmAt zs ns i') (nmAt zs ns q) = decide (max ga.lo gb.lo ≤ min ga.hi gb.hi) by unfold nmAt; rw [hx, hy, hga, hgb]; rfl)
                have j0 : (0 : Int) ≤ (i' : Int) := by omega
                have j1 : (0 : Int) ≤ (q : Int) := by omega
                have j2 : (q : Int) < (i' : Int) := by omega
                have j3 : (q : Int) < (k : Int) := by omega
                have j4 : (0 : Int) ≤ (x : Int) := by omega
                have j5 : (0 : Int) ≤ (y : Int) := by omega
                have j6 : (x : Int) < (n : Int) := by omega
                have j7 : (y : Int) < (n : Int) := by omega
                have HFq := Lib.hid (show ∀ W', Below wq.heap.size wq W' → Below w.heap.size w W' ∧ Below wk.heap.size wk W' from fun W' hW => ⟨(HBk.out.trans (HQ.out.2.mono HBk.out.size)).trans (hW.mono (by have := HBk.out.size; have := HQ.out.2.size; simp at *; omega)), HQ.out.2.trans (hW.mono HQ.out.2.size)⟩)
                have lb := lt_of_cell x0
                have lz := lt_of_cell a0
                clear hc hc2 hz hz2 hga hgb hx hy hri hrq
                rcases Int.lt_or_le ga.lo gb.lo with l1 | l1 <;> rcases Int.lt_or_le gb.hi ga.hi with l2 | l2
                · by_cases ov : gb.lo ≤ gb.hi
                  · have dv : decide (gb.lo ≤ gb.hi) = true := decide_eq_true ov
                    have HVV := Lib.hid (show ovl (nmAt zs ns i') (nmAt zs ns q) = true by rw [HV.out]; exact decide_eq_true (by omega))
                    clear ov
                    go_wp2_with fail
                    go_region
                    all_goals (go_wp2_with fail)
                    all_goals
                      go_ret
                      exact ⟨ret_int (by rw [Hi2.out, apB_false (by rw [Hm.out]; omega) hlt2 HVV.out]; rfl), (HFq.out _ (two_b _ _ _)).1⟩
                  · have dv : decide (gb.lo ≤ gb.hi) = false := decide_eq_false ov
                    have HVV := Lib.hid (show ovl (nmAt zs ns i') (nmAt zs ns q) = false by rw [HV.out]; exact decide_eq_false (by omega))
                    clear ov
                    go_wp2_with fail
                    go_region
                    all_goals (go_wp2_with fail)
                    all_goals
                      go_roundw
                      case rel => exact ⟨q + 1, by omega, by go_num, Lib.hid ⟨fun b hb => by
                        rcases Nat.lt_or_ge b q with h | h
                        · exact HQ.out.1 b h
                        · have e : b = q := by omega
                          subst e; exact HVV.out, (HFq.out _ (two_b _ _ _)).2⟩⟩
                      case measure => simp [intOf]; omega
                · by_cases ov : gb.lo ≤ ga.hi
                  · have dv : decide (gb.lo ≤ ga.hi) = true := decide_eq_true ov
                    have HVV := Lib.hid (show ovl (nmAt zs ns i') (nmAt zs ns q) = true by rw [HV.out]; exact decide_eq_true (by omega))
                    clear ov
                    go_wp2_with fail
                    go_region
                    all_goals (go_wp2_with fail)
                    all_goals
                      go_ret
                      exact ⟨ret_int (by rw [Hi2.out, apB_false (by rw [Hm.out]; omega) hlt2 HVV.out]; rfl), (HFq.out _ (two_b _ _ _)).1⟩
                  · have dv : decide (gb.lo ≤ ga.hi) = false := decide_eq_false ov
                    have HVV := Lib.hid (show ovl (nmAt zs ns i') (nmAt zs ns q) = false by rw [HV.out]; exact decide_eq_false (by omega))
                    clear ov
                    go_wp2_with fail
                    go_region
                    all_goals (go_wp2_with fail)
                    all_goals
                      go_roundw
                      case rel => exact ⟨q + 1, by omega, by go_num, Lib.hid ⟨fun b hb => by
                        rcases Nat.lt_or_ge b q with h | h
                        · exact HQ.out.1 b h
                        · have e : b = q := by omega
                          subst e; exact HVV.out, (HFq.out _ (two_b _ _ _)).2⟩⟩
                      case measure => simp [intOf]; omega
                · by_cases ov : ga.lo ≤ gb.hi
                  · have dv : decide (ga.lo ≤ gb.hi) = true := decide_eq_true ov
                    have HVV := Lib.hid (show ovl (nmAt zs ns i') (nmAt zs ns q) = true by rw [HV.out]; exact decide_eq_true (by omega))
                    clear ov
                    go_wp2_with fail
                    go_region
                    all_goals (go_wp2_with fail)
                    all_goals
                      go_ret
                      exact ⟨ret_int (by rw [Hi2.out, apB_false (by rw [Hm.out]; omega) hlt2 HVV.out]; rfl), (HFq.out _ (two_b _ _ _)).1⟩
                  · have dv : decide (ga.lo ≤ gb.hi) = false := decide_eq_false ov
                    have HVV := Lib.hid (show ovl (nmAt zs ns i') (nmAt zs ns q) = false by rw [HV.out]; exact decide_eq_false (by omega))
                    clear ov
                    go_wp2_with fail
                    go_region
                    all_goals (go_wp2_with fail)
                    all_goals
                      go_roundw
                      case rel => exact ⟨q + 1, by omega, by go_num, Lib.hid ⟨fun b hb => by
                        rcases Nat.lt_or_ge b q with h | h
                        · exact HQ.out.1 b h
                        · have e : b = q := by omega
                          subst e; exact HVV.out, (HFq.out _ (two_b _ _ _)).2⟩⟩
                      case measure => simp [intOf]; omega
                · by_cases ov : ga.lo ≤ ga.hi
                  · have dv : decide (ga.lo ≤ ga.hi) = true := decide_eq_true ov
                    have HVV := Lib.hid (show ovl (nmAt zs ns i') (nmAt zs ns q) = true by rw [HV.out]; exact decide_eq_true (by omega))
                    clear ov
                    go_wp2_with fail
                    go_region
                    all_goals (go_wp2_with fail)
                    all_goals
                      go_ret
                      exact ⟨ret_int (by rw [Hi2.out, apB_false (by rw [Hm.out]; omega) hlt2 HVV.out]; rfl), (HFq.out _ (two_b _ _ _)).1⟩
                  · have dv : decide (ga.lo ≤ ga.hi) = false := decide_eq_false ov
                    have HVV := Lib.hid (show ovl (nmAt zs ns i') (nmAt zs ns q) = false by rw [HV.out]; exact decide_eq_false (by omega))
                    clear ov
                    go_wp2_with fail
                    go_region
                    all_goals (go_wp2_with fail)
                    all_goals
                      go_roundw
                      case rel => exact ⟨q + 1, by omega, by go_num, Lib.hid ⟨fun b hb => by
                        rcases Nat.lt_or_ge b q with h | h
                        · exact HQ.out.1 b h
                        · have e : b = q := by omega
                          subst e; exact HVV.out, (HFq.out _ (two_b _ _ _)).2⟩⟩
                      case measure => simp [intOf]; omega
              · go_wp2_with fail
                go_roundw
                case rel => exact ⟨i' + 1, by omega, by go_num, Lib.hid ⟨fun a ha b hb => by
                  rcases Nat.lt_or_ge a i' with h | h
                  · exact HJ.out.1 a h b hb
                  · have e : a = i' := by omega
                    subst e; exact HQ.out.1 b (by omega), HQ.out.2⟩⟩
                case measure => simp [intOf]; omega
          · have HA := Lib.hid (show apB zs ns = true from apB_true (fun a ha => HJ.out.1 a (by have := Hm.out; omega)))
            have HF2 := Lib.hid (show Below w.heap.size w wi from HBk.out.trans (HJ.out.2.mono HBk.out.size))
            go_wp2_with fail
            go_ret
            exact ⟨ret_int (by rw [Hi2.out, HA.out]; rfl), HF2.out⟩
  · have d0 : (c != 0) = true := by rw [bne_iff_ne]; exact h0
    have H0 := Lib.hid h0
    clear h0
    go_wp2_with fail
    refine (refSong19 A n cap zs w2 H2.out HN.out).mono ?_
    rintro e w3 ⟨rfl, hb3⟩
    have HF := Lib.hid (Hb.out.trans (hb3.mono Hb.out.size))
    clear hb3 d0
    go_wp2_with fail
    go_ret
    exact ⟨ret_int (by unfold ckAp; rw [if_pos (by rw [Hc.out]; exact H0.out)]), HF.out⟩
end Go.Proofs.Ytdfdlklglbefiaa
