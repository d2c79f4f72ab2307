/- Stage 3: two sorted parts are merged; the stable sort of tones. -/
import Derived.Test.YtdfdlklglbefiaaSym2
namespace Go.Proofs.Ytdfdlklglbefiaa
set_option linter.unusedSimpArgs false
set_option linter.unusedVariables false
open Go.RowKit Go.Shelf

theorem sym_pack {wv w : World} {S n a b mid i e : Nat} {key : Tn → Int} {ys xs : List Tn} (Hrow : RowT wv S ys) (Hlen : ys.length = n) (Hkeep : Keeps (fun k => k = S) w wv) (Hmv : Mv a b ys xs)
    (Hp : Srt key a i ys ∧ Srt key i mid ys ∧ Srt key mid e ys ∧ Srt key e b ys ∧ ∀ p q, a ≤ p → p < mid → mid ≤ q → q < b → key (tAt ys p) ≤ key (tAt ys q)) :
    RowT wv S ys ∧ ys.length = n ∧ Keeps (fun k => k = S) w wv ∧ Mv a b ys xs ∧ Srt key a i ys ∧ Srt key mid e ys ∧ Srt key e b ys ∧ (∀ p q, a ≤ p → p < mid → mid ≤ q → q < b → key (tAt ys p) ≤ key (tAt ys q)) ∧ Srt key i mid ys :=
  ⟨Hrow, Hlen, Hkeep, Hmv, Hp.1, Hp.2.2.1, Hp.2.2.2.1, Hp.2.2.2.2, Hp.2.1⟩

set_option maxRecDepth 100000 in
set_option maxHeartbeats 20000000 in
theorem sym_step (S n cap g : Nat) (cb : Array Value) (key : Tn → Int) (w0 : World) (N : Nat) (hn : n ≤ 1000000) (hcmp : CmpOK g cb key S w0) (eg : ∀ args w, (callFunc g args).run Try.prog w = .ok (.enter g args) w) (ih : SymHyp S n cap g cb key w0 N) : SymHyp S n cap g cb key w0 (N + 1) := by
  intro a m b xs w hN ham hmb hb hrow hl hs1 hs2 hk
  by_cases hm1 : m = a + 1
  · refine sym_left S n cap a m b g cb key w0 xs w hn hcmp hm1 hmb hb hrow hl (by rw [← hm1]; exact hs2) hk eg
  by_cases hm2 : b = m + 1
  · exact sym_right S n cap a m b g cb key w0 xs w hn hcmp (by omega) hm2 hb hrow hl hs1 hk eg
  have Hcmp := Lib.hid hcmp
  have Hih := Lib.hid ih
  have Hrow := Lib.hid hrow
  have Hl := Lib.hid hl
  have Hk := Lib.hid hk
  have Hs1 := Lib.hid hs1
  have Hs2 := Lib.hid hs2
  obtain ⟨mid, hmid⟩ : ∃ mid, (a + b) / 2 = mid := ⟨_, rfl⟩
  have Hmid := Lib.hid hmid
  have q1 : IntKind.i64.wrap ((m : Int) - (a : Int)) = (m : Int) - (a : Int) := IntWalk.i64_in _ ⟨by omega, by omega⟩
  have q2 : ((m : Int) - (a : Int) == 1) = false := by rw [beq_eq_false_iff_ne]; omega
  have q3 : IntKind.i64.wrap ((b : Int) - (m : Int)) = (b : Int) - (m : Int) := IntWalk.i64_in _ ⟨by omega, by omega⟩
  have q4 : ((b : Int) - (m : Int) == 1) = false := by rw [beq_eq_false_iff_ne]; omega
  have q5 : IntKind.i64.wrap ((a : Int) + (b : Int)) = (a : Int) + (b : Int) := IntWalk.i64_in _ ⟨by omega, by omega⟩
  have q6 : IntKind.u64.wrap ((a : Int) + (b : Int)) = (a : Int) + (b : Int) := by rw [IntKind.wrap_u64]; omega
  have q7 : ((a : Int) + (b : Int)) / 2 = (mid : Int) := by omega
  obtain ⟨nn, hnn⟩ : ∃ nn, mid + m = nn := ⟨_, rfl⟩
  have q8 : IntKind.i64.wrap ((mid : Int) + (m : Int)) = (nn : Int) := by rw [IntWalk.i64_in _ ⟨by omega, by omega⟩]; omega
  obtain ⟨pp, hpp⟩ : ∃ pp, nn - 1 = pp := ⟨_, rfl⟩
  have q9 : IntKind.i64.wrap ((nn : Int) - 1) = (pp : Int) := by rw [IntWalk.i64_in _ ⟨by omega, by omega⟩]; omega
  have Hnn := Lib.hid hnn
  have Hpp := Lib.hid hpp
  have z1 : a < mid ∧ mid < b := by omega
  have z2 : nn ≤ 2000000 ∧ mid + m ≤ nn ∧ nn ≤ mid + m := by omega
  have z3 : pp + 1 ≤ nn ∧ nn ≤ pp + 1 := by omega
  have Hz := Lib.hid (show 2 * mid ≤ a + b ∧ a + b ≤ 2 * mid + 1 by omega)
  clear hcmp hrow hl hk hs1 hs2 ih hmid hnn hpp hm1 hm2
  by_cases hmm : mid < m
  · have d0 : decide ((mid : Int) < (m : Int)) = true := decide_eq_true (by omega)
    obtain ⟨s0, hs0⟩ : ∃ s0, nn - b = s0 := ⟨_, rfl⟩
    have q10 : IntKind.i64.wrap ((nn : Int) - (b : Int)) = (s0 : Int) := by rw [IntWalk.i64_in _ ⟨by omega, by omega⟩]; omega
    have z4 : s0 + b ≤ nn ∧ nn ≤ s0 + b ∧ a ≤ s0 ∧ s0 ≤ mid := by have := Hz.out; omega
    clear hs0
    go_enter Try.func114, Try.ntmps114
    go_wp2_with fail
    clear q10 q1 q2 q3 q4 q5 q6 q7 q8 q9 d0
    go_loopw [20, 21] (fun u v wr => ∃ (i j : Nat), u = .int .i64 (i : Int) ∧ v = .int .i64 (j : Int) ∧ s0 ≤ i ∧ i ≤ j ∧ j ≤ mid ∧ Hid (Below w.heap.size w wr ∧ (∀ c, s0 ≤ c → c < i → key (tAt xs c) ≤ key (tAt xs (pp - c))) ∧ (∀ c, j ≤ c → c < mid → key (tAt xs (pp - c)) < key (tAt xs c)))) (fun u v _ => (intOf v).toNat - (intOf u).toNat)
    case atStart => exact ⟨s0, mid, rfl, rfl, by omega, by omega, Nat.le_refl _, Lib.hid ⟨Below.refl _ _, fun p h1 h2 => by omega, fun p h1 h2 => by omega⟩⟩
    case round =>
      obtain ⟨i, j, rfl, rfl, hi, hij, hj, HI⟩ := hrel
      obtain ⟨wk, rfl⟩ : ∃ wk, wk = wr := ⟨_, rfl⟩
      by_cases hlt : i < j
      · have i1 : (i : Int) < (j : Int) := by omega
        obtain ⟨h, hh⟩ : ∃ h, (i + j) / 2 = h := ⟨_, rfl⟩
        obtain ⟨q, hq⟩ : ∃ q, pp - h = q := ⟨_, rfl⟩
        have w2 : IntKind.i64.wrap ((i : Int) + (j : Int)) = (i : Int) + (j : Int) := IntWalk.i64_in _ ⟨by omega, by omega⟩
        have w3 : IntKind.u64.wrap ((i : Int) + (j : Int)) = (i : Int) + (j : Int) := by rw [IntKind.wrap_u64]; omega
        have w4 : ((i : Int) + (j : Int)) / 2 = (h : Int) := by omega
        have hq1 : q + h ≤ pp ∧ pp ≤ q + h ∧ i ≤ h ∧ h < j ∧ m ≤ q ∧ q < b := by omega
        have w5 : IntKind.i64.wrap ((pp : Int) - (h : Int)) = (q : Int) := by rw [IntWalk.i64_in _ ⟨by omega, by omega⟩]; omega
        clear hh hq
        go_wp2_with fail
        have i3 : (h : Int) < (n : Int) := by omega
        have i4 : (q : Int) < (n : Int) := by omega
        have i5 : (0 : Int) ≤ (h : Int) := by omega
        have i6 : (0 : Int) ≤ (q : Int) := by omega
        have hxl : xs.length = n := Hl.out
        obtain ⟨x, hx⟩ : ∃ x, tAt xs (q) = x := ⟨_, rfl⟩
        obtain ⟨y, hy⟩ : ∃ y, tAt xs (h) = y := ⟨_, rfl⟩
        obtain ⟨c, hc⟩ : ∃ c, cmpI (key x) (key y) = c := ⟨_, rfl⟩
        have HX := Lib.hid (And.intro hx (And.intro hy hc))
        have hcw : ∀ W', Below wk.heap.size wk W' → Calls Try.prog g (#[.agg #[.int .i64 x.r.lo, .int .i64 x.r.hi, .int .i64 (x.nm : Int)], .agg #[.int .i64 y.r.lo, .int .i64 y.r.hi, .int .i64 (y.nm : Int)]] ++ cb) W' fun e W2 => e = .returned (.int .i64 c) ∧ Below W'.heap.size W' W2 := fun W' hW => by
          rw [← hc]
          exact Hcmp.out W' x y ((Hk.out.trans (Keeps.of_new HI.out.1)).trans (Keeps.of_new hW))
        have HS := Lib.hid (show ∀ W', Below wk.heap.size wk W' → (Below wk.heap.size wk W' ∧ W'.cell? ⟨S, q * 3, none⟩ = some (.int .i64 x.r.lo) ∧ W'.cell? ⟨S, q * 3 + 1, none⟩ = some (.int .i64 x.r.hi) ∧ W'.cell? ⟨S, q * 3 + 2, none⟩ = some (.int .i64 (x.nm : Int)) ∧ W'.cell? ⟨S, h * 3, none⟩ = some (.int .i64 y.r.lo) ∧ W'.cell? ⟨S, h * 3 + 1, none⟩ = some (.int .i64 y.r.hi) ∧ W'.cell? ⟨S, h * 3 + 2, none⟩ = some (.int .i64 (y.nm : Int))) from fun W' hW => by
          have hr := (Hrow.out.below HI.out.1).below hW
          obtain ⟨c0, c1, c2⟩ := hr.cells (j := q) (by omega)
          obtain ⟨d0, d1, d2⟩ := hr.cells (j := h) (by omega)
          rw [hx] at c0 c1 c2
          rw [hy] at d0 d1 d2
          exact ⟨hW, c0, c1, c2, d0, d1, d2⟩)
        clear hx hy hc hxl
        by_cases hc0 : c < 0
        · have t1 : decide (c < 0) = true := decide_eq_true hc0
          have Hc0 := Lib.hid hc0
          clear hc0
          go_wp2_with fail
          go_region_held3 (fun W' => Below wk.heap.size wk W' ∧ W'.cell? ⟨S, q * 3, none⟩ = some (.int .i64 x.r.lo) ∧ W'.cell? ⟨S, q * 3 + 1, none⟩ = some (.int .i64 x.r.hi) ∧ W'.cell? ⟨S, q * 3 + 2, none⟩ = some (.int .i64 (x.nm : Int)) ∧ W'.cell? ⟨S, h * 3, none⟩ = some (.int .i64 y.r.lo) ∧ W'.cell? ⟨S, h * 3 + 1, none⟩ = some (.int .i64 y.r.hi) ∧ W'.cell? ⟨S, h * 3 + 2, none⟩ = some (.int .i64 (y.nm : Int)))
            (first | exact HS.out _ (drew_b wk 1) | (go_split_ands; exact HS.out _ (Below.trans (by assumption) (Below.mono (by assumption) (Below.size (by assumption))))))
            (first | (go_split_ands; refine (hcw _ (by assumption)).mono ?_; rintro e w' ⟨rfl, hb⟩))
          have hS9 : Below wk.heap.size wk w' := And.left (by assumption)
          have HB9 := Lib.hid hS9
          clear hS9 hcw
          obtain ⟨v, hv⟩ : ∃ v, w' = v := ⟨_, rfl⟩
          rw [hv] at HB9 ⊢
          clear hv
          go_wp2_with fail
          go_roundw
          case rel =>
            refine ⟨i, h, rfl, rfl, by omega, by omega, by omega, Lib.hid ⟨HI.out.1.trans (HB9.out.mono HI.out.1.size), HI.out.2.1, fun c h1 h2 => ?_⟩⟩
            have h9 := Hc0.out
            rw [← HX.out.2.2, ← HX.out.1, ← HX.out.2.1, cmpI_neg] at h9
            have h8 := srt_trans Hs1.out (p := h) (q := c) (by omega) h1 (by omega)
            have h7 := srt_trans Hs2.out (p := pp - c) (q := q) (by omega) (by omega) (by omega)
            omega
          case measure => simp [intOf]; omega
        · have t1 : decide (c < 0) = false := decide_eq_false hc0
          have Hc0 := Lib.hid hc0
          clear hc0
          go_wp2_with fail
          go_region_held3 (fun W' => Below wk.heap.size wk W' ∧ W'.cell? ⟨S, q * 3, none⟩ = some (.int .i64 x.r.lo) ∧ W'.cell? ⟨S, q * 3 + 1, none⟩ = some (.int .i64 x.r.hi) ∧ W'.cell? ⟨S, q * 3 + 2, none⟩ = some (.int .i64 (x.nm : Int)) ∧ W'.cell? ⟨S, h * 3, none⟩ = some (.int .i64 y.r.lo) ∧ W'.cell? ⟨S, h * 3 + 1, none⟩ = some (.int .i64 y.r.hi) ∧ W'.cell? ⟨S, h * 3 + 2, none⟩ = some (.int .i64 (y.nm : Int)))
            (first | exact HS.out _ (drew_b wk 1) | (go_split_ands; exact HS.out _ (Below.trans (by assumption) (Below.mono (by assumption) (Below.size (by assumption))))))
            (first | (go_split_ands; refine (hcw _ (by assumption)).mono ?_; rintro e w' ⟨rfl, hb⟩))
          have hS9 : Below wk.heap.size wk w' := And.left (by assumption)
          have HB9 := Lib.hid hS9
          clear hS9 hcw
          obtain ⟨v, hv⟩ : ∃ v, w' = v := ⟨_, rfl⟩
          rw [hv] at HB9 ⊢
          clear hv
          go_wp2_with fail
          go_roundw
          case rel =>
            refine ⟨h + 1, j, by go_num, rfl, by omega, by omega, hj, Lib.hid ⟨HI.out.1.trans (HB9.out.mono HI.out.1.size), fun c h1 h2 => ?_, HI.out.2.2⟩⟩
            have h9 := Hc0.out
            rw [← HX.out.2.2, ← HX.out.1, ← HX.out.2.1] at h9
            have h7 := cmpI_neg (key (tAt xs q)) (key (tAt xs h))
            have h8 := srt_trans Hs1.out (p := c) (q := h) (by omega) (by omega) (by omega)
            have h6 := srt_trans Hs2.out (p := q) (q := pp - c) (by omega) (by omega) (by omega)
            omega
          case measure => simp [intOf]; omega
      · have e : i = j := by omega
        subst e
        obtain ⟨e, he⟩ : ∃ e, nn - i = e := ⟨_, rfl⟩
        have w5 : IntKind.i64.wrap ((nn : Int) - (i : Int)) = (e : Int) := by rw [IntWalk.i64_in _ ⟨by omega, by omega⟩]; omega
        have He : Hid (i + e = mid + m ∧ e ≤ b ∧ m ≤ e ∧ mid ≤ e) := (show i + e = mid + m ∧ e ≤ b ∧ m ≤ e ∧ mid ≤ e by omega)
        have hpar : ∀ ys, tAt ys = rotF (tAt xs) i m e → Srt key a i ys ∧ Srt key i mid ys ∧ Srt key mid e ys ∧ Srt key e b ys ∧ ∀ p q, a ≤ p → p < mid → mid ≤ q → q < b → key (tAt ys p) ≤ key (tAt ys q) := fun ys hy =>
          sym_parts (by omega) hmb Hmid.out Hs1.out Hs2.out He.out.1 (by omega) (by omega) (by omega) He.out.2.1 hy
            (fun h1 h2 => by
              have h3 := HI.out.2.1 (i - 1) (by have := He.out.1; omega) (by omega)
              rw [show pp - (i - 1) = e by have := He.out.1; omega] at h3
              exact h3)
            (fun h1 h2 => by
              have h3 := HI.out.2.2 i (Nat.le_refl _) (by have := He.out.1; omega)
              rw [show pp - i = e - 1 by have := He.out.1; omega] at h3
              exact h3)
        have Hpar := Lib.hid hpar
        clear hpar he
        by_cases hrt : i < m ∧ m < e
        · have d1 : decide ((i : Int) < (m : Int)) = true := decide_eq_true (by omega)
          have d2 : decide ((m : Int) < (e : Int)) = true := decide_eq_true (by omega)
          go_wp2_with fail
          refine (rot117 S n cap i m e (.func (.func g) #[] cb) xs wk (Hrow.out.below HI.out.1) Hl.out hn hrt.1 hrt.2 (by have := He.out.2.1; omega)).mono ?_
          rintro e8 wv ⟨rfl, ys, k1, k2, k3, k4⟩
          have HR := Lib.hid (sym_pack (Hrow := k1) (Hlen := k2.len.trans Hl.out) (Hkeep := (Keeps.of_new HI.out.1).trans k4) (Hmv := k2.mono (by omega) He.out.2.1) (Hp := Hpar.out ys k3))
          clear k1 k2 k3 k4 d1 d2 hrt
          by_cases hlr : a < i ∧ i < mid
          · have d1 : decide ((a : Int) < (i : Int)) = true := decide_eq_true (by omega)
            have d2 : decide ((i : Int) < (mid : Int)) = true := decide_eq_true (by omega)
            go_wp2_with fail
            refine (Hih.out a i mid ys wv (by omega) hlr.1 hlr.2 (by omega) HR.out.1 HR.out.2.1 HR.out.2.2.2.2.1 HR.out.2.2.2.2.2.2.2.2 (Hk.out.trans HR.out.2.2.1)).mono ?_
            rintro e9 w8 ⟨rfl, y1, k1, k2, k3, k4⟩
            have HL := Lib.hid (And.intro k1 (And.intro k2 (And.intro k3 k4)))
            clear k1 k2 k3 k4
            by_cases hr : mid < e ∧ e < b
            · have d3 : decide ((mid : Int) < (e : Int)) = true := decide_eq_true (by omega)
              have d4 : decide ((e : Int) < (b : Int)) = true := decide_eq_true (by omega)
              go_wp2_with fail
              all_goals
                refine (Hih.out mid e b y1 w8 (by omega) hr.1 hr.2 hb HL.out.1 (HL.out.2.1.len.trans HR.out.2.1) (srt_out HL.out.2.1 (HR.out.2.2.2.2.2.1) (.inr (Nat.le_refl _))) (srt_out HL.out.2.1 (HR.out.2.2.2.2.2.2.1) (.inr (by have := He.out.2.2.2; omega))) ((Hk.out.trans HR.out.2.2.1).trans HL.out.2.2.2)).mono ?_
                rintro e9 w9 ⟨rfl, zs, k1, k2, k3, k4⟩
                have HZ := Lib.hid (And.intro k1 (And.intro k2 (And.intro k3 k4)))
                clear k1 k2 k3 k4
                go_wp2_with fail
                all_goals (go_end0; exact ⟨rfl, zs, HZ.out.1, ((HZ.out.2.1.mono (by omega) (Nat.le_refl _)).trans (HL.out.2.1.mono (Nat.le_refl _) (by omega))).trans HR.out.2.2.2.1, srt_fin HL.out.2.1 HL.out.2.2.1 HZ.out.2.1 HZ.out.2.2.1 HR.out.2.2.2.2.2.2.2.1, (HR.out.2.2.1.trans HL.out.2.2.2).trans HZ.out.2.2.2⟩)
            · have Hfs : Hid (Srt key mid b y1) := by
                show Srt key mid b y1
                rcases (by omega : e ≤ mid ∨ b ≤ e) with h1 | h1
                · have h2 : e = mid := by have := He.out.2.2.2; omega
                  have h3 := srt_out HL.out.2.1 (HR.out.2.2.2.2.2.2.1) (.inr (by omega))
                  rw [h2] at h3; exact h3
                · have h2 : e = b := by have := He.out.2.1; omega
                  have h3 := srt_out HL.out.2.1 (HR.out.2.2.2.2.2.1) (.inr (Nat.le_refl _))
                  rw [h2] at h3; exact h3
              have Hfin : Hid (SortPost S a b key xs w (.returned (.tuple #[])) w8) := (show SortPost S a b key xs w (.returned (.tuple #[])) w8 from ⟨rfl, y1, HL.out.1, (HL.out.2.1.mono (Nat.le_refl _) (by omega)).trans HR.out.2.2.2.1, srt_fin HL.out.2.1 HL.out.2.2.1 (Mv.refl mid b _) Hfs.out HR.out.2.2.2.2.2.2.2.1, HR.out.2.2.1.trans HL.out.2.2.2⟩)
              by_cases hr1 : mid < e
              · have d3 : decide ((mid : Int) < (e : Int)) = true := decide_eq_true (by omega)
                have d4 : decide ((e : Int) < (b : Int)) = false := decide_eq_false (by omega)
                go_wp2_with fail
                all_goals (go_end0; exact Hfin.out)
              · have d3 : decide ((mid : Int) < (e : Int)) = false := decide_eq_false (by omega)
                go_wp2_with fail
                all_goals (go_end0; exact Hfin.out)
          · have Hfs0 : Hid (Srt key a mid ys) := by
              show Srt key a mid ys
              rcases (by omega : i ≤ a ∨ mid ≤ i) with h1 | h1
              · have h2 : i = a := by omega
                have h3 := HR.out.2.2.2.2.2.2.2.2
                rw [h2] at h3; exact h3
              · have h2 : i = mid := by omega
                have h3 := HR.out.2.2.2.2.1
                rw [h2] at h3; exact h3
            have HL : Hid (RowT wv S ys ∧ Mv a mid ys ys ∧ Srt key a mid ys ∧ Keeps (fun k => k = S) wv wv) := (show RowT wv S ys ∧ Mv a mid ys ys ∧ Srt key a mid ys ∧ Keeps (fun k => k = S) wv wv from ⟨HR.out.1, Mv.refl _ _ _, Hfs0.out, Keeps.refl _ _⟩)
            by_cases hl1 : a < i
            · have d1 : decide ((a : Int) < (i : Int)) = true := decide_eq_true (by omega)
              have d2 : decide ((i : Int) < (mid : Int)) = false := decide_eq_false (by omega)
              by_cases hr : mid < e ∧ e < b
              · have d3 : decide ((mid : Int) < (e : Int)) = true := decide_eq_true (by omega)
                have d4 : decide ((e : Int) < (b : Int)) = true := decide_eq_true (by omega)
                go_wp2_with fail
                all_goals
                  refine (Hih.out mid e b ys wv (by omega) hr.1 hr.2 hb HL.out.1 (HL.out.2.1.len.trans HR.out.2.1) (srt_out HL.out.2.1 (HR.out.2.2.2.2.2.1) (.inr (Nat.le_refl _))) (srt_out HL.out.2.1 (HR.out.2.2.2.2.2.2.1) (.inr (by have := He.out.2.2.2; omega))) ((Hk.out.trans HR.out.2.2.1).trans HL.out.2.2.2)).mono ?_
                  rintro e9 w9 ⟨rfl, zs, k1, k2, k3, k4⟩
                  have HZ := Lib.hid (And.intro k1 (And.intro k2 (And.intro k3 k4)))
                  clear k1 k2 k3 k4
                  go_wp2_with fail
                  all_goals (go_end0; exact ⟨rfl, zs, HZ.out.1, ((HZ.out.2.1.mono (by omega) (Nat.le_refl _)).trans (HL.out.2.1.mono (Nat.le_refl _) (by omega))).trans HR.out.2.2.2.1, srt_fin HL.out.2.1 HL.out.2.2.1 HZ.out.2.1 HZ.out.2.2.1 HR.out.2.2.2.2.2.2.2.1, (HR.out.2.2.1.trans HL.out.2.2.2).trans HZ.out.2.2.2⟩)
              · have Hfs : Hid (Srt key mid b ys) := by
                  show Srt key mid b ys
                  rcases (by omega : e ≤ mid ∨ b ≤ e) with h1 | h1
                  · have h2 : e = mid := by have := He.out.2.2.2; omega
                    have h3 := srt_out HL.out.2.1 (HR.out.2.2.2.2.2.2.1) (.inr (by omega))
                    rw [h2] at h3; exact h3
                  · have h2 : e = b := by have := He.out.2.1; omega
                    have h3 := srt_out HL.out.2.1 (HR.out.2.2.2.2.2.1) (.inr (Nat.le_refl _))
                    rw [h2] at h3; exact h3
                have Hfin : Hid (SortPost S a b key xs w (.returned (.tuple #[])) wv) := (show SortPost S a b key xs w (.returned (.tuple #[])) wv from ⟨rfl, ys, HL.out.1, (HL.out.2.1.mono (Nat.le_refl _) (by omega)).trans HR.out.2.2.2.1, srt_fin HL.out.2.1 HL.out.2.2.1 (Mv.refl mid b _) Hfs.out HR.out.2.2.2.2.2.2.2.1, HR.out.2.2.1.trans HL.out.2.2.2⟩)
                by_cases hr1 : mid < e
                · have d3 : decide ((mid : Int) < (e : Int)) = true := decide_eq_true (by omega)
                  have d4 : decide ((e : Int) < (b : Int)) = false := decide_eq_false (by omega)
                  go_wp2_with fail
                  all_goals (go_end0; exact Hfin.out)
                · have d3 : decide ((mid : Int) < (e : Int)) = false := decide_eq_false (by omega)
                  go_wp2_with fail
                  all_goals (go_end0; exact Hfin.out)
            · have d1 : decide ((a : Int) < (i : Int)) = false := decide_eq_false (by omega)
              by_cases hr : mid < e ∧ e < b
              · have d3 : decide ((mid : Int) < (e : Int)) = true := decide_eq_true (by omega)
                have d4 : decide ((e : Int) < (b : Int)) = true := decide_eq_true (by omega)
                go_wp2_with fail
                all_goals
                  refine (Hih.out mid e b ys wv (by omega) hr.1 hr.2 hb HL.out.1 (HL.out.2.1.len.trans HR.out.2.1) (srt_out HL.out.2.1 (HR.out.2.2.2.2.2.1) (.inr (Nat.le_refl _))) (srt_out HL.out.2.1 (HR.out.2.2.2.2.2.2.1) (.inr (by have := He.out.2.2.2; omega))) ((Hk.out.trans HR.out.2.2.1).trans HL.out.2.2.2)).mono ?_
                  rintro e9 w9 ⟨rfl, zs, k1, k2, k3, k4⟩
                  have HZ := Lib.hid (And.intro k1 (And.intro k2 (And.intro k3 k4)))
                  clear k1 k2 k3 k4
                  go_wp2_with fail
                  all_goals (go_end0; exact ⟨rfl, zs, HZ.out.1, ((HZ.out.2.1.mono (by omega) (Nat.le_refl _)).trans (HL.out.2.1.mono (Nat.le_refl _) (by omega))).trans HR.out.2.2.2.1, srt_fin HL.out.2.1 HL.out.2.2.1 HZ.out.2.1 HZ.out.2.2.1 HR.out.2.2.2.2.2.2.2.1, (HR.out.2.2.1.trans HL.out.2.2.2).trans HZ.out.2.2.2⟩)
              · have Hfs : Hid (Srt key mid b ys) := by
                  show Srt key mid b ys
                  rcases (by omega : e ≤ mid ∨ b ≤ e) with h1 | h1
                  · have h2 : e = mid := by have := He.out.2.2.2; omega
                    have h3 := srt_out HL.out.2.1 (HR.out.2.2.2.2.2.2.1) (.inr (by omega))
                    rw [h2] at h3; exact h3
                  · have h2 : e = b := by have := He.out.2.1; omega
                    have h3 := srt_out HL.out.2.1 (HR.out.2.2.2.2.2.1) (.inr (Nat.le_refl _))
                    rw [h2] at h3; exact h3
                have Hfin : Hid (SortPost S a b key xs w (.returned (.tuple #[])) wv) := (show SortPost S a b key xs w (.returned (.tuple #[])) wv from ⟨rfl, ys, HL.out.1, (HL.out.2.1.mono (Nat.le_refl _) (by omega)).trans HR.out.2.2.2.1, srt_fin HL.out.2.1 HL.out.2.2.1 (Mv.refl mid b _) Hfs.out HR.out.2.2.2.2.2.2.2.1, HR.out.2.2.1.trans HL.out.2.2.2⟩)
                by_cases hr1 : mid < e
                · have d3 : decide ((mid : Int) < (e : Int)) = true := decide_eq_true (by omega)
                  have d4 : decide ((e : Int) < (b : Int)) = false := decide_eq_false (by omega)
                  go_wp2_with fail
                  all_goals (go_end0; exact Hfin.out)
                · have d3 : decide ((mid : Int) < (e : Int)) = false := decide_eq_false (by omega)
                  go_wp2_with fail
                  all_goals (go_end0; exact Hfin.out)
        · have HR0 := Lib.hid (sym_pack (Hrow := Hrow.out.below HI.out.1) (Hlen := Hl.out) (Hkeep := Keeps.of_new HI.out.1) (Hmv := Mv.refl a b xs) (Hp := Hpar.out xs (rot_id _ (by omega)).symm))
          have HR := HR0
          clear HR0
          by_cases hm3 : i < m
          · have d1 : decide ((i : Int) < (m : Int)) = true := decide_eq_true (by omega)
            have d2 : decide ((m : Int) < (e : Int)) = false := decide_eq_false (by omega)
            by_cases hlr : a < i ∧ i < mid
            · have d1 : decide ((a : Int) < (i : Int)) = true := decide_eq_true (by omega)
              have d2 : decide ((i : Int) < (mid : Int)) = true := decide_eq_true (by omega)
              go_wp2_with fail
              refine (Hih.out a i mid xs wk (by omega) hlr.1 hlr.2 (by omega) HR.out.1 HR.out.2.1 HR.out.2.2.2.2.1 HR.out.2.2.2.2.2.2.2.2 (Hk.out.trans HR.out.2.2.1)).mono ?_
              rintro e9 w8 ⟨rfl, y1, k1, k2, k3, k4⟩
              have HL := Lib.hid (And.intro k1 (And.intro k2 (And.intro k3 k4)))
              clear k1 k2 k3 k4
              by_cases hr : mid < e ∧ e < b
              · have d3 : decide ((mid : Int) < (e : Int)) = true := decide_eq_true (by omega)
                have d4 : decide ((e : Int) < (b : Int)) = true := decide_eq_true (by omega)
                go_wp2_with fail
                all_goals
                  refine (Hih.out mid e b y1 w8 (by omega) hr.1 hr.2 hb HL.out.1 (HL.out.2.1.len.trans HR.out.2.1) (srt_out HL.out.2.1 (HR.out.2.2.2.2.2.1) (.inr (Nat.le_refl _))) (srt_out HL.out.2.1 (HR.out.2.2.2.2.2.2.1) (.inr (by have := He.out.2.2.2; omega))) ((Hk.out.trans HR.out.2.2.1).trans HL.out.2.2.2)).mono ?_
                  rintro e9 w9 ⟨rfl, zs, k1, k2, k3, k4⟩
                  have HZ := Lib.hid (And.intro k1 (And.intro k2 (And.intro k3 k4)))
                  clear k1 k2 k3 k4
                  go_wp2_with fail
                  all_goals (go_end0; exact ⟨rfl, zs, HZ.out.1, ((HZ.out.2.1.mono (by omega) (Nat.le_refl _)).trans (HL.out.2.1.mono (Nat.le_refl _) (by omega))).trans HR.out.2.2.2.1, srt_fin HL.out.2.1 HL.out.2.2.1 HZ.out.2.1 HZ.out.2.2.1 HR.out.2.2.2.2.2.2.2.1, (HR.out.2.2.1.trans HL.out.2.2.2).trans HZ.out.2.2.2⟩)
              · have Hfs : Hid (Srt key mid b y1) := by
                  show Srt key mid b y1
                  rcases (by omega : e ≤ mid ∨ b ≤ e) with h1 | h1
                  · have h2 : e = mid := by have := He.out.2.2.2; omega
                    have h3 := srt_out HL.out.2.1 (HR.out.2.2.2.2.2.2.1) (.inr (by omega))
                    rw [h2] at h3; exact h3
                  · have h2 : e = b := by have := He.out.2.1; omega
                    have h3 := srt_out HL.out.2.1 (HR.out.2.2.2.2.2.1) (.inr (Nat.le_refl _))
                    rw [h2] at h3; exact h3
                have Hfin : Hid (SortPost S a b key xs w (.returned (.tuple #[])) w8) := (show SortPost S a b key xs w (.returned (.tuple #[])) w8 from ⟨rfl, y1, HL.out.1, (HL.out.2.1.mono (Nat.le_refl _) (by omega)).trans HR.out.2.2.2.1, srt_fin HL.out.2.1 HL.out.2.2.1 (Mv.refl mid b _) Hfs.out HR.out.2.2.2.2.2.2.2.1, HR.out.2.2.1.trans HL.out.2.2.2⟩)
                by_cases hr1 : mid < e
                · have d3 : decide ((mid : Int) < (e : Int)) = true := decide_eq_true (by omega)
                  have d4 : decide ((e : Int) < (b : Int)) = false := decide_eq_false (by omega)
                  go_wp2_with fail
                  all_goals (go_end0; exact Hfin.out)
                · have d3 : decide ((mid : Int) < (e : Int)) = false := decide_eq_false (by omega)
                  go_wp2_with fail
                  all_goals (go_end0; exact Hfin.out)
            · have Hfs0 : Hid (Srt key a mid xs) := by
                show Srt key a mid xs
                rcases (by omega : i ≤ a ∨ mid ≤ i) with h1 | h1
                · have h2 : i = a := by omega
                  have h3 := HR.out.2.2.2.2.2.2.2.2
                  rw [h2] at h3; exact h3
                · have h2 : i = mid := by omega
                  have h3 := HR.out.2.2.2.2.1
                  rw [h2] at h3; exact h3
              have HL : Hid (RowT wk S xs ∧ Mv a mid xs xs ∧ Srt key a mid xs ∧ Keeps (fun k => k = S) wk wk) := (show RowT wk S xs ∧ Mv a mid xs xs ∧ Srt key a mid xs ∧ Keeps (fun k => k = S) wk wk from ⟨HR.out.1, Mv.refl _ _ _, Hfs0.out, Keeps.refl _ _⟩)
              by_cases hl1 : a < i
              · have d1 : decide ((a : Int) < (i : Int)) = true := decide_eq_true (by omega)
                have d2 : decide ((i : Int) < (mid : Int)) = false := decide_eq_false (by omega)
                by_cases hr : mid < e ∧ e < b
                · have d3 : decide ((mid : Int) < (e : Int)) = true := decide_eq_true (by omega)
                  have d4 : decide ((e : Int) < (b : Int)) = true := decide_eq_true (by omega)
                  go_wp2_with fail
                  all_goals
                    refine (Hih.out mid e b xs wk (by omega) hr.1 hr.2 hb HL.out.1 (HL.out.2.1.len.trans HR.out.2.1) (srt_out HL.out.2.1 (HR.out.2.2.2.2.2.1) (.inr (Nat.le_refl _))) (srt_out HL.out.2.1 (HR.out.2.2.2.2.2.2.1) (.inr (by have := He.out.2.2.2; omega))) ((Hk.out.trans HR.out.2.2.1).trans HL.out.2.2.2)).mono ?_
                    rintro e9 w9 ⟨rfl, zs, k1, k2, k3, k4⟩
                    have HZ := Lib.hid (And.intro k1 (And.intro k2 (And.intro k3 k4)))
                    clear k1 k2 k3 k4
                    go_wp2_with fail
                    all_goals (go_end0; exact ⟨rfl, zs, HZ.out.1, ((HZ.out.2.1.mono (by omega) (Nat.le_refl _)).trans (HL.out.2.1.mono (Nat.le_refl _) (by omega))).trans HR.out.2.2.2.1, srt_fin HL.out.2.1 HL.out.2.2.1 HZ.out.2.1 HZ.out.2.2.1 HR.out.2.2.2.2.2.2.2.1, (HR.out.2.2.1.trans HL.out.2.2.2).trans HZ.out.2.2.2⟩)
                · have Hfs : Hid (Srt key mid b xs) := by
                    show Srt key mid b xs
                    rcases (by omega : e ≤ mid ∨ b ≤ e) with h1 | h1
                    · have h2 : e = mid := by have := He.out.2.2.2; omega
                      have h3 := srt_out HL.out.2.1 (HR.out.2.2.2.2.2.2.1) (.inr (by omega))
                      rw [h2] at h3; exact h3
                    · have h2 : e = b := by have := He.out.2.1; omega
                      have h3 := srt_out HL.out.2.1 (HR.out.2.2.2.2.2.1) (.inr (Nat.le_refl _))
                      rw [h2] at h3; exact h3
                  have Hfin : Hid (SortPost S a b key xs w (.returned (.tuple #[])) wk) := (show SortPost S a b key xs w (.returned (.tuple #[])) wk from ⟨rfl, xs, HL.out.1, (HL.out.2.1.mono (Nat.le_refl _) (by omega)).trans HR.out.2.2.2.1, srt_fin HL.out.2.1 HL.out.2.2.1 (Mv.refl mid b _) Hfs.out HR.out.2.2.2.2.2.2.2.1, HR.out.2.2.1.trans HL.out.2.2.2⟩)
                  by_cases hr1 : mid < e
                  · have d3 : decide ((mid : Int) < (e : Int)) = true := decide_eq_true (by omega)
                    have d4 : decide ((e : Int) < (b : Int)) = false := decide_eq_false (by omega)
                    go_wp2_with fail
                    all_goals (go_end0; exact Hfin.out)
                  · have d3 : decide ((mid : Int) < (e : Int)) = false := decide_eq_false (by omega)
                    go_wp2_with fail
                    all_goals (go_end0; exact Hfin.out)
              · have d1 : decide ((a : Int) < (i : Int)) = false := decide_eq_false (by omega)
                by_cases hr : mid < e ∧ e < b
                · have d3 : decide ((mid : Int) < (e : Int)) = true := decide_eq_true (by omega)
                  have d4 : decide ((e : Int) < (b : Int)) = true := decide_eq_true (by omega)
                  go_wp2_with fail
                  all_goals
                    refine (Hih.out mid e b xs wk (by omega) hr.1 hr.2 hb HL.out.1 (HL.out.2.1.len.trans HR.out.2.1) (srt_out HL.out.2.1 (HR.out.2.2.2.2.2.1) (.inr (Nat.le_refl _))) (srt_out HL.out.2.1 (HR.out.2.2.2.2.2.2.1) (.inr (by have := He.out.2.2.2; omega))) ((Hk.out.trans HR.out.2.2.1).trans HL.out.2.2.2)).mono ?_
                    rintro e9 w9 ⟨rfl, zs, k1, k2, k3, k4⟩
                    have HZ := Lib.hid (And.intro k1 (And.intro k2 (And.intro k3 k4)))
                    clear k1 k2 k3 k4
                    go_wp2_with fail
                    all_goals (go_end0; exact ⟨rfl, zs, HZ.out.1, ((HZ.out.2.1.mono (by omega) (Nat.le_refl _)).trans (HL.out.2.1.mono (Nat.le_refl _) (by omega))).trans HR.out.2.2.2.1, srt_fin HL.out.2.1 HL.out.2.2.1 HZ.out.2.1 HZ.out.2.2.1 HR.out.2.2.2.2.2.2.2.1, (HR.out.2.2.1.trans HL.out.2.2.2).trans HZ.out.2.2.2⟩)
                · have Hfs : Hid (Srt key mid b xs) := by
                    show Srt key mid b xs
                    rcases (by omega : e ≤ mid ∨ b ≤ e) with h1 | h1
                    · have h2 : e = mid := by have := He.out.2.2.2; omega
                      have h3 := srt_out HL.out.2.1 (HR.out.2.2.2.2.2.2.1) (.inr (by omega))
                      rw [h2] at h3; exact h3
                    · have h2 : e = b := by have := He.out.2.1; omega
                      have h3 := srt_out HL.out.2.1 (HR.out.2.2.2.2.2.1) (.inr (Nat.le_refl _))
                      rw [h2] at h3; exact h3
                  have Hfin : Hid (SortPost S a b key xs w (.returned (.tuple #[])) wk) := (show SortPost S a b key xs w (.returned (.tuple #[])) wk from ⟨rfl, xs, HL.out.1, (HL.out.2.1.mono (Nat.le_refl _) (by omega)).trans HR.out.2.2.2.1, srt_fin HL.out.2.1 HL.out.2.2.1 (Mv.refl mid b _) Hfs.out HR.out.2.2.2.2.2.2.2.1, HR.out.2.2.1.trans HL.out.2.2.2⟩)
                  by_cases hr1 : mid < e
                  · have d3 : decide ((mid : Int) < (e : Int)) = true := decide_eq_true (by omega)
                    have d4 : decide ((e : Int) < (b : Int)) = false := decide_eq_false (by omega)
                    go_wp2_with fail
                    all_goals (go_end0; exact Hfin.out)
                  · have d3 : decide ((mid : Int) < (e : Int)) = false := decide_eq_false (by omega)
                    go_wp2_with fail
                    all_goals (go_end0; exact Hfin.out)
          · have d1 : decide ((i : Int) < (m : Int)) = false := decide_eq_false (by omega)
            by_cases hlr : a < i ∧ i < mid
            · have d1 : decide ((a : Int) < (i : Int)) = true := decide_eq_true (by omega)
              have d2 : decide ((i : Int) < (mid : Int)) = true := decide_eq_true (by omega)
              go_wp2_with fail
              refine (Hih.out a i mid xs wk (by omega) hlr.1 hlr.2 (by omega) HR.out.1 HR.out.2.1 HR.out.2.2.2.2.1 HR.out.2.2.2.2.2.2.2.2 (Hk.out.trans HR.out.2.2.1)).mono ?_
              rintro e9 w8 ⟨rfl, y1, k1, k2, k3, k4⟩
              have HL := Lib.hid (And.intro k1 (And.intro k2 (And.intro k3 k4)))
              clear k1 k2 k3 k4
              by_cases hr : mid < e ∧ e < b
              · have d3 : decide ((mid : Int) < (e : Int)) = true := decide_eq_true (by omega)
                have d4 : decide ((e : Int) < (b : Int)) = true := decide_eq_true (by omega)
                go_wp2_with fail
                all_goals
                  refine (Hih.out mid e b y1 w8 (by omega) hr.1 hr.2 hb HL.out.1 (HL.out.2.1.len.trans HR.out.2.1) (srt_out HL.out.2.1 (HR.out.2.2.2.2.2.1) (.inr (Nat.le_refl _))) (srt_out HL.out.2.1 (HR.out.2.2.2.2.2.2.1) (.inr (by have := He.out.2.2.2; omega))) ((Hk.out.trans HR.out.2.2.1).trans HL.out.2.2.2)).mono ?_
                  rintro e9 w9 ⟨rfl, zs, k1, k2, k3, k4⟩
                  have HZ := Lib.hid (And.intro k1 (And.intro k2 (And.intro k3 k4)))
                  clear k1 k2 k3 k4
                  go_wp2_with fail
                  all_goals (go_end0; exact ⟨rfl, zs, HZ.out.1, ((HZ.out.2.1.mono (by omega) (Nat.le_refl _)).trans (HL.out.2.1.mono (Nat.le_refl _) (by omega))).trans HR.out.2.2.2.1, srt_fin HL.out.2.1 HL.out.2.2.1 HZ.out.2.1 HZ.out.2.2.1 HR.out.2.2.2.2.2.2.2.1, (HR.out.2.2.1.trans HL.out.2.2.2).trans HZ.out.2.2.2⟩)
              · have Hfs : Hid (Srt key mid b y1) := by
                  show Srt key mid b y1
                  rcases (by omega : e ≤ mid ∨ b ≤ e) with h1 | h1
                  · have h2 : e = mid := by have := He.out.2.2.2; omega
                    have h3 := srt_out HL.out.2.1 (HR.out.2.2.2.2.2.2.1) (.inr (by omega))
                    rw [h2] at h3; exact h3
                  · have h2 : e = b := by have := He.out.2.1; omega
                    have h3 := srt_out HL.out.2.1 (HR.out.2.2.2.2.2.1) (.inr (Nat.le_refl _))
                    rw [h2] at h3; exact h3
                have Hfin : Hid (SortPost S a b key xs w (.returned (.tuple #[])) w8) := (show SortPost S a b key xs w (.returned (.tuple #[])) w8 from ⟨rfl, y1, HL.out.1, (HL.out.2.1.mono (Nat.le_refl _) (by omega)).trans HR.out.2.2.2.1, srt_fin HL.out.2.1 HL.out.2.2.1 (Mv.refl mid b _) Hfs.out HR.out.2.2.2.2.2.2.2.1, HR.out.2.2.1.trans HL.out.2.2.2⟩)
                by_cases hr1 : mid < e
                · have d3 : decide ((mid : Int) < (e : Int)) = true := decide_eq_true (by omega)
                  have d4 : decide ((e : Int) < (b : Int)) = false := decide_eq_false (by omega)
                  go_wp2_with fail
                  all_goals (go_end0; exact Hfin.out)
                · have d3 : decide ((mid : Int) < (e : Int)) = false := decide_eq_false (by omega)
                  go_wp2_with fail
                  all_goals (go_end0; exact Hfin.out)
            · have Hfs0 : Hid (Srt key a mid xs) := by
                show Srt key a mid xs
                rcases (by omega : i ≤ a ∨ mid ≤ i) with h1 | h1
                · have h2 : i = a := by omega
                  have h3 := HR.out.2.2.2.2.2.2.2.2
                  rw [h2] at h3; exact h3
                · have h2 : i = mid := by omega
                  have h3 := HR.out.2.2.2.2.1
                  rw [h2] at h3; exact h3
              have HL : Hid (RowT wk S xs ∧ Mv a mid xs xs ∧ Srt key a mid xs ∧ Keeps (fun k => k = S) wk wk) := (show RowT wk S xs ∧ Mv a mid xs xs ∧ Srt key a mid xs ∧ Keeps (fun k => k = S) wk wk from ⟨HR.out.1, Mv.refl _ _ _, Hfs0.out, Keeps.refl _ _⟩)
              by_cases hl1 : a < i
              · have d1 : decide ((a : Int) < (i : Int)) = true := decide_eq_true (by omega)
                have d2 : decide ((i : Int) < (mid : Int)) = false := decide_eq_false (by omega)
                by_cases hr : mid < e ∧ e < b
                · have d3 : decide ((mid : Int) < (e : Int)) = true := decide_eq_true (by omega)
                  have d4 : decide ((e : Int) < (b : Int)) = true := decide_eq_true (by omega)
                  go_wp2_with fail
                  all_goals
                    refine (Hih.out mid e b xs wk (by omega) hr.1 hr.2 hb HL.out.1 (HL.out.2.1.len.trans HR.out.2.1) (srt_out HL.out.2.1 (HR.out.2.2.2.2.2.1) (.inr (Nat.le_refl _))) (srt_out HL.out.2.1 (HR.out.2.2.2.2.2.2.1) (.inr (by have := He.out.2.2.2; omega))) ((Hk.out.trans HR.out.2.2.1).trans HL.out.2.2.2)).mono ?_
                    rintro e9 w9 ⟨rfl, zs, k1, k2, k3, k4⟩
                    have HZ := Lib.hid (And.intro k1 (And.intro k2 (And.intro k3 k4)))
                    clear k1 k2 k3 k4
                    go_wp2_with fail
                    all_goals (go_end0; exact ⟨rfl, zs, HZ.out.1, ((HZ.out.2.1.mono (by omega) (Nat.le_refl _)).trans (HL.out.2.1.mono (Nat.le_refl _) (by omega))).trans HR.out.2.2.2.1, srt_fin HL.out.2.1 HL.out.2.2.1 HZ.out.2.1 HZ.out.2.2.1 HR.out.2.2.2.2.2.2.2.1, (HR.out.2.2.1.trans HL.out.2.2.2).trans HZ.out.2.2.2⟩)
                · have Hfs : Hid (Srt key mid b xs) := by
                    show Srt key mid b xs
                    rcases (by omega : e ≤ mid ∨ b ≤ e) with h1 | h1
                    · have h2 : e = mid := by have := He.out.2.2.2; omega
                      have h3 := srt_out HL.out.2.1 (HR.out.2.2.2.2.2.2.1) (.inr (by omega))
                      rw [h2] at h3; exact h3
                    · have h2 : e = b := by have := He.out.2.1; omega
                      have h3 := srt_out HL.out.2.1 (HR.out.2.2.2.2.2.1) (.inr (Nat.le_refl _))
                      rw [h2] at h3; exact h3
                  have Hfin : Hid (SortPost S a b key xs w (.returned (.tuple #[])) wk) := (show SortPost S a b key xs w (.returned (.tuple #[])) wk from ⟨rfl, xs, HL.out.1, (HL.out.2.1.mono (Nat.le_refl _) (by omega)).trans HR.out.2.2.2.1, srt_fin HL.out.2.1 HL.out.2.2.1 (Mv.refl mid b _) Hfs.out HR.out.2.2.2.2.2.2.2.1, HR.out.2.2.1.trans HL.out.2.2.2⟩)
                  by_cases hr1 : mid < e
                  · have d3 : decide ((mid : Int) < (e : Int)) = true := decide_eq_true (by omega)
                    have d4 : decide ((e : Int) < (b : Int)) = false := decide_eq_false (by omega)
                    go_wp2_with fail
                    all_goals (go_end0; exact Hfin.out)
                  · have d3 : decide ((mid : Int) < (e : Int)) = false := decide_eq_false (by omega)
                    go_wp2_with fail
                    all_goals (go_end0; exact Hfin.out)
              · have d1 : decide ((a : Int) < (i : Int)) = false := decide_eq_false (by omega)
                by_cases hr : mid < e ∧ e < b
                · have d3 : decide ((mid : Int) < (e : Int)) = true := decide_eq_true (by omega)
                  have d4 : decide ((e : Int) < (b : Int)) = true := decide_eq_true (by omega)
                  go_wp2_with fail
                  all_goals
                    refine (Hih.out mid e b xs wk (by omega) hr.1 hr.2 hb HL.out.1 (HL.out.2.1.len.trans HR.out.2.1) (srt_out HL.out.2.1 (HR.out.2.2.2.2.2.1) (.inr (Nat.le_refl _))) (srt_out HL.out.2.1 (HR.out.2.2.2.2.2.2.1) (.inr (by have := He.out.2.2.2; omega))) ((Hk.out.trans HR.out.2.2.1).trans HL.out.2.2.2)).mono ?_
                    rintro e9 w9 ⟨rfl, zs, k1, k2, k3, k4⟩
                    have HZ := Lib.hid (And.intro k1 (And.intro k2 (And.intro k3 k4)))
                    clear k1 k2 k3 k4
                    go_wp2_with fail
                    all_goals (go_end0; exact ⟨rfl, zs, HZ.out.1, ((HZ.out.2.1.mono (by omega) (Nat.le_refl _)).trans (HL.out.2.1.mono (Nat.le_refl _) (by omega))).trans HR.out.2.2.2.1, srt_fin HL.out.2.1 HL.out.2.2.1 HZ.out.2.1 HZ.out.2.2.1 HR.out.2.2.2.2.2.2.2.1, (HR.out.2.2.1.trans HL.out.2.2.2).trans HZ.out.2.2.2⟩)
                · have Hfs : Hid (Srt key mid b xs) := by
                    show Srt key mid b xs
                    rcases (by omega : e ≤ mid ∨ b ≤ e) with h1 | h1
                    · have h2 : e = mid := by have := He.out.2.2.2; omega
                      have h3 := srt_out HL.out.2.1 (HR.out.2.2.2.2.2.2.1) (.inr (by omega))
                      rw [h2] at h3; exact h3
                    · have h2 : e = b := by have := He.out.2.1; omega
                      have h3 := srt_out HL.out.2.1 (HR.out.2.2.2.2.2.1) (.inr (Nat.le_refl _))
                      rw [h2] at h3; exact h3
                  have Hfin : Hid (SortPost S a b key xs w (.returned (.tuple #[])) wk) := (show SortPost S a b key xs w (.returned (.tuple #[])) wk from ⟨rfl, xs, HL.out.1, (HL.out.2.1.mono (Nat.le_refl _) (by omega)).trans HR.out.2.2.2.1, srt_fin HL.out.2.1 HL.out.2.2.1 (Mv.refl mid b _) Hfs.out HR.out.2.2.2.2.2.2.2.1, HR.out.2.2.1.trans HL.out.2.2.2⟩)
                  by_cases hr1 : mid < e
                  · have d3 : decide ((mid : Int) < (e : Int)) = true := decide_eq_true (by omega)
                    have d4 : decide ((e : Int) < (b : Int)) = false := decide_eq_false (by omega)
                    go_wp2_with fail
                    all_goals (go_end0; exact Hfin.out)
                  · have d3 : decide ((mid : Int) < (e : Int)) = false := decide_eq_false (by omega)
                    go_wp2_with fail
                    all_goals (go_end0; exact Hfin.out)
  · have d0 : decide ((mid : Int) < (m : Int)) = false := decide_eq_false (by omega)
    have z4 : 2 * mid ≤ a + b ∧ a + b ≤ 2 * mid + 1 := Hz.out
    go_enter Try.func114, Try.ntmps114
    go_wp2_with fail
    clear q1 q2 q3 q4 q5 q6 q7 q8 q9 d0
    go_loopw [20, 21] (fun u v wr => ∃ (i j : Nat), u = .int .i64 (i : Int) ∧ v = .int .i64 (j : Int) ∧ a ≤ i ∧ i ≤ j ∧ j ≤ m ∧ Hid (Below w.heap.size w wr ∧ (∀ c, a ≤ c → c < i → key (tAt xs c) ≤ key (tAt xs (pp - c))) ∧ (∀ c, j ≤ c → c < m → key (tAt xs (pp - c)) < key (tAt xs c)))) (fun u v _ => (intOf v).toNat - (intOf u).toNat)
    case atStart => exact ⟨a, m, rfl, rfl, by omega, by omega, Nat.le_refl _, Lib.hid ⟨Below.refl _ _, fun p h1 h2 => by omega, fun p h1 h2 => by omega⟩⟩
    case round =>
      obtain ⟨i, j, rfl, rfl, hi, hij, hj, HI⟩ := hrel
      obtain ⟨wk, rfl⟩ : ∃ wk, wk = wr := ⟨_, rfl⟩
      by_cases hlt : i < j
      · have i1 : (i : Int) < (j : Int) := by omega
        obtain ⟨h, hh⟩ : ∃ h, (i + j) / 2 = h := ⟨_, rfl⟩
        obtain ⟨q, hq⟩ : ∃ q, pp - h = q := ⟨_, rfl⟩
        have w2 : IntKind.i64.wrap ((i : Int) + (j : Int)) = (i : Int) + (j : Int) := IntWalk.i64_in _ ⟨by omega, by omega⟩
        have w3 : IntKind.u64.wrap ((i : Int) + (j : Int)) = (i : Int) + (j : Int) := by rw [IntKind.wrap_u64]; omega
        have w4 : ((i : Int) + (j : Int)) / 2 = (h : Int) := by omega
        have hq1 : q + h ≤ pp ∧ pp ≤ q + h ∧ i ≤ h ∧ h < j ∧ m ≤ q ∧ q < b := by omega
        have w5 : IntKind.i64.wrap ((pp : Int) - (h : Int)) = (q : Int) := by rw [IntWalk.i64_in _ ⟨by omega, by omega⟩]; omega
        clear hh hq
        go_wp2_with fail
        have i3 : (h : Int) < (n : Int) := by omega
        have i4 : (q : Int) < (n : Int) := by omega
        have i5 : (0 : Int) ≤ (h : Int) := by omega
        have i6 : (0 : Int) ≤ (q : Int) := by omega
        have hxl : xs.length = n := Hl.out
        obtain ⟨x, hx⟩ : ∃ x, tAt xs (q) = x := ⟨_, rfl⟩
        obtain ⟨y, hy⟩ : ∃ y, tAt xs (h) = y := ⟨_, rfl⟩
        obtain ⟨c, hc⟩ : ∃ c, cmpI (key x) (key y) = c := ⟨_, rfl⟩
        have HX := Lib.hid (And.intro hx (And.intro hy hc))
        have hcw : ∀ W', Below wk.heap.size wk W' → Calls Try.prog g (#[.agg #[.int .i64 x.r.lo, .int .i64 x.r.hi, .int .i64 (x.nm : Int)], .agg #[.int .i64 y.r.lo, .int .i64 y.r.hi, .int .i64 (y.nm : Int)]] ++ cb) W' fun e W2 => e = .returned (.int .i64 c) ∧ Below W'.heap.size W' W2 := fun W' hW => by
          rw [← hc]
          exact Hcmp.out W' x y ((Hk.out.trans (Keeps.of_new HI.out.1)).trans (Keeps.of_new hW))
        have HS := Lib.hid (show ∀ W', Below wk.heap.size wk W' → (Below wk.heap.size wk W' ∧ W'.cell? ⟨S, q * 3, none⟩ = some (.int .i64 x.r.lo) ∧ W'.cell? ⟨S, q * 3 + 1, none⟩ = some (.int .i64 x.r.hi) ∧ W'.cell? ⟨S, q * 3 + 2, none⟩ = some (.int .i64 (x.nm : Int)) ∧ W'.cell? ⟨S, h * 3, none⟩ = some (.int .i64 y.r.lo) ∧ W'.cell? ⟨S, h * 3 + 1, none⟩ = some (.int .i64 y.r.hi) ∧ W'.cell? ⟨S, h * 3 + 2, none⟩ = some (.int .i64 (y.nm : Int))) from fun W' hW => by
          have hr := (Hrow.out.below HI.out.1).below hW
          obtain ⟨c0, c1, c2⟩ := hr.cells (j := q) (by omega)
          obtain ⟨d0, d1, d2⟩ := hr.cells (j := h) (by omega)
          rw [hx] at c0 c1 c2
          rw [hy] at d0 d1 d2
          exact ⟨hW, c0, c1, c2, d0, d1, d2⟩)
        clear hx hy hc hxl
        by_cases hc0 : c < 0
        · have t1 : decide (c < 0) = true := decide_eq_true hc0
          have Hc0 := Lib.hid hc0
          clear hc0
          go_wp2_with fail
          go_region_held3 (fun W' => Below wk.heap.size wk W' ∧ W'.cell? ⟨S, q * 3, none⟩ = some (.int .i64 x.r.lo) ∧ W'.cell? ⟨S, q * 3 + 1, none⟩ = some (.int .i64 x.r.hi) ∧ W'.cell? ⟨S, q * 3 + 2, none⟩ = some (.int .i64 (x.nm : Int)) ∧ W'.cell? ⟨S, h * 3, none⟩ = some (.int .i64 y.r.lo) ∧ W'.cell? ⟨S, h * 3 + 1, none⟩ = some (.int .i64 y.r.hi) ∧ W'.cell? ⟨S, h * 3 + 2, none⟩ = some (.int .i64 (y.nm : Int)))
            (first | exact HS.out _ (drew_b wk 1) | (go_split_ands; exact HS.out _ (Below.trans (by assumption) (Below.mono (by assumption) (Below.size (by assumption))))))
            (first | (go_split_ands; refine (hcw _ (by assumption)).mono ?_; rintro e w' ⟨rfl, hb⟩))
          have hS9 : Below wk.heap.size wk w' := And.left (by assumption)
          have HB9 := Lib.hid hS9
          clear hS9 hcw
          obtain ⟨v, hv⟩ : ∃ v, w' = v := ⟨_, rfl⟩
          rw [hv] at HB9 ⊢
          clear hv
          go_wp2_with fail
          go_roundw
          case rel =>
            refine ⟨i, h, rfl, rfl, by omega, by omega, by omega, Lib.hid ⟨HI.out.1.trans (HB9.out.mono HI.out.1.size), HI.out.2.1, fun c h1 h2 => ?_⟩⟩
            have h9 := Hc0.out
            rw [← HX.out.2.2, ← HX.out.1, ← HX.out.2.1, cmpI_neg] at h9
            have h8 := srt_trans Hs1.out (p := h) (q := c) (by omega) h1 (by omega)
            have h7 := srt_trans Hs2.out (p := pp - c) (q := q) (by omega) (by omega) (by omega)
            omega
          case measure => simp [intOf]; omega
        · have t1 : decide (c < 0) = false := decide_eq_false hc0
          have Hc0 := Lib.hid hc0
          clear hc0
          go_wp2_with fail
          go_region_held3 (fun W' => Below wk.heap.size wk W' ∧ W'.cell? ⟨S, q * 3, none⟩ = some (.int .i64 x.r.lo) ∧ W'.cell? ⟨S, q * 3 + 1, none⟩ = some (.int .i64 x.r.hi) ∧ W'.cell? ⟨S, q * 3 + 2, none⟩ = some (.int .i64 (x.nm : Int)) ∧ W'.cell? ⟨S, h * 3, none⟩ = some (.int .i64 y.r.lo) ∧ W'.cell? ⟨S, h * 3 + 1, none⟩ = some (.int .i64 y.r.hi) ∧ W'.cell? ⟨S, h * 3 + 2, none⟩ = some (.int .i64 (y.nm : Int)))
            (first | exact HS.out _ (drew_b wk 1) | (go_split_ands; exact HS.out _ (Below.trans (by assumption) (Below.mono (by assumption) (Below.size (by assumption))))))
            (first | (go_split_ands; refine (hcw _ (by assumption)).mono ?_; rintro e w' ⟨rfl, hb⟩))
          have hS9 : Below wk.heap.size wk w' := And.left (by assumption)
          have HB9 := Lib.hid hS9
          clear hS9 hcw
          obtain ⟨v, hv⟩ : ∃ v, w' = v := ⟨_, rfl⟩
          rw [hv] at HB9 ⊢
          clear hv
          go_wp2_with fail
          go_roundw
          case rel =>
            refine ⟨h + 1, j, by go_num, rfl, by omega, by omega, hj, Lib.hid ⟨HI.out.1.trans (HB9.out.mono HI.out.1.size), fun c h1 h2 => ?_, HI.out.2.2⟩⟩
            have h9 := Hc0.out
            rw [← HX.out.2.2, ← HX.out.1, ← HX.out.2.1] at h9
            have h7 := cmpI_neg (key (tAt xs q)) (key (tAt xs h))
            have h8 := srt_trans Hs1.out (p := c) (q := h) (by omega) (by omega) (by omega)
            have h6 := srt_trans Hs2.out (p := q) (q := pp - c) (by omega) (by omega) (by omega)
            omega
          case measure => simp [intOf]; omega
      · have e : i = j := by omega
        subst e
        obtain ⟨e, he⟩ : ∃ e, nn - i = e := ⟨_, rfl⟩
        have w5 : IntKind.i64.wrap ((nn : Int) - (i : Int)) = (e : Int) := by rw [IntWalk.i64_in _ ⟨by omega, by omega⟩]; omega
        have He : Hid (i + e = mid + m ∧ e ≤ b ∧ m ≤ e ∧ mid ≤ e) := (show i + e = mid + m ∧ e ≤ b ∧ m ≤ e ∧ mid ≤ e by omega)
        have hpar : ∀ ys, tAt ys = rotF (tAt xs) i m e → Srt key a i ys ∧ Srt key i mid ys ∧ Srt key mid e ys ∧ Srt key e b ys ∧ ∀ p q, a ≤ p → p < mid → mid ≤ q → q < b → key (tAt ys p) ≤ key (tAt ys q) := fun ys hy =>
          sym_parts (by omega) hmb Hmid.out Hs1.out Hs2.out He.out.1 (by omega) (by omega) (by omega) He.out.2.1 hy
            (fun h1 h2 => by
              have h3 := HI.out.2.1 (i - 1) (by have := He.out.1; omega) (by omega)
              rw [show pp - (i - 1) = e by have := He.out.1; omega] at h3
              exact h3)
            (fun h1 h2 => by
              have h3 := HI.out.2.2 i (Nat.le_refl _) (by have := He.out.1; omega)
              rw [show pp - i = e - 1 by have := He.out.1; omega] at h3
              exact h3)
        have Hpar := Lib.hid hpar
        clear hpar he
        by_cases hrt : i < m ∧ m < e
        · have d1 : decide ((i : Int) < (m : Int)) = true := decide_eq_true (by omega)
          have d2 : decide ((m : Int) < (e : Int)) = true := decide_eq_true (by omega)
          go_wp2_with fail
          refine (rot117 S n cap i m e (.func (.func g) #[] cb) xs wk (Hrow.out.below HI.out.1) Hl.out hn hrt.1 hrt.2 (by have := He.out.2.1; omega)).mono ?_
          rintro e8 wv ⟨rfl, ys, k1, k2, k3, k4⟩
          have HR := Lib.hid (sym_pack (Hrow := k1) (Hlen := k2.len.trans Hl.out) (Hkeep := (Keeps.of_new HI.out.1).trans k4) (Hmv := k2.mono (by omega) He.out.2.1) (Hp := Hpar.out ys k3))
          clear k1 k2 k3 k4 d1 d2 hrt
          by_cases hlr : a < i ∧ i < mid
          · have d1 : decide ((a : Int) < (i : Int)) = true := decide_eq_true (by omega)
            have d2 : decide ((i : Int) < (mid : Int)) = true := decide_eq_true (by omega)
            go_wp2_with fail
            refine (Hih.out a i mid ys wv (by omega) hlr.1 hlr.2 (by omega) HR.out.1 HR.out.2.1 HR.out.2.2.2.2.1 HR.out.2.2.2.2.2.2.2.2 (Hk.out.trans HR.out.2.2.1)).mono ?_
            rintro e9 w8 ⟨rfl, y1, k1, k2, k3, k4⟩
            have HL := Lib.hid (And.intro k1 (And.intro k2 (And.intro k3 k4)))
            clear k1 k2 k3 k4
            by_cases hr : mid < e ∧ e < b
            · have d3 : decide ((mid : Int) < (e : Int)) = true := decide_eq_true (by omega)
              have d4 : decide ((e : Int) < (b : Int)) = true := decide_eq_true (by omega)
              go_wp2_with fail
              all_goals
                refine (Hih.out mid e b y1 w8 (by omega) hr.1 hr.2 hb HL.out.1 (HL.out.2.1.len.trans HR.out.2.1) (srt_out HL.out.2.1 (HR.out.2.2.2.2.2.1) (.inr (Nat.le_refl _))) (srt_out HL.out.2.1 (HR.out.2.2.2.2.2.2.1) (.inr (by have := He.out.2.2.2; omega))) ((Hk.out.trans HR.out.2.2.1).trans HL.out.2.2.2)).mono ?_
                rintro e9 w9 ⟨rfl, zs, k1, k2, k3, k4⟩
                have HZ := Lib.hid (And.intro k1 (And.intro k2 (And.intro k3 k4)))
                clear k1 k2 k3 k4
                go_wp2_with fail
                all_goals (go_end0; exact ⟨rfl, zs, HZ.out.1, ((HZ.out.2.1.mono (by omega) (Nat.le_refl _)).trans (HL.out.2.1.mono (Nat.le_refl _) (by omega))).trans HR.out.2.2.2.1, srt_fin HL.out.2.1 HL.out.2.2.1 HZ.out.2.1 HZ.out.2.2.1 HR.out.2.2.2.2.2.2.2.1, (HR.out.2.2.1.trans HL.out.2.2.2).trans HZ.out.2.2.2⟩)
            · have Hfs : Hid (Srt key mid b y1) := by
                show Srt key mid b y1
                rcases (by omega : e ≤ mid ∨ b ≤ e) with h1 | h1
                · have h2 : e = mid := by have := He.out.2.2.2; omega
                  have h3 := srt_out HL.out.2.1 (HR.out.2.2.2.2.2.2.1) (.inr (by omega))
                  rw [h2] at h3; exact h3
                · have h2 : e = b := by have := He.out.2.1; omega
                  have h3 := srt_out HL.out.2.1 (HR.out.2.2.2.2.2.1) (.inr (Nat.le_refl _))
                  rw [h2] at h3; exact h3
              have Hfin : Hid (SortPost S a b key xs w (.returned (.tuple #[])) w8) := (show SortPost S a b key xs w (.returned (.tuple #[])) w8 from ⟨rfl, y1, HL.out.1, (HL.out.2.1.mono (Nat.le_refl _) (by omega)).trans HR.out.2.2.2.1, srt_fin HL.out.2.1 HL.out.2.2.1 (Mv.refl mid b _) Hfs.out HR.out.2.2.2.2.2.2.2.1, HR.out.2.2.1.trans HL.out.2.2.2⟩)
              by_cases hr1 : mid < e
              · have d3 : decide ((mid : Int) < (e : Int)) = true := decide_eq_true (by omega)
                have d4 : decide ((e : Int) < (b : Int)) = false := decide_eq_false (by omega)
                go_wp2_with fail
                all_goals (go_end0; exact Hfin.out)
              · have d3 : decide ((mid : Int) < (e : Int)) = false := decide_eq_false (by omega)
                go_wp2_with fail
                all_goals (go_end0; exact Hfin.out)
          · have Hfs0 : Hid (Srt key a mid ys) := by
              show Srt key a mid ys
              rcases (by omega : i ≤ a ∨ mid ≤ i) with h1 | h1
              · have h2 : i = a := by omega
                have h3 := HR.out.2.2.2.2.2.2.2.2
                rw [h2] at h3; exact h3
              · have h2 : i = mid := by omega
                have h3 := HR.out.2.2.2.2.1
                rw [h2] at h3; exact h3
            have HL : Hid (RowT wv S ys ∧ Mv a mid ys ys ∧ Srt key a mid ys ∧ Keeps (fun k => k = S) wv wv) := (show RowT wv S ys ∧ Mv a mid ys ys ∧ Srt key a mid ys ∧ Keeps (fun k => k = S) wv wv from ⟨HR.out.1, Mv.refl _ _ _, Hfs0.out, Keeps.refl _ _⟩)
            by_cases hl1 : a < i
            · have d1 : decide ((a : Int) < (i : Int)) = true := decide_eq_true (by omega)
              have d2 : decide ((i : Int) < (mid : Int)) = false := decide_eq_false (by omega)
              by_cases hr : mid < e ∧ e < b
              · have d3 : decide ((mid : Int) < (e : Int)) = true := decide_eq_true (by omega)
                have d4 : decide ((e : Int) < (b : Int)) = true := decide_eq_true (by omega)
                go_wp2_with fail
                all_goals
                  refine (Hih.out mid e b ys wv (by omega) hr.1 hr.2 hb HL.out.1 (HL.out.2.1.len.trans HR.out.2.1) (srt_out HL.out.2.1 (HR.out.2.2.2.2.2.1) (.inr (Nat.le_refl _))) (srt_out HL.out.2.1 (HR.out.2.2.2.2.2.2.1) (.inr (by have := He.out.2.2.2; omega))) ((Hk.out.trans HR.out.2.2.1).trans HL.out.2.2.2)).mono ?_
                  rintro e9 w9 ⟨rfl, zs, k1, k2, k3, k4⟩
                  have HZ := Lib.hid (And.intro k1 (And.intro k2 (And.intro k3 k4)))
                  clear k1 k2 k3 k4
                  go_wp2_with fail
                  all_goals (go_end0; exact ⟨rfl, zs, HZ.out.1, ((HZ.out.2.1.mono (by omega) (Nat.le_refl _)).trans (HL.out.2.1.mono (Nat.le_refl _) (by omega))).trans HR.out.2.2.2.1, srt_fin HL.out.2.1 HL.out.2.2.1 HZ.out.2.1 HZ.out.2.2.1 HR.out.2.2.2.2.2.2.2.1, (HR.out.2.2.1.trans HL.out.2.2.2).trans HZ.out.2.2.2⟩)
              · have Hfs : Hid (Srt key mid b ys) := by
                  show Srt key mid b ys
                  rcases (by omega : e ≤ mid ∨ b ≤ e) with h1 | h1
                  · have h2 : e = mid := by have := He.out.2.2.2; omega
                    have h3 := srt_out HL.out.2.1 (HR.out.2.2.2.2.2.2.1) (.inr (by omega))
                    rw [h2] at h3; exact h3
                  · have h2 : e = b := by have := He.out.2.1; omega
                    have h3 := srt_out HL.out.2.1 (HR.out.2.2.2.2.2.1) (.inr (Nat.le_refl _))
                    rw [h2] at h3; exact h3
                have Hfin : Hid (SortPost S a b key xs w (.returned (.tuple #[])) wv) := (show SortPost S a b key xs w (.returned (.tuple #[])) wv from ⟨rfl, ys, HL.out.1, (HL.out.2.1.mono (Nat.le_refl _) (by omega)).trans HR.out.2.2.2.1, srt_fin HL.out.2.1 HL.out.2.2.1 (Mv.refl mid b _) Hfs.out HR.out.2.2.2.2.2.2.2.1, HR.out.2.2.1.trans HL.out.2.2.2⟩)
                by_cases hr1 : mid < e
                · have d3 : decide ((mid : Int) < (e : Int)) = true := decide_eq_true (by omega)
                  have d4 : decide ((e : Int) < (b : Int)) = false := decide_eq_false (by omega)
                  go_wp2_with fail
                  all_goals (go_end0; exact Hfin.out)
                · have d3 : decide ((mid : Int) < (e : Int)) = false := decide_eq_false (by omega)
                  go_wp2_with fail
                  all_goals (go_end0; exact Hfin.out)
            · have d1 : decide ((a : Int) < (i : Int)) = false := decide_eq_false (by omega)
              by_cases hr : mid < e ∧ e < b
              · have d3 : decide ((mid : Int) < (e : Int)) = true := decide_eq_true (by omega)
                have d4 : decide ((e : Int) < (b : Int)) = true := decide_eq_true (by omega)
                go_wp2_with fail
                all_goals
                  refine (Hih.out mid e b ys wv (by omega) hr.1 hr.2 hb HL.out.1 (HL.out.2.1.len.trans HR.out.2.1) (srt_out HL.out.2.1 (HR.out.2.2.2.2.2.1) (.inr (Nat.le_refl _))) (srt_out HL.out.2.1 (HR.out.2.2.2.2.2.2.1) (.inr (by have := He.out.2.2.2; omega))) ((Hk.out.trans HR.out.2.2.1).trans HL.out.2.2.2)).mono ?_
                  rintro e9 w9 ⟨rfl, zs, k1, k2, k3, k4⟩
                  have HZ := Lib.hid (And.intro k1 (And.intro k2 (And.intro k3 k4)))
                  clear k1 k2 k3 k4
                  go_wp2_with fail
                  all_goals (go_end0; exact ⟨rfl, zs, HZ.out.1, ((HZ.out.2.1.mono (by omega) (Nat.le_refl _)).trans (HL.out.2.1.mono (Nat.le_refl _) (by omega))).trans HR.out.2.2.2.1, srt_fin HL.out.2.1 HL.out.2.2.1 HZ.out.2.1 HZ.out.2.2.1 HR.out.2.2.2.2.2.2.2.1, (HR.out.2.2.1.trans HL.out.2.2.2).trans HZ.out.2.2.2⟩)
              · have Hfs : Hid (Srt key mid b ys) := by
                  show Srt key mid b ys
                  rcases (by omega : e ≤ mid ∨ b ≤ e) with h1 | h1
                  · have h2 : e = mid := by have := He.out.2.2.2; omega
                    have h3 := srt_out HL.out.2.1 (HR.out.2.2.2.2.2.2.1) (.inr (by omega))
                    rw [h2] at h3; exact h3
                  · have h2 : e = b := by have := He.out.2.1; omega
                    have h3 := srt_out HL.out.2.1 (HR.out.2.2.2.2.2.1) (.inr (Nat.le_refl _))
                    rw [h2] at h3; exact h3
                have Hfin : Hid (SortPost S a b key xs w (.returned (.tuple #[])) wv) := (show SortPost S a b key xs w (.returned (.tuple #[])) wv from ⟨rfl, ys, HL.out.1, (HL.out.2.1.mono (Nat.le_refl _) (by omega)).trans HR.out.2.2.2.1, srt_fin HL.out.2.1 HL.out.2.2.1 (Mv.refl mid b _) Hfs.out HR.out.2.2.2.2.2.2.2.1, HR.out.2.2.1.trans HL.out.2.2.2⟩)
                by_cases hr1 : mid < e
                · have d3 : decide ((mid : Int) < (e : Int)) = true := decide_eq_true (by omega)
                  have d4 : decide ((e : Int) < (b : Int)) = false := decide_eq_false (by omega)
                  go_wp2_with fail
                  all_goals (go_end0; exact Hfin.out)
                · have d3 : decide ((mid : Int) < (e : Int)) = false := decide_eq_false (by omega)
                  go_wp2_with fail
                  all_goals (go_end0; exact Hfin.out)
        · have HR0 := Lib.hid (sym_pack (Hrow := Hrow.out.below HI.out.1) (Hlen := Hl.out) (Hkeep := Keeps.of_new HI.out.1) (Hmv := Mv.refl a b xs) (Hp := Hpar.out xs (rot_id _ (by omega)).symm))
          have HR := HR0
          clear HR0
          by_cases hm3 : i < m
          · have d1 : decide ((i : Int) < (m : Int)) = true := decide_eq_true (by omega)
            have d2 : decide ((m : Int) < (e : Int)) = false := decide_eq_false (by omega)
            by_cases hlr : a < i ∧ i < mid
            · have d1 : decide ((a : Int) < (i : Int)) = true := decide_eq_true (by omega)
              have d2 : decide ((i : Int) < (mid : Int)) = true := decide_eq_true (by omega)
              go_wp2_with fail
              refine (Hih.out a i mid xs wk (by omega) hlr.1 hlr.2 (by omega) HR.out.1 HR.out.2.1 HR.out.2.2.2.2.1 HR.out.2.2.2.2.2.2.2.2 (Hk.out.trans HR.out.2.2.1)).mono ?_
              rintro e9 w8 ⟨rfl, y1, k1, k2, k3, k4⟩
              have HL := Lib.hid (And.intro k1 (And.intro k2 (And.intro k3 k4)))
              clear k1 k2 k3 k4
              by_cases hr : mid < e ∧ e < b
              · have d3 : decide ((mid : Int) < (e : Int)) = true := decide_eq_true (by omega)
                have d4 : decide ((e : Int) < (b : Int)) = true := decide_eq_true (by omega)
                go_wp2_with fail
                all_goals
                  refine (Hih.out mid e b y1 w8 (by omega) hr.1 hr.2 hb HL.out.1 (HL.out.2.1.len.trans HR.out.2.1) (srt_out HL.out.2.1 (HR.out.2.2.2.2.2.1) (.inr (Nat.le_refl _))) (srt_out HL.out.2.1 (HR.out.2.2.2.2.2.2.1) (.inr (by have := He.out.2.2.2; omega))) ((Hk.out.trans HR.out.2.2.1).trans HL.out.2.2.2)).mono ?_
                  rintro e9 w9 ⟨rfl, zs, k1, k2, k3, k4⟩
                  have HZ := Lib.hid (And.intro k1 (And.intro k2 (And.intro k3 k4)))
                  clear k1 k2 k3 k4
                  go_wp2_with fail
                  all_goals (go_end0; exact ⟨rfl, zs, HZ.out.1, ((HZ.out.2.1.mono (by omega) (Nat.le_refl _)).trans (HL.out.2.1.mono (Nat.le_refl _) (by omega))).trans HR.out.2.2.2.1, srt_fin HL.out.2.1 HL.out.2.2.1 HZ.out.2.1 HZ.out.2.2.1 HR.out.2.2.2.2.2.2.2.1, (HR.out.2.2.1.trans HL.out.2.2.2).trans HZ.out.2.2.2⟩)
              · have Hfs : Hid (Srt key mid b y1) := by
                  show Srt key mid b y1
                  rcases (by omega : e ≤ mid ∨ b ≤ e) with h1 | h1
                  · have h2 : e = mid := by have := He.out.2.2.2; omega
                    have h3 := srt_out HL.out.2.1 (HR.out.2.2.2.2.2.2.1) (.inr (by omega))
                    rw [h2] at h3; exact h3
                  · have h2 : e = b := by have := He.out.2.1; omega
                    have h3 := srt_out HL.out.2.1 (HR.out.2.2.2.2.2.1) (.inr (Nat.le_refl _))
                    rw [h2] at h3; exact h3
                have Hfin : Hid (SortPost S a b key xs w (.returned (.tuple #[])) w8) := (show SortPost S a b key xs w (.returned (.tuple #[])) w8 from ⟨rfl, y1, HL.out.1, (HL.out.2.1.mono (Nat.le_refl _) (by omega)).trans HR.out.2.2.2.1, srt_fin HL.out.2.1 HL.out.2.2.1 (Mv.refl mid b _) Hfs.out HR.out.2.2.2.2.2.2.2.1, HR.out.2.2.1.trans HL.out.2.2.2⟩)
                by_cases hr1 : mid < e
                · have d3 : decide ((mid : Int) < (e : Int)) = true := decide_eq_true (by omega)
                  have d4 : decide ((e : Int) < (b : Int)) = false := decide_eq_false (by omega)
                  go_wp2_with fail
                  all_goals (go_end0; exact Hfin.out)
                · have d3 : decide ((mid : Int) < (e : Int)) = false := decide_eq_false (by omega)
                  go_wp2_with fail
                  all_goals (go_end0; exact Hfin.out)
            · have Hfs0 : Hid (Srt key a mid xs) := by
                show Srt key a mid xs
                rcases (by omega : i ≤ a ∨ mid ≤ i) with h1 | h1
                · have h2 : i = a := by omega
                  have h3 := HR.out.2.2.2.2.2.2.2.2
                  rw [h2] at h3; exact h3
                · have h2 : i = mid := by omega
                  have h3 := HR.out.2.2.2.2.1
                  rw [h2] at h3; exact h3
              have HL : Hid (RowT wk S xs ∧ Mv a mid xs xs ∧ Srt key a mid xs ∧ Keeps (fun k => k = S) wk wk) := (show RowT wk S xs ∧ Mv a mid xs xs ∧ Srt key a mid xs ∧ Keeps (fun k => k = S) wk wk from ⟨HR.out.1, Mv.refl _ _ _, Hfs0.out, Keeps.refl _ _⟩)
              by_cases hl1 : a < i
              · have d1 : decide ((a : Int) < (i : Int)) = true := decide_eq_true (by omega)
                have d2 : decide ((i : Int) < (mid : Int)) = false := decide_eq_false (by omega)
                by_cases hr : mid < e ∧ e < b
                · have d3 : decide ((mid : Int) < (e : Int)) = true := decide_eq_true (by omega)
                  have d4 : decide ((e : Int) < (b : Int)) = true := decide_eq_true (by omega)
                  go_wp2_with fail
                  all_goals
                    refine (Hih.out mid e b xs wk (by omega) hr.1 hr.2 hb HL.out.1 (HL.out.2.1.len.trans HR.out.2.1) (srt_out HL.out.2.1 (HR.out.2.2.2.2.2.1) (.inr (Nat.le_refl _))) (srt_out HL.out.2.1 (HR.out.2.2.2.2.2.2.1) (.inr (by have := He.out.2.2.2; omega))) ((Hk.out.trans HR.out.2.2.1).trans HL.out.2.2.2)).mono ?_
                    rintro e9 w9 ⟨rfl, zs, k1, k2, k3, k4⟩
                    have HZ := Lib.hid (And.intro k1 (And.intro k2 (And.intro k3 k4)))
                    clear k1 k2 k3 k4
                    go_wp2_with fail
                    all_goals (go_end0; exact ⟨rfl, zs, HZ.out.1, ((HZ.out.2.1.mono (by omega) (Nat.le_refl _)).trans (HL.out.2.1.mono (Nat.le_refl _) (by omega))).trans HR.out.2.2.2.1, srt_fin HL.out.2.1 HL.out.2.2.1 HZ.out.2.1 HZ.out.2.2.1 HR.out.2.2.2.2.2.2.2.1, (HR.out.2.2.1.trans HL.out.2.2.2).trans HZ.out.2.2.2⟩)
                · have Hfs : Hid (Srt key mid b xs) := by
                    show Srt key mid b xs
                    rcases (by omega : e ≤ mid ∨ b ≤ e) with h1 | h1
                    · have h2 : e = mid := by have := He.out.2.2.2; omega
                      have h3 := srt_out HL.out.2.1 (HR.out.2.2.2.2.2.2.1) (.inr (by omega))
                      rw [h2] at h3; exact h3
                    · have h2 : e = b := by have := He.out.2.1; omega
                      have h3 := srt_out HL.out.2.1 (HR.out.2.2.2.2.2.1) (.inr (Nat.le_refl _))
                      rw [h2] at h3; exact h3
                  have Hfin : Hid (SortPost S a b key xs w (.returned (.tuple #[])) wk) := (show SortPost S a b key xs w (.returned (.tuple #[])) wk from ⟨rfl, xs, HL.out.1, (HL.out.2.1.mono (Nat.le_refl _) (by omega)).trans HR.out.2.2.2.1, srt_fin HL.out.2.1 HL.out.2.2.1 (Mv.refl mid b _) Hfs.out HR.out.2.2.2.2.2.2.2.1, HR.out.2.2.1.trans HL.out.2.2.2⟩)
                  by_cases hr1 : mid < e
                  · have d3 : decide ((mid : Int) < (e : Int)) = true := decide_eq_true (by omega)
                    have d4 : decide ((e : Int) < (b : Int)) = false := decide_eq_false (by omega)
                    go_wp2_with fail
                    all_goals (go_end0; exact Hfin.out)
                  · have d3 : decide ((mid : Int) < (e : Int)) = false := decide_eq_false (by omega)
                    go_wp2_with fail
                    all_goals (go_end0; exact Hfin.out)
              · have d1 : decide ((a : Int) < (i : Int)) = false := decide_eq_false (by omega)
                by_cases hr : mid < e ∧ e < b
                · have d3 : decide ((mid : Int) < (e : Int)) = true := decide_eq_true (by omega)
                  have d4 : decide ((e : Int) < (b : Int)) = true := decide_eq_true (by omega)
                  go_wp2_with fail
                  all_goals
                    refine (Hih.out mid e b xs wk (by omega) hr.1 hr.2 hb HL.out.1 (HL.out.2.1.len.trans HR.out.2.1) (srt_out HL.out.2.1 (HR.out.2.2.2.2.2.1) (.inr (Nat.le_refl _))) (srt_out HL.out.2.1 (HR.out.2.2.2.2.2.2.1) (.inr (by have := He.out.2.2.2; omega))) ((Hk.out.trans HR.out.2.2.1).trans HL.out.2.2.2)).mono ?_
                    rintro e9 w9 ⟨rfl, zs, k1, k2, k3, k4⟩
                    have HZ := Lib.hid (And.intro k1 (And.intro k2 (And.intro k3 k4)))
                    clear k1 k2 k3 k4
                    go_wp2_with fail
                    all_goals (go_end0; exact ⟨rfl, zs, HZ.out.1, ((HZ.out.2.1.mono (by omega) (Nat.le_refl _)).trans (HL.out.2.1.mono (Nat.le_refl _) (by omega))).trans HR.out.2.2.2.1, srt_fin HL.out.2.1 HL.out.2.2.1 HZ.out.2.1 HZ.out.2.2.1 HR.out.2.2.2.2.2.2.2.1, (HR.out.2.2.1.trans HL.out.2.2.2).trans HZ.out.2.2.2⟩)
                · have Hfs : Hid (Srt key mid b xs) := by
                    show Srt key mid b xs
                    rcases (by omega : e ≤ mid ∨ b ≤ e) with h1 | h1
                    · have h2 : e = mid := by have := He.out.2.2.2; omega
                      have h3 := srt_out HL.out.2.1 (HR.out.2.2.2.2.2.2.1) (.inr (by omega))
                      rw [h2] at h3; exact h3
                    · have h2 : e = b := by have := He.out.2.1; omega
                      have h3 := srt_out HL.out.2.1 (HR.out.2.2.2.2.2.1) (.inr (Nat.le_refl _))
                      rw [h2] at h3; exact h3
                  have Hfin : Hid (SortPost S a b key xs w (.returned (.tuple #[])) wk) := (show SortPost S a b key xs w (.returned (.tuple #[])) wk from ⟨rfl, xs, HL.out.1, (HL.out.2.1.mono (Nat.le_refl _) (by omega)).trans HR.out.2.2.2.1, srt_fin HL.out.2.1 HL.out.2.2.1 (Mv.refl mid b _) Hfs.out HR.out.2.2.2.2.2.2.2.1, HR.out.2.2.1.trans HL.out.2.2.2⟩)
                  by_cases hr1 : mid < e
                  · have d3 : decide ((mid : Int) < (e : Int)) = true := decide_eq_true (by omega)
                    have d4 : decide ((e : Int) < (b : Int)) = false := decide_eq_false (by omega)
                    go_wp2_with fail
                    all_goals (go_end0; exact Hfin.out)
                  · have d3 : decide ((mid : Int) < (e : Int)) = false := decide_eq_false (by omega)
                    go_wp2_with fail
                    all_goals (go_end0; exact Hfin.out)
          · have d1 : decide ((i : Int) < (m : Int)) = false := decide_eq_false (by omega)
            by_cases hlr : a < i ∧ i < mid
            · have d1 : decide ((a : Int) < (i : Int)) = true := decide_eq_true (by omega)
              have d2 : decide ((i : Int) < (mid : Int)) = true := decide_eq_true (by omega)
              go_wp2_with fail
              refine (Hih.out a i mid xs wk (by omega) hlr.1 hlr.2 (by omega) HR.out.1 HR.out.2.1 HR.out.2.2.2.2.1 HR.out.2.2.2.2.2.2.2.2 (Hk.out.trans HR.out.2.2.1)).mono ?_
              rintro e9 w8 ⟨rfl, y1, k1, k2, k3, k4⟩
              have HL := Lib.hid (And.intro k1 (And.intro k2 (And.intro k3 k4)))
              clear k1 k2 k3 k4
              by_cases hr : mid < e ∧ e < b
              · have d3 : decide ((mid : Int) < (e : Int)) = true := decide_eq_true (by omega)
                have d4 : decide ((e : Int) < (b : Int)) = true := decide_eq_true (by omega)
                go_wp2_with fail
                all_goals
                  refine (Hih.out mid e b y1 w8 (by omega) hr.1 hr.2 hb HL.out.1 (HL.out.2.1.len.trans HR.out.2.1) (srt_out HL.out.2.1 (HR.out.2.2.2.2.2.1) (.inr (Nat.le_refl _))) (srt_out HL.out.2.1 (HR.out.2.2.2.2.2.2.1) (.inr (by have := He.out.2.2.2; omega))) ((Hk.out.trans HR.out.2.2.1).trans HL.out.2.2.2)).mono ?_
                  rintro e9 w9 ⟨rfl, zs, k1, k2, k3, k4⟩
                  have HZ := Lib.hid (And.intro k1 (And.intro k2 (And.intro k3 k4)))
                  clear k1 k2 k3 k4
                  go_wp2_with fail
                  all_goals (go_end0; exact ⟨rfl, zs, HZ.out.1, ((HZ.out.2.1.mono (by omega) (Nat.le_refl _)).trans (HL.out.2.1.mono (Nat.le_refl _) (by omega))).trans HR.out.2.2.2.1, srt_fin HL.out.2.1 HL.out.2.2.1 HZ.out.2.1 HZ.out.2.2.1 HR.out.2.2.2.2.2.2.2.1, (HR.out.2.2.1.trans HL.out.2.2.2).trans HZ.out.2.2.2⟩)
              · have Hfs : Hid (Srt key mid b y1) := by
                  show Srt key mid b y1
                  rcases (by omega : e ≤ mid ∨ b ≤ e) with h1 | h1
                  · have h2 : e = mid := by have := He.out.2.2.2; omega
                    have h3 := srt_out HL.out.2.1 (HR.out.2.2.2.2.2.2.1) (.inr (by omega))
                    rw [h2] at h3; exact h3
                  · have h2 : e = b := by have := He.out.2.1; omega
                    have h3 := srt_out HL.out.2.1 (HR.out.2.2.2.2.2.1) (.inr (Nat.le_refl _))
                    rw [h2] at h3; exact h3
                have Hfin : Hid (SortPost S a b key xs w (.returned (.tuple #[])) w8) := (show SortPost S a b key xs w (.returned (.tuple #[])) w8 from ⟨rfl, y1, HL.out.1, (HL.out.2.1.mono (Nat.le_refl _) (by omega)).trans HR.out.2.2.2.1, srt_fin HL.out.2.1 HL.out.2.2.1 (Mv.refl mid b _) Hfs.out HR.out.2.2.2.2.2.2.2.1, HR.out.2.2.1.trans HL.out.2.2.2⟩)
                by_cases hr1 : mid < e
                · have d3 : decide ((mid : Int) < (e : Int)) = true := decide_eq_true (by omega)
                  have d4 : decide ((e : Int) < (b : Int)) = false := decide_eq_false (by omega)
                  go_wp2_with fail
                  all_goals (go_end0; exact Hfin.out)
                · have d3 : decide ((mid : Int) < (e : Int)) = false := decide_eq_false (by omega)
                  go_wp2_with fail
                  all_goals (go_end0; exact Hfin.out)
            · have Hfs0 : Hid (Srt key a mid xs) := by
                show Srt key a mid xs
                rcases (by omega : i ≤ a ∨ mid ≤ i) with h1 | h1
                · have h2 : i = a := by omega
                  have h3 := HR.out.2.2.2.2.2.2.2.2
                  rw [h2] at h3; exact h3
                · have h2 : i = mid := by omega
                  have h3 := HR.out.2.2.2.2.1
                  rw [h2] at h3; exact h3
              have HL : Hid (RowT wk S xs ∧ Mv a mid xs xs ∧ Srt key a mid xs ∧ Keeps (fun k => k = S) wk wk) := (show RowT wk S xs ∧ Mv a mid xs xs ∧ Srt key a mid xs ∧ Keeps (fun k => k = S) wk wk from ⟨HR.out.1, Mv.refl _ _ _, Hfs0.out, Keeps.refl _ _⟩)
              by_cases hl1 : a < i
              · have d1 : decide ((a : Int) < (i : Int)) = true := decide_eq_true (by omega)
                have d2 : decide ((i : Int) < (mid : Int)) = false := decide_eq_false (by omega)
                by_cases hr : mid < e ∧ e < b
                · have d3 : decide ((mid : Int) < (e : Int)) = true := decide_eq_true (by omega)
                  have d4 : decide ((e : Int) < (b : Int)) = true := decide_eq_true (by omega)
                  go_wp2_with fail
                  all_goals
                    refine (Hih.out mid e b xs wk (by omega) hr.1 hr.2 hb HL.out.1 (HL.out.2.1.len.trans HR.out.2.1) (srt_out HL.out.2.1 (HR.out.2.2.2.2.2.1) (.inr (Nat.le_refl _))) (srt_out HL.out.2.1 (HR.out.2.2.2.2.2.2.1) (.inr (by have := He.out.2.2.2; omega))) ((Hk.out.trans HR.out.2.2.1).trans HL.out.2.2.2)).mono ?_
                    rintro e9 w9 ⟨rfl, zs, k1, k2, k3, k4⟩
                    have HZ := Lib.hid (And.intro k1 (And.intro k2 (And.intro k3 k4)))
                    clear k1 k2 k3 k4
                    go_wp2_with fail
                    all_goals (go_end0; exact ⟨rfl, zs, HZ.out.1, ((HZ.out.2.1.mono (by omega) (Nat.le_refl _)).trans (HL.out.2.1.mono (Nat.le_refl _) (by omega))).trans HR.out.2.2.2.1, srt_fin HL.out.2.1 HL.out.2.2.1 HZ.out.2.1 HZ.out.2.2.1 HR.out.2.2.2.2.2.2.2.1, (HR.out.2.2.1.trans HL.out.2.2.2).trans HZ.out.2.2.2⟩)
                · have Hfs : Hid (Srt key mid b xs) := by
                    show Srt key mid b xs
                    rcases (by omega : e ≤ mid ∨ b ≤ e) with h1 | h1
                    · have h2 : e = mid := by have := He.out.2.2.2; omega
                      have h3 := srt_out HL.out.2.1 (HR.out.2.2.2.2.2.2.1) (.inr (by omega))
                      rw [h2] at h3; exact h3
                    · have h2 : e = b := by have := He.out.2.1; omega
                      have h3 := srt_out HL.out.2.1 (HR.out.2.2.2.2.2.1) (.inr (Nat.le_refl _))
                      rw [h2] at h3; exact h3
                  have Hfin : Hid (SortPost S a b key xs w (.returned (.tuple #[])) wk) := (show SortPost S a b key xs w (.returned (.tuple #[])) wk from ⟨rfl, xs, HL.out.1, (HL.out.2.1.mono (Nat.le_refl _) (by omega)).trans HR.out.2.2.2.1, srt_fin HL.out.2.1 HL.out.2.2.1 (Mv.refl mid b _) Hfs.out HR.out.2.2.2.2.2.2.2.1, HR.out.2.2.1.trans HL.out.2.2.2⟩)
                  by_cases hr1 : mid < e
                  · have d3 : decide ((mid : Int) < (e : Int)) = true := decide_eq_true (by omega)
                    have d4 : decide ((e : Int) < (b : Int)) = false := decide_eq_false (by omega)
                    go_wp2_with fail
                    all_goals (go_end0; exact Hfin.out)
                  · have d3 : decide ((mid : Int) < (e : Int)) = false := decide_eq_false (by omega)
                    go_wp2_with fail
                    all_goals (go_end0; exact Hfin.out)
              · have d1 : decide ((a : Int) < (i : Int)) = false := decide_eq_false (by omega)
                by_cases hr : mid < e ∧ e < b
                · have d3 : decide ((mid : Int) < (e : Int)) = true := decide_eq_true (by omega)
                  have d4 : decide ((e : Int) < (b : Int)) = true := decide_eq_true (by omega)
                  go_wp2_with fail
                  all_goals
                    refine (Hih.out mid e b xs wk (by omega) hr.1 hr.2 hb HL.out.1 (HL.out.2.1.len.trans HR.out.2.1) (srt_out HL.out.2.1 (HR.out.2.2.2.2.2.1) (.inr (Nat.le_refl _))) (srt_out HL.out.2.1 (HR.out.2.2.2.2.2.2.1) (.inr (by have := He.out.2.2.2; omega))) ((Hk.out.trans HR.out.2.2.1).trans HL.out.2.2.2)).mono ?_
                    rintro e9 w9 ⟨rfl, zs, k1, k2, k3, k4⟩
                    have HZ := Lib.hid (And.intro k1 (And.intro k2 (And.intro k3 k4)))
                    clear k1 k2 k3 k4
                    go_wp2_with fail
                    all_goals (go_end0; exact ⟨rfl, zs, HZ.out.1, ((HZ.out.2.1.mono (by omega) (Nat.le_refl _)).trans (HL.out.2.1.mono (Nat.le_refl _) (by omega))).trans HR.out.2.2.2.1, srt_fin HL.out.2.1 HL.out.2.2.1 HZ.out.2.1 HZ.out.2.2.1 HR.out.2.2.2.2.2.2.2.1, (HR.out.2.2.1.trans HL.out.2.2.2).trans HZ.out.2.2.2⟩)
                · have Hfs : Hid (Srt key mid b xs) := by
                    show Srt key mid b xs
                    rcases (by omega : e ≤ mid ∨ b ≤ e) with h1 | h1
                    · have h2 : e = mid := by have := He.out.2.2.2; omega
                      have h3 := srt_out HL.out.2.1 (HR.out.2.2.2.2.2.2.1) (.inr (by omega))
                      rw [h2] at h3; exact h3
                    · have h2 : e = b := by have := He.out.2.1; omega
                      have h3 := srt_out HL.out.2.1 (HR.out.2.2.2.2.2.1) (.inr (Nat.le_refl _))
                      rw [h2] at h3; exact h3
                  have Hfin : Hid (SortPost S a b key xs w (.returned (.tuple #[])) wk) := (show SortPost S a b key xs w (.returned (.tuple #[])) wk from ⟨rfl, xs, HL.out.1, (HL.out.2.1.mono (Nat.le_refl _) (by omega)).trans HR.out.2.2.2.1, srt_fin HL.out.2.1 HL.out.2.2.1 (Mv.refl mid b _) Hfs.out HR.out.2.2.2.2.2.2.2.1, HR.out.2.2.1.trans HL.out.2.2.2⟩)
                  by_cases hr1 : mid < e
                  · have d3 : decide ((mid : Int) < (e : Int)) = true := decide_eq_true (by omega)
                    have d4 : decide ((e : Int) < (b : Int)) = false := decide_eq_false (by omega)
                    go_wp2_with fail
                    all_goals (go_end0; exact Hfin.out)
                  · have d3 : decide ((mid : Int) < (e : Int)) = false := decide_eq_false (by omega)
                    go_wp2_with fail
                    all_goals (go_end0; exact Hfin.out)
theorem sym114 (S n cap g : Nat) (cb : Array Value) (key : Tn → Int) (w0 : World) (hn : n ≤ 1000000) (hcmp : CmpOK g cb key S w0) (eg : ∀ args w, (callFunc g args).run Try.prog w = .ok (.enter g args) w) (N : Nat) : SymHyp S n cap g cb key w0 N := by
  induction N with
  | zero => intro a m b xs w hN ham hmb; omega
  | succ N ih => exact sym_step S n cap g cb key w0 N hn hcmp eg ih
end Go.Proofs.Ytdfdlklglbefiaa
