/- Stage 3: hear, CheckScale and Met. -/
import Derived.Test.YtdfdlklglbefiaaLay
namespace Go.Proofs.Ytdfdlklglbefiaa
set_option linter.unusedSimpArgs false
set_option linter.unusedVariables false
open Go.RowKit Go.Shelf

/-- The error of a song and a scale. -/
def isSc (zs : List Rg) (st : List Int) : Int := if chkS zs ≠ 0 then chkS zs else if 24 < st.length then 6 else if withI 0 10000 st = false then 3 else if risB st = false then 16 else 0
theorem isSc_zero {zs : List Rg} {st : List Int} : isSc zs st = 0 ↔ chkS zs = 0 ∧ st.length ≤ 24 ∧ withI 0 10000 st = true ∧ risB st = true := by
  unfold isSc
  by_cases h1 : chkS zs = 0
  · rw [if_neg (by simpa using h1)]
    by_cases h2 : 24 < st.length
    · rw [if_pos h2]; constructor
      · intro h; cases h
      · intro h; omega
    · rw [if_neg h2]
      cases h3 : withI 0 10000 st
      · simp
      · cases h4 : risB st
        · simp
        · simp [h1]; omega
  · rw [if_pos h1]
    constructor
    · intro h; exact absurd h h1
    · intro h; exact absurd h.1 h1
/-- The marks of a scale. -/
def metS (zs : List Rg) (st : List Int) : Nat → Bool := fun j => decide (j < zs.length) && meets st (gAt zs j)
theorem metS_nil (zs : List Rg) : metS zs [] = fun _ => false := by funext j; simp [metS, meets]
theorem metS_snoc (zs : List Rg) (pre : List Int) (x : Int) : metK zs (metS zs pre) x zs.length = metS zs (pre ++ [x]) := by
  funext j
  unfold metK metS meets
  rw [List.any_append]
  cases hd : decide (j < zs.length) <;> simp [hd]
theorem metS_take (zs : List Rg) (st : List Int) (k : Nat) (h : k < st.length) : metK zs (metS zs (st.take k)) (iAt st k) zs.length = metS zs (st.take (k + 1)) := by
  rw [metS_snoc, List.take_succ_eq_append_getElem h, iAt_eq h]

/-- What hear hands back. -/
def HearPost (zs : List Rg) (st : List Int) (n : Nat) (w : World) (e : Ending) (w' : World) : Prop :=
  Below w.heap.size w w' ∧ ((isSc zs st = 0 ∧ ∃ B C cp, e = .returned (.tuple #[.pointer (some ⟨B, 0, none⟩), .int .i64 0]) ∧ Bd w' B C n cp zs (metS zs st) ∧ w.heap.size ≤ B) ∨
    (isSc zs st ≠ 0 ∧ e = .returned (.tuple #[.pointer none, .int .i64 (isSc zs st)])))
set_option maxRecDepth 100000 in
set_option maxHeartbeats 4000000 in
theorem hear40 (A : Option Addr) (n cap : Nat) (zs : List Rg) (A2 : Option Addr) (m cap2 : Nat) (st : List Int) (w : World) (h : Rgs w A n zs) (hs : Ints w A2 m st) :
    Calls Try.prog 40 #[.slice A n cap, .slice A2 m cap2] w (HearPost zs st n w) := by
  have Hm := Lib.hid hs.1
  have hs0 := Lib.hid hs
  have Hn := Lib.hid h.1
  go_enter Try.func40, Try.ntmps40
  go_wp2_with fail
  refine (lay46 A n cap zs w h).mono ?_
  rintro e w2 ⟨hb, ⟨h0, B, C, cp, rfl, hB, hC, hd⟩ | ⟨h0, rfl⟩⟩
  · have hs2 := hs.below hb (Nat.le_refl _)
    have Hd := Lib.hid hd
    have Hb := Lib.hid hb
    have Hs := Lib.hid hs2
    have HBs := Lib.hid hB
    have H0 := Lib.hid h0
    clear h hs hb hd hC hB hs2 h0
    by_cases hl : 24 < m
    · have d1 : decide ((24 : Int) < (m : Int)) = true := decide_eq_true (by omega)
      have d2 : (24 : Int) < (m : Int) := by omega
      have Hl := Lib.hid hl
      clear hl
      go_wp2_with fail
      refine bodyPost_ret (v := .tuple #[.pointer none, .int .i64 6]) (by simp [results, Try.results40, go_sem]) rfl ?_
      have e6 : isSc zs st = 6 := by unfold isSc; rw [if_neg (by simpa using H0.out), if_pos (by have := Hl.out; have := Hm.out; omega)]
      exact ⟨Hb.out, .inr ⟨by rw [e6]; decide, by rw [e6]⟩⟩
    · have d1 : decide ((24 : Int) < (m : Int)) = false := decide_eq_false (by omega)
      have d2 : ¬ (24 : Int) < (m : Int) := by omega
      have Hl := Lib.hid hl
      go_wp2_with fail
      refine (within60 A2 m cap2 st 0 10000 _ Hs.out (by omega)).mono ?_
      rintro e w3 ⟨rfl, rfl⟩
      cases hw : withI 0 10000 st with
      | false =>
        have Hw := Lib.hid hw
        clear hw d1 d2 hl
        go_wp2_with fail
        refine bodyPost_ret (v := .tuple #[.pointer none, .int .i64 3]) (by simp [results, Try.results40, go_sem]) rfl ?_
        have e3 : isSc zs st = 3 := by unfold isSc; rw [if_neg (by simpa using H0.out), if_neg (by have := Hl.out; have := Hm.out; omega), if_pos Hw.out]
        exact ⟨Hb.out, .inr ⟨by rw [e3]; decide, by rw [e3]⟩⟩
      | true =>
        have Hw := Lib.hid hw
        clear hw d1 d2
        go_wp2_with fail
        refine (rising61 A2 m cap2 st _ Hs.out (by omega)).mono ?_
        rintro e w4 ⟨rfl, hb4⟩
        have Hb4 := Lib.hid (Hb.out.trans (hb4.mono Hb.out.size))
        have Hs4 := Lib.hid (Hs.out.below hb4 (Nat.le_refl _))
        have Hd4 := Lib.hid (Hd.out.below hb4 (Nat.le_refl _))
        clear hb4
        cases hr : risB st with
        | false =>
          have Hr := Lib.hid hr
          clear hr
          go_wp2_with fail
          refine bodyPost_ret (v := .tuple #[.pointer none, .int .i64 16]) (by simp [results, Try.results40, go_sem]) rfl ?_
          have e16 : isSc zs st = 16 := by unfold isSc; rw [if_neg (by simpa using H0.out), if_neg (by have := Hl.out; have := Hm.out; omega), if_neg (by rw [Hw.out]; decide), if_pos Hr.out]
          exact ⟨Hb4.out, .inr ⟨by rw [e16]; decide, by rw [e16]⟩⟩
        | true =>
          have HZ := Lib.hid (isSc_zero.2 ⟨H0.out, by have := Hm.out; omega, Hw.out, hr⟩)
          have Hn24 := Lib.hid (show n ≤ 24 by have := (chkS_zero.1 H0.out).2.1; have := Hn.out; omega)
          clear hr Hs Hd Hb
          go_wp2_with fail
          go_loopw [29] (fun i wr => ∃ k : Nat, k ≤ m ∧ i = .int .i64 (k : Int) ∧ Bd wr B C n cp zs (metS zs (st.take k)) ∧ Keeps (fun j => j = B) w4 wr) (fun i _ => m - (intOf i).toNat)
          case atStart => exact ⟨0, Nat.zero_le _, rfl, by rw [List.take_zero, metS_nil]; exact Hd4.out, Keeps.refl _ _⟩
          case round =>
            obtain ⟨k, hk, rfl, hbd, hK⟩ := hrel
            obtain ⟨wk, rfl⟩ : ∃ wk, wk = wr := ⟨_, rfl⟩
            have Hbd := Lib.hid hbd
            have HK := Lib.hid hK
            by_cases hlt : k < m
            · have Htk := Lib.hid (metS_take zs st k (by have := Hm.out; omega))
              have hs5 : ∃ (b o : Nat), A2 = some ⟨b, o, none⟩ ∧ wk.cell? ⟨b, o + k, none⟩ = some (.int .i64 (iAt st k)) := by
                obtain ⟨b, o, e, hc⟩ := Hs4.out.2 (by omega)
                refine ⟨b, o, e, ?_⟩
                have h1 := hc k hlt
                have hbB : b ≠ B := fun e2 => by
                  obtain ⟨b', o', e', hc'⟩ := hs0.out.2 (by omega)
                  rw [e] at e'; cases e'
                  have := lt_of_cell (hc' 0 (by omega)); have := HBs.out; omega
                rw [keep_cells HK.out (lt_of_cell h1) hbB]; exact h1
              obtain ⟨b, o, rfl, c0⟩ := hs5
              obtain ⟨x, hx⟩ : ∃ x, iAt st k = x := ⟨_, rfl⟩
              rw [hx] at c0 Htk
              have i0 : (0 : Int) ≤ (k : Int) := by omega
              have i1 : (k : Int) < (m : Int) := by omega
              clear hx hbd hK
              go_wp2_with fail
              refine (meet62 B C n cp zs _ x wk Hbd.out Hn24.out).mono ?_
              rintro e w6 ⟨rfl, hb6, hk6⟩
              have Hb6 := Lib.hid (show Bd w6 B C n cp zs (metS zs (st.take (k + 1))) by rw [← Htk.out, Hn.out]; exact hb6)
              have HK6 := Lib.hid (HK.out.trans hk6)
              clear hb6 hk6 c0
              go_wp2_with fail
              go_roundw
              case rel => exact ⟨k + 1, by omega, by go_num, Hb6.out, HK6.out⟩
              case measure => simp [intOf]; omega
            · have e : k = m := by omega
              subst e
              clear hbd hK
              go_wp2_with fail
              refine bodyPost_ret (v := .tuple #[.pointer (some ⟨B, 0, none⟩), .int .i64 0]) (by simp [results, Try.results40, go_sem]) rfl ?_
              have hfin := Hbd.out
              rw [List.take_of_length_le (by have := Hm.out; omega)] at hfin
              exact ⟨Hb4.out.trans (HK.out.below Hb4.out.size (fun j hj e => by have := HBs.out; omega)), .inl ⟨HZ.out, B, C, cp, rfl, hfin, HBs.out⟩⟩
  · have e0 : isSc zs st = chkS zs := by unfold isSc; rw [if_pos h0]
    obtain ⟨c, hc⟩ : ∃ c, chkS zs = c := ⟨_, rfl⟩
    rw [hc] at h0 e0 ⊢
    have d0 : (c != 0) = true := by rw [bne_iff_ne]; exact h0
    have H0 := Lib.hid h0
    have Hb := Lib.hid hb
    clear h0 hb h hs
    go_wp2_with fail
    refine bodyPost_ret (v := .tuple #[.pointer none, .int .i64 c]) (by simp [results, Try.results40, go_sem]) rfl ?_
    exact ⟨Hb.out, .inr ⟨by rw [e0]; exact H0.out, by rw [e0]⟩⟩
end Go.Proofs.Ytdfdlklglbefiaa
