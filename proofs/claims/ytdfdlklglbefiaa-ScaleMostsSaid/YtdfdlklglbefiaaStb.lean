/- Stage 3: the stable sort of tones. -/
import Derived.Test.YtdfdlklglbefiaaSym3
namespace Go.Proofs.Ytdfdlklglbefiaa
set_option linter.unusedSimpArgs false
set_option linter.unusedVariables false
open Go.RowKit Go.Shelf

theorem Keeps.cmp {S g : Nat} {cb : Array Value} {key : Tn → Int} {w0 w : World} (h : CmpOK g cb key S w0) (hK : Keeps (fun k => k = S) w0 w) : CmpOK g cb key S w := fun W x y hW => h W x y (hK.trans hW)

set_option maxRecDepth 100000 in
set_option maxHeartbeats 8000000 in
theorem stable102 (S n cap g : Nat) (cb : Array Value) (key : Tn → Int) (xs : List Tn) (w : World) (hrow : RowT w S xs) (hl : xs.length = n) (hn : n ≤ 39) (hcmp : CmpOK g cb key S w) (eg : ∀ args w, (callFunc g args).run Try.prog w = .ok (.enter g args) w) :
    Calls Try.prog 102 #[.slice (some ⟨S, 0, none⟩) n cap, .int .i64 (n : Int), .func (.func g) #[] cb] w (SortPost S 0 n key xs w) := by
  have Hcmp := Lib.hid hcmp
  have Hrow := Lib.hid hrow
  have Hl := Lib.hid hl
  clear hcmp hrow hl
  by_cases h20 : n < 20
  · have d1 : decide ((20 : Int) ≤ (n : Int)) = false := decide_eq_false (by omega)
    have d2 : decide ((20 : Int) < (n : Int)) = false := decide_eq_false (by omega)
    go_enter Try.func102, Try.ntmps102
    go_wp2_with fail
    go_loopw [7, 8] (fun u v wr => u = .int .i64 0 ∧ v = .int .i64 20 ∧ wr = w) (fun _ _ _ => 0)
    case atStart => exact ⟨rfl, rfl, rfl⟩
    case round =>
      obtain ⟨rfl, rfl, rfl⟩ := hrel
      go_wp2_with fail
      refine (ins113 S n cap 0 n g cb key xs _ Hrow.out Hl.out (by omega) (by omega) (Nat.le_refl _) Hcmp.out eg).mono ?_
      rintro e w2 hp
      have HP := Lib.hid hp
      obtain ⟨rfl, -⟩ := hp
      go_wp2_with fail
      go_loopw [6] (fun u wr => u = .int .i64 20 ∧ wr = w2) (fun _ _ => 0)
      case atStart => exact ⟨rfl, rfl⟩
      case round =>
        obtain ⟨rfl, rfl⟩ := hrel
        go_wp2_with fail
        go_end0
        exact HP.out
  · have d1 : decide ((20 : Int) ≤ (n : Int)) = true := decide_eq_true (by omega)
    have d2 : decide ((40 : Int) ≤ (n : Int)) = false := decide_eq_false (by omega)
    have d4 : decide ((40 : Int) < (n : Int)) = false := decide_eq_false (by omega)
    go_enter Try.func102, Try.ntmps102
    go_wp2_with fail
    go_loopw [7, 8] (fun u v wr => (u = .int .i64 0 ∧ v = .int .i64 20 ∧ wr = w) ∨ (u = .int .i64 20 ∧ v = .int .i64 40 ∧ Hid (∃ ys, RowT wr S ys ∧ Mv 0 20 ys xs ∧ Srt key 0 20 ys ∧ Keeps (fun k => k = S) w wr))) (fun u _ _ => 40 - (intOf u).toNat)
    case atStart => exact .inl ⟨rfl, rfl, rfl⟩
    case round =>
      rcases hrel with ⟨rfl, rfl, rfl⟩ | ⟨rfl, rfl, HI⟩
      · go_wp2_with fail
        refine (ins113 S n cap 0 20 g cb key xs _ Hrow.out Hl.out (by omega) (by omega) (by omega) Hcmp.out eg).mono ?_
        rintro e w2 hp
        have HP := Lib.hid hp.2
        obtain ⟨rfl, -⟩ := hp
        go_wp2_with fail
        go_roundw
        case rel => exact .inr ⟨rfl, rfl, HP⟩
        case measure => simp [intOf]
      · obtain ⟨wk, rfl⟩ : ∃ wk, wk = wr := ⟨_, rfl⟩
        obtain ⟨ys, hI⟩ := HI.out
        have HI2 := Lib.hid hI
        clear hI
        go_wp2_with fail
        refine (ins113 S n cap 20 n g cb key ys _ HI2.out.1 (HI2.out.2.1.len.trans Hl.out) (by omega) (by omega) (Nat.le_refl _) (Keeps.cmp Hcmp.out HI2.out.2.2.2) eg).mono ?_
        rintro e w2 hp
        have HP := Lib.hid hp.2
        obtain ⟨rfl, -⟩ := hp
        obtain ⟨zs, hz⟩ := HP.out
        have HZ := Lib.hid hz
        clear hz
        have Hk2 : Hid (Keeps (fun k => k = S) w w2) := HI2.out.2.2.2.trans HZ.out.2.2.2
        have Hmv : Hid (Mv 0 n zs xs) := (HZ.out.2.1.mono (by omega) (Nat.le_refl _)).trans (HI2.out.2.1.mono (Nat.le_refl _) (by omega))
        have Hs1 : Hid (Srt key 0 20 zs) := srt_out HZ.out.2.1 HI2.out.2.2.1 (.inl (Nat.le_refl _))
        by_cases h21 : 20 < n
        · have d3 : decide ((20 : Int) < (n : Int)) = true := decide_eq_true (by omega)
          go_wp2_with fail
          go_loopw [6] (fun u wr => (u = .int .i64 20 ∧ wr = w2) ∨ (u = .int .i64 40 ∧ Hid (SortPost S 0 n key xs w (.returned (.tuple #[])) wr))) (fun u _ => 40 - (intOf u).toNat)
          case atStart => exact .inl ⟨rfl, rfl⟩
          case round =>
            rcases hrel with ⟨rfl, hw⟩ | ⟨rfl, HF⟩
            · obtain rfl : w2 = wr := hw.symm
              go_wp2_with fail
              go_loopw [7, 8] (fun u v wr => u = .int .i64 0 ∧ v = .int .i64 40 ∧ wr = w2) (fun _ _ _ => 0)
              case atStart => exact ⟨rfl, rfl, rfl⟩
              case round =>
                obtain ⟨rfl, rfl, rfl⟩ := hrel
                go_wp2_with fail
                refine (sym114 S n cap g cb key w (by omega) Hcmp.out eg n 0 20 n zs _ (by omega) (by omega) h21 (Nat.le_refl _) HZ.out.1 (HZ.out.2.1.len.trans (HI2.out.2.1.len.trans Hl.out)) Hs1.out HZ.out.2.2.1 Hk2.out).mono ?_
                rintro e w3 hp
                have HQ : Hid (SortPost S 0 n key xs w (.returned (.tuple #[])) w3) := by
                  obtain ⟨-, y3, k1, k2, k3, k4⟩ := hp
                  exact ⟨rfl, y3, k1, k2.trans Hmv.out, k3, Hk2.out.trans k4⟩
                obtain ⟨rfl, -⟩ := hp
                go_wp2_with fail
                go_roundw
                case rel => exact .inr ⟨rfl, HQ⟩
                case measure => simp [intOf]
            · go_wp2_with fail
              go_end0
              exact HF.out
        · have d3 : decide ((20 : Int) < (n : Int)) = false := decide_eq_false (by omega)
          have HQ : Hid (SortPost S 0 n key xs w (.returned (.tuple #[])) w2) := by
            have e : n = 20 := by omega
            exact ⟨rfl, zs, HZ.out.1, Hmv.out, by rw [e]; exact Hs1.out, Hk2.out⟩
          go_wp2_with fail
          go_loopw [6] (fun u wr => u = .int .i64 20 ∧ wr = w2) (fun _ _ => 0)
          case atStart => exact ⟨rfl, rfl⟩
          case round =>
            obtain ⟨rfl, rfl⟩ := hrel
            go_wp2_with fail
            go_end0
            exact HQ.out

set_option maxRecDepth 100000 in
set_option maxHeartbeats 8000000 in
theorem sort77 (S n cap g : Nat) (cb : Array Value) (key : Tn → Int) (xs : List Tn) (w : World) (hrow : RowT w S xs) (hl : xs.length = n) (hn : n ≤ 39) (hcmp : CmpOK g cb key S w) (eg : ∀ args w, (callFunc g args).run Try.prog w = .ok (.enter g args) w) :
    Calls Try.prog 77 #[.slice (some ⟨S, 0, none⟩) n cap, .func (.func g) #[] cb] w (SortPost S 0 n key xs w) := by
  have Hcmp := Lib.hid hcmp
  have Hrow := Lib.hid hrow
  have Hl := Lib.hid hl
  clear hcmp hrow hl
  go_enter Try.func77, Try.ntmps77
  go_wp2_with fail
  refine (stable102 S n cap g cb key xs w Hrow.out Hl.out hn Hcmp.out eg).mono ?_
  rintro e w2 hp
  have HP := Lib.hid hp
  obtain ⟨rfl, -⟩ := hp
  go_wp2_with fail
  go_end0
  exact HP.out
end Go.Proofs.Ytdfdlklglbefiaa
