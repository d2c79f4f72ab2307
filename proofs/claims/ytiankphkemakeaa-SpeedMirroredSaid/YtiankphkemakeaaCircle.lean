/- The contract of circle: a circle of the rules by which turns came. -/
import Derived.Test.YtiankphkemakeaaBack
import Derived.WalkMore
import Derived.Deep.LoopGhost
namespace Go.Proofs.Ytiankphkemakeaa
set_option linter.unusedSimpArgs false
set_option linter.unusedVariables false
open Go.RowKit Go.Shelf

theorem backFrom_names (N : Nat) (ws : List R) : ∀ (f : Nat) (c : List Int) (t : Nat) (acc : List Int), CameOk N c → (∀ x ∈ acc, 0 ≤ x ∧ x < (N : Int)) → CameOk N (backFrom ws f c t acc).2 ∧ ∀ x ∈ (backFrom ws f c t acc).1, 0 ≤ x ∧ x < (N : Int)
  | 0, c, t, acc, h, ha => ⟨h, ha⟩
  | f + 1, c, t, acc, h, ha => by
    unfold backFrom
    split
    · exact ⟨h, ha⟩
    · rename_i hn
      refine backFrom_names N ws f _ _ _ (h.set t) (fun x hx => ?_)
      rcases List.mem_cons.1 hx with rfl | hx
      · exact ⟨by omega, h.2 t⟩
      · exact ha x hx
theorem back_names {N : Nat} {ws : List R} {c : List Int} {t : Nat} (h : CameOk N c) : CameOk N (back ws c t).2 ∧ ∀ x ∈ (back ws c t).1, 0 ≤ x ∧ x < (N : Int) :=
  backFrom_names N ws 22 c t [] h (fun x hx => by simp at hx)
theorem backFrom_len (ws : List R) : ∀ (f : Nat) (c : List Int) (t : Nat) (acc : List Int), (backFrom ws f c t acc).1.length ≤ f + acc.length
  | 0, c, t, acc => by simp [backFrom]
  | f + 1, c, t, acc => by
    unfold backFrom
    split
    · simp
    · have := backFrom_len ws f (c.set t (-1)) (rf ws (nth c t).toNat).toNat (nth c t :: acc)
      simp only [List.length_cons] at this
      omega

theorem nth_mem {c : List Int} {k : Nat} (h : k < c.length) : nth c k ∈ c := by
  rw [show nth c k = c[k] by simp [nth, List.getD, h]]
  exact List.getElem_mem h
/-- Where a way closes. -/
def closes (ws : List R) (way : List Int) : Option Nat := (List.range way.length).find? fun i => decide (rt ws (nth way i).toNat = rf ws (nth way 0).toNat)
def circleFrom (ws : List R) : Nat → Nat → List Int → List Int
  | 0, _, _ => []
  | k + 1, t, c => match closes ws (back ws c t).1 with
    | some i => (back ws c t).1.take (i + 1)
    | none => circleFrom ws k (t + 1) (back ws c t).2
def circleOf (ws : List R) (T : Nat) (c : List Int) : List Int := circleFrom ws (T + 1) 0 c

theorem closes_none {ws : List R} {way : List Int} (h : ∀ j, j < way.length → rt ws (nth way j).toNat ≠ rf ws (nth way 0).toNat) : closes ws way = none := by
  unfold closes
  rw [List.find?_eq_none]
  intro x hx
  simpa using h x (by simpa using hx)
theorem closes_some {ws : List R} {way : List Int} {k : Nat} (hk : k < way.length) (h : ∀ j, j < k → rt ws (nth way j).toNat ≠ rf ws (nth way 0).toNat) (he : rt ws (nth way k).toNat = rf ws (nth way 0).toNat) : closes ws way = some k := by
  unfold closes
  rw [show way.length = k + 1 + (way.length - k - 1) by omega, List.range_add, List.find?_append, List.range_succ, List.find?_append]
  have h1 : (List.range k).find? (fun i => decide (rt ws (nth way i).toNat = rf ws (nth way 0).toNat)) = none := by
    rw [List.find?_eq_none]
    intro x hx
    simpa using h x (by simpa using hx)
  rw [h1]
  simp [he]

theorem cell_not_map {w : World} {M nn b o : Nat} {c : List Int} {v : Value} (hc : CameAt w M c nn) (h : w.cell? ⟨b, o, none⟩ = some v) : b ≠ M := by
  obtain ⟨D0, ⟨es, ck, hm, _⟩, _⟩ := hc
  rintro rfl
  simp [World.cell?, hm] at h
theorem Rules.grown {w w' : World} {A : Option Addr} {n M : Nat} {rs : List R} (h : Rules w A n rs) (hM : ∀ b o v, w.cell? ⟨b, o, none⟩ = some v → b ≠ M) (hg : w.grownBy w' (some M)) : Rules w' A n rs := by
  refine ⟨h.1, fun hn => ?_⟩
  obtain ⟨b, o, e, hc⟩ := h.2 hn
  have hl := lt_of_cell (hc 0 hn).1
  have hb := hM _ _ _ (hc 0 hn).1
  have hblk := hg.block b hl (fun e => hb (by injection e))
  exact ⟨b, o, e, fun j hj => ⟨(World.cell?_of_block (w := w) hblk).trans (hc j hj).1, (World.cell?_of_block (w := w) hblk).trans (hc j hj).2.1, (World.cell?_of_block (w := w) hblk).trans (hc j hj).2.2⟩⟩

set_option maxRecDepth 100000 in
set_option maxHeartbeats 2000000 in
theorem circle66 (T : Nat) (A A' : Option Addr) (n cap N cap' M nn : Nat) (ws : List R) (c0 : List Int) (w : World) (hr : Rules w A' N ws) (hT : T ≤ 20) (hN : N ≤ 1000) (hfit : ∀ r ∈ ws, FitR r)
    (hc : CameAt w M c0 nn) (hok : CameOk N c0) :
    Calls Try.prog 66 #[.agg #[.int .i64 (T : Int), .slice A n cap, .slice A' N cap'], .map (some M)] w fun e w' =>
      ∃ C k capk, e = .returned (.slice C k capk) ∧ Ints w' C k (circleOf ws T c0) ∧ w.grownBy w' (some M) := by
  have Hr := Lib.hid hr
  have Hfit := Lib.hid hfit
  have Hc := Lib.hid hc
  have Hok := Lib.hid hok
  clear hr hfit hc hok
  go_enter Try.func66, Try.ntmps66
  go_wp2_with fail
  go_step3
  go_wp2_with fail
  go_step3
  go_wp2_with fail
  obtain ⟨W0, hW0⟩ : ∃ W0, w.alloc (.cells #[.int .i64 (T : Int), .slice A n cap, .slice A' N cap'] 79) = W0 := ⟨_, rfl⟩
  have HB0 := Lib.hid (show Below w.heap.size w W0 by rw [← hW0]; exact (Below.refl _ _).alloc (Nat.le_refl _) _)
  have Hb := Lib.hid (show Box79 W0 w.heap.size T A n cap A' N cap' by rw [← hW0]; refine ⟨?_, ?_, ?_⟩ <;> (rw [World.cell?_alloc_new]; rfl))
  have Hs0 := Lib.hid (show W0.heap.size = w.heap.size + 1 by rw [← hW0]; simp)
  have Hc0 := Lib.hid (Hc.out.kept (grown_of_below HB0.out) (by simp))
  have Hr0 := Lib.hid (Hr.out.below HB0.out (Nat.le_refl _))
  rw [hW0]
  clear hW0
  go_loopg [5, 14] (T + 1) (fun g v5 v wr => ∃ (t : Nat) (c : List Int), t + g = T + 1 ∧ v5 = .slice none 0 0 ∧ v = .int .i64 (t : Int) ∧ circleOf ws T c0 = circleFrom ws g t c ∧ CameOk N c ∧ CameAt wr M c nn ∧ W0.grownBy wr (some M))
  case atStart => exact ⟨0, c0, by omega, rfl, rfl, rfl, Hok.out, Hc0.out, World.grownBy.refl _ _⟩
  case round =>
    obtain ⟨t, c, htg, rfl, rfl, hcirc, hokc, hcam, hgr⟩ := hrel
    have Hcirc := Lib.hid hcirc
    have Hokc := Lib.hid hokc
    have Hcam := Lib.hid hcam
    have Hgr := Lib.hid hgr
    have hMl : M < w.heap.size := Hc.out.lt
    clear hcirc hokc hcam hgr
    have Hbr := Lib.hid (show Box79 wr w.heap.size T A n cap A' N cap' from
      let hb := Hgr.out.block w.heap.size (by have := Hs0.out; omega) (fun e => by injection e; omega)
      ⟨(World.cell?_of_block (w := W0) hb).trans Hb.out.1, (World.cell?_of_block (w := W0) hb).trans Hb.out.2.1, (World.cell?_of_block (w := W0) hb).trans Hb.out.2.2⟩)
    have d0 := Hbr.out.1
    have d1 := Hbr.out.2.1
    have d2 := Hbr.out.2.2
    cases gk with
    | zero =>
      have htz : ¬ ((t : Int) < (T : Int) + 1) := by omega
      go_wp2_with fail
      go_ret
      refine ⟨none, 0, 0, rfl, ⟨by rw [Hcirc.out]; rfl, fun h => absurd h (by omega)⟩, ?_⟩
      have hB := HB0.out
      have hg := Hgr.out
      exact ⟨hg.os.trans hB.os, hg.tape.trans hB.tape, hg.output.trans hB.output, Nat.le_trans hB.size hg.size, fun j hj hne => (hg.block j (by have := Hs0.out; omega) hne).trans (hB.block j hj)⟩
    | succ g =>
      have htz : ((t : Int) < (T : Int) + 1) := by omega
      go_wp2_with fail
      refine (back70 (T : Int) A A' n cap N cap' M nn t ws c wr (Hr0.out.grown (fun b o v h => cell_not_map Hc0.out h) Hgr.out) hN Hfit.out Hcam.out Hokc.out (by omega)).mono ?_
      rintro e w1 ⟨C, l, capl, rfl, hi, hcam1, hg1, hnew, hcap⟩
      clear d0 d1 d2
      have Hi := Lib.hid hi
      have Hcam1 := Lib.hid hcam1
      have Hg1 := Lib.hid (grown_trans Hgr.out hg1)
      have Hnew := Lib.hid hnew
      have hnames := back_names (ws := ws) (t := t) Hokc.out
      obtain ⟨way, c1, hbk⟩ : ∃ way c1, back ws c t = (way, c1) := ⟨_, _, rfl⟩
      have hlen : way.length ≤ 22 := by have := backFrom_len ws 22 c t []; unfold back at hbk; rw [hbk] at this; simpa using this
      rw [hbk] at Hi Hcam1 hnames
      have Hnames := Lib.hid hnames
      have Hbk := Lib.hid hbk
      have hlw : way.length = l := Hi.out.1
      have Hlw := Lib.hid hlw
      clear hi hcam1 hg1 hnew hnames hbk
      have hl22 : l ≤ 22 := by omega
      clear hlw hlen
      go_wp2_with fail
      go_loopg [5, 23] l (fun g2 v5 v wy => ∃ k : Nat, k + g2 = l ∧ v5 = .slice none 0 0 ∧ v = .int .i64 (k : Int) ∧ (∀ j, j < k → rt ws (nth way j).toNat ≠ rf ws (nth way 0).toNat) ∧ Below w1.heap.size w1 wy)
      case atStart => exact ⟨0, by omega, rfl, rfl, fun j hj => by omega, Below.refl _ _⟩
      case round =>
        obtain ⟨k, hkg, rfl, rfl, hno, hby⟩ := hrel
        have Hno := Lib.hid hno
        have Hby := Lib.hid hby
        clear hno hby
        cases gk with
        | zero =>
          have hkz : ¬ ((k : Int) < (l : Int)) := by omega
          go_wp2_with fail
          go_roundg g
          case measure => omega
          case rel =>
            refine ⟨t + 1, c1, by omega, rfl, by go_num, ?_, Hnames.out.1, Hcam1.out.kept (grown_of_below Hby.out) (by simp), grown_trans Hg1.out ⟨Hby.out.os, Hby.out.tape, Hby.out.output, Hby.out.size, fun j hj _ => Hby.out.block j hj⟩⟩
            rw [Hcirc.out, circleFrom, Hbk.out]
            dsimp only
            rw [closes_none (fun j hj => Hno.out j (by have := Hlw.out; omega))]
        | succ g2 =>
          have hkz : ((k : Int) < (l : Int)) := by omega
          have hki : (0 : Int) ≤ (k : Int) := by omega
          have hl0 : (0 : Int) < (l : Int) := by omega
          obtain ⟨hlw, hcs⟩ := Hi.out.below Hby.out (Nat.le_refl _)
          obtain ⟨bw, ow, rfl, hcw⟩ := hcs (by omega)
          have ck := hcw k (by omega)
          have cz := hcw 0 (by omega)
          obtain ⟨nk, hnk⟩ := Int.eq_ofNat_of_zero_le (Hnames.out.2 (nth way k) (nth_mem (by omega))).1
          have hnkN := (Hnames.out.2 (nth way k) (nth_mem (by omega))).2
          obtain ⟨nz, hnz⟩ := Int.eq_ofNat_of_zero_le (Hnames.out.2 (nth way 0) (nth_mem (by omega))).1
          have hnzN := (Hnames.out.2 (nth way 0) (nth_mem (by omega))).2
          have Hnk := Lib.hid hnk
          have Hnz := Lib.hid hnz
          rw [hnk] at ck hnkN
          rw [hnz] at cz hnzN
          have hk0 : (0 : Int) ≤ (nk : Int) := by omega
          have hz0 : (0 : Int) ≤ (nz : Int) := by omega
          have Hrw := Lib.hid ((Hr0.out.grown (fun b o v h => cell_not_map Hc0.out h) Hg1.out).below Hby.out (Nat.le_refl _))
          obtain ⟨br, o, rfl, hcells⟩ := Hrw.out.2 (by omega)
          have r1 := (hcells nk (by omega)).2.1
          have r2 := (hcells nz (by omega)).1
          have hbx := Hby.out.block w.heap.size (by have := Hg1.out.size; have := Hs0.out; omega)
          have hby2 := Hg1.out.block w.heap.size (by have := Hs0.out; omega) (fun e => by injection e; omega)
          have e0 : wr.cell? ⟨w.heap.size, 0, none⟩ = some (.int .i64 (T : Int)) := (World.cell?_of_block (w := W0) (hbx.trans hby2)).trans Hb.out.1
          have e1 : wr.cell? ⟨w.heap.size, 1, none⟩ = some (.slice A n cap) := (World.cell?_of_block (w := W0) (hbx.trans hby2)).trans Hb.out.2.1
          have e2 : wr.cell? ⟨w.heap.size, 2, none⟩ = some (.slice (some ⟨br, o, none⟩) N cap') := (World.cell?_of_block (w := W0) (hbx.trans hby2)).trans Hb.out.2.2
          rw [Nat.add_zero] at cz
          clear hcs hcw hnk hnz hcells hbx hby2 hlw
          have Hdr := Lib.hid (show ∀ q, Below w1.heap.size w1 (World.drewN wr q) from fun q => ⟨Hby.out.os, Hby.out.tape, Hby.out.output, Hby.out.size, Hby.out.block⟩)
          have hkc : (k : Int) + 1 ≤ (capl : Int) := by omega
          have hkp : (0 : Int) ≤ (k : Int) + 1 := by omega
          by_cases heq : rt ws nk = rf ws nz
          · have Heq := Lib.hid heq
            go_wp2_with fail
            go_quiet (fail)
            go_wp2_with fail
            rw [Exit.noGoto_ret]
            go_ret
            have hcl : closes ws way = some k := closes_some (by have := Hlw.out; omega) Hno.out (by rw [Hnk.out, Hnz.out]; exact Heq.out)
            refine ⟨_, _, _, rfl, ⟨?_, fun hp => ⟨bw, ow, rfl, fun j hj => ?_⟩⟩, ?_⟩
            · rw [Hcirc.out, circleFrom, Hbk.out]
              dsimp only
              rw [hcl, List.length_take]
              have := Hlw.out
              omega
            · rw [Hcirc.out, circleFrom, Hbk.out]
              dsimp only
              rw [hcl]
              obtain ⟨_, hcs⟩ := Hi.out.below (Hdr.out nq) (Nat.le_refl _)
              obtain ⟨b', o', e, hc'⟩ := hcs (by omega)
              cases e
              rw [hc' j (by omega)]
              simp [nth, List.getD, List.getElem?_take, show j < k + 1 by omega]
            · have hB := HB0.out
              have hg := Hg1.out
              have hd := Hdr.out nq
              exact ⟨hd.os.trans (hg.os.trans hB.os), hd.tape.trans (hg.tape.trans hB.tape), hd.output.trans (hg.output.trans hB.output), Nat.le_trans hB.size (Nat.le_trans hg.size hd.size), fun j hj hne => (hd.block j (by have := hg.size; have := Hs0.out; omega)).trans ((hg.block j (by have := Hs0.out; omega) hne).trans (hB.block j hj))⟩
          · have Hne := Lib.hid heq
            have hbe : (rt ws nk == rf ws nz) = false := by rw [beq_eq_false_iff_ne]; exact heq
            go_wp2_with fail
            go_quiet (fail)
            go_wp2_with fail
            go_roundg g2
            case measure => omega
            case rel =>
              refine ⟨k + 1, by omega, rfl, by go_num, fun j hj => ?_, Hdr.out _⟩
              rcases Nat.lt_or_ge j k with h | h
              · exact Hno.out j h
              · obtain rfl : j = k := by omega
                rw [Hnk.out, Hnz.out]
                exact Hne.out
end Go.Proofs.Ytiankphkemakeaa
