/- The contracts of the methods rule, named and follow, and of Whole. -/
import Derived.Test.YtiankphkemakeaaClone
namespace Go.Proofs.Ytiankphkemakeaa
set_option linter.unusedSimpArgs false
set_option linter.unusedVariables false
open Go.RowKit

/-- Is a number the name of a rule? -/
def isName (ws : List R) (k : Int) : Bool := within 0 ((ws.length : Int) - 1) [k]
/-- The rule of a name, or none. -/
def rl (ws : List R) (k : Int) : R := if isName ws k then rAt ws k.toNat else ⟨0, 0, 0⟩

set_option maxRecDepth 100000 in
set_option maxHeartbeats 400000 in
theorem rule63 (T x : Int) (A A' : Option Addr) (n cap N cap' : Nat) (ws : List R) (w : World) (h : Rules w A' N ws) (hN : N ≤ 1000000) :
    Calls Try.prog 63 #[.agg #[.int .i64 T, .slice A n cap, .slice A' N cap'], .int .i64 x] w fun e w' => e = .returned (.agg #[.int .i64 (rl ws x).f, .int .i64 (rl ws x).t, .int .i64 (rl ws x).m]) ∧ Below w.heap.size w w' := by
  have hl := h.1
  subst hl
  cases hq : isName ws x with
  | false =>
    have Hr := Lib.hid (show rl ws x = ⟨0, 0, 0⟩ by unfold rl; rw [hq]; rfl)
    have Hq := Lib.hid (show within 0 ((ws.length : Int) - 1) [x] = false from hq)
    clear hq h
    go_enter Try.func63, Try.ntmps63
    go_wp2_with fail
    refine (within55_1 _ _ x _ _ _ ?c1).mono ?_
    case c1 => go_simp
    rintro e w1 ⟨rfl, rfl⟩
    rw [Hq.out]
    go_wp2_with fail
    refine bodyPost_ret (v := .agg #[.int .i64 0, .int .i64 0, .int .i64 0]) (by simp [results, Try.results63, go_sem]) rfl ⟨by rw [Hr.out], ?_⟩
    exact ((((Below.refl _ _).alloc (Nat.le_refl _) _).alloc (by simp) _).alloc (by simp; omega) _)
  | true =>
    have hx : 0 ≤ x ∧ x ≤ (ws.length : Int) - 1 := by
      unfold isName at hq
      rw [within_one] at hq
      simpa using hq
    have Hq := Lib.hid (show within 0 ((ws.length : Int) - 1) [x] = true from hq)
    have Hr := Lib.hid (show rl ws x = rAt ws x.toNat by unfold rl; rw [hq]; rfl)
    obtain ⟨k, rfl⟩ := Int.eq_ofNat_of_zero_le hx.1
    simp only [Int.toNat_natCast] at Hr
    obtain ⟨hx0, hx1⟩ := hx
    have hk : k < ws.length := by omega
    obtain ⟨_, hcs⟩ := h
    obtain ⟨b, o, rfl, hc⟩ := hcs (by omega)
    obtain ⟨c0, c1, c2⟩ := hc k hk
    have hb := lt_of_cell c0
    have hb1 : b < w.heap.size + 1 := by omega
    have hb2 : b < w.heap.size + 1 + 1 := by omega
    clear hq hcs hc
    have hi0 : (0 : Int) ≤ (k : Int) := by omega
    have hi1 : (k : Int) < (ws.length : Int) := by omega
    go_enter Try.func63, Try.ntmps63
    go_wp2_with fail
    refine (within55_1 _ _ (k : Int) _ _ _ ?c1).mono ?_
    case c1 => go_simp
    rintro e w1 ⟨rfl, rfl⟩
    rw [Hq.out]
    go_wp2_with fail
    refine bodyPost_ret (v := .agg #[.int .i64 (rf ws k), .int .i64 (rt ws k), .int .i64 (rm ws k)]) (by simp [results, Try.results63, go_sem]) rfl ⟨by rw [Hr.out]; rfl, ?_⟩
    exact ((((Below.refl _ _).alloc (Nat.le_refl _) _).alloc (by simp) _).alloc (by simp; omega) _)

/-- All are names of rules. -/
def named (ws : List R) (ks : List Int) : Bool := ks.all fun k => !(decide (rl ws k = ⟨0, 0, 0⟩))

theorem all_take_i (p : Int → Bool) (zs : List Int) (k : Nat) (hk : k < zs.length) : (zs.take (k + 1)).all p = ((zs.take k).all p && p (nth zs k)) := by
  rw [List.take_succ_eq_append_getElem hk, List.all_append]
  simp [nth, List.getD, hk]
theorem all_stop_i (p : Int → Bool) (zs : List Int) (k : Nat) (hk : k < zs.length) (h : p (nth zs k) = false) : zs.all p = false := by
  rw [List.all_eq_false]
  refine ⟨zs[k], List.getElem_mem hk, ?_⟩
  simp [nth, List.getD, hk] at h ⊢
  exact h
theorem R_eta (r : R) : R.mk r.f r.t r.m = r := rfl

set_option maxRecDepth 100000 in
set_option maxHeartbeats 400000 in
theorem named60 (T : Int) (A A' C : Option Addr) (n cap N cap' m capm : Nat) (ws : List R) (ks : List Int) (w : World) (h : Rules w A' N ws) (hk : Ints w C m ks) (hN : N ≤ 1000000) (hm : m ≤ 1000000) :
    Calls Try.prog 60 #[.agg #[.int .i64 T, .slice A n cap, .slice A' N cap'], .slice C m capm] w fun e w' => e = .returned (.bool (named ws ks)) ∧ Below w.heap.size w w' := by
  have HB0 := Lib.hid (show Below w.heap.size w (w.alloc (.cells #[.int .i64 T, .slice A n cap, .slice A' N cap'] 79)) from (Below.refl _ _).alloc (Nat.le_refl _) _)
  have Hc0 := Lib.hid (show (w.alloc (.cells #[.int .i64 T, .slice A n cap, .slice A' N cap'] 79)).cell? ⟨w.heap.size, 0, none⟩ = some (.int .i64 T) by go_simp)
  have Hc1 := Lib.hid (show (w.alloc (.cells #[.int .i64 T, .slice A n cap, .slice A' N cap'] 79)).cell? ⟨w.heap.size, 1, none⟩ = some (.slice A n cap) by go_simp)
  have Hc2 := Lib.hid (show (w.alloc (.cells #[.int .i64 T, .slice A n cap, .slice A' N cap'] 79)).cell? ⟨w.heap.size, 2, none⟩ = some (.slice A' N cap') by go_simp)
  have Hsz := Lib.hid (show (w.alloc (.cells #[.int .i64 T, .slice A n cap, .slice A' N cap'] 79)).heap.size = w.heap.size + 1 by simp)
  have H := Lib.hid (h.below HB0.out (Nat.le_refl _))
  have Hk := Lib.hid (hk.below HB0.out (Nat.le_refl _))
  clear h hk
  go_enter Try.func60, Try.ntmps60
  go_wp2_with fail
  obtain ⟨W0, hW0⟩ : ∃ W0, w.alloc (.cells #[.int .i64 T, .slice A n cap, .slice A' N cap'] 79) = W0 := ⟨_, rfl⟩
  rw [hW0] at HB0 Hc0 Hc1 Hc2 Hsz H Hk ⊢
  clear hW0
  go_loopw [9] (fun i wr => ∃ k : Nat, k ≤ m ∧ i = .int .i64 k ∧ named ws (ks.take k) = true ∧ Below W0.heap.size W0 wr) (fun i _ => m - (intOf i).toNat)
  case atStart => exact ⟨0, Nat.zero_le _, rfl, rfl, Below.refl _ _⟩
  case round =>
    obtain ⟨k, hkm, rfl, hall, hB⟩ := hrel
    have hz : w.heap.size < wr.heap.size := by have := hB.size; have := Hsz.out; omega
    have hz0 : w.heap.size < W0.heap.size := by have := Hsz.out; omega
    have Hall := Lib.hid hall
    have HB := Lib.hid hB
    have Hend := Lib.hid (HB0.out.trans (hB.mono (by omega)))
    by_cases hlt : k < m
    · obtain ⟨hl, hcs⟩ := Hk.out.below hB (Nat.le_refl _)
      obtain ⟨b, o, rfl, hc⟩ := hcs (by omega)
      have ck := hc k hlt
      have d0 := ((bcell hB).1 _ _ hz0).trans Hc0.out
      have d1 := ((bcell hB).1 _ _ hz0).trans Hc1.out
      have d2 := ((bcell hB).1 _ _ hz0).trans Hc2.out
      have Hl := Lib.hid hl
      have Hr := Lib.hid (H.out.below hB (Nat.le_refl _))
      have heq := fun W : World => run_eqlR W (rl ws (nth ks k)).f (rl ws (nth ks k)).t (rl ws (nth ks k)).m 0 0 0
      simp only [R_eta] at heq
      clear hcs hc hl hall hB
      go_wp2_with fail
      refine (rule63 _ _ _ _ _ _ _ _ ws _ Hr.out hN).mono ?_
      rintro e w1 ⟨rfl, hb⟩
      have Hb := Lib.hid hb
      clear hb
      go_wp2_with fail
      · have h1 : rl ws (nth ks k) = ⟨0, 0, 0⟩ := by assumption
        go_ret
        exact ⟨ret_bool (by unfold named; rw [all_stop_i _ _ k (by rw [Hl.out]; exact hlt) (by simp [h1])]), Hend.out.trans (Hb.out.mono (by omega))⟩
      · have h1 : ¬ rl ws (nth ks k) = ⟨0, 0, 0⟩ := by assumption
        go_roundw
        case rel => exact ⟨k + 1, by omega, by go_num, by unfold named; rw [all_take_i _ _ k (by rw [Hl.out]; exact hlt)]; simp only [h1]; exact (Bool.and_true _).trans Hall.out, HB.out.trans (Hb.out.mono HB.out.size)⟩
        case measure => simp [intOf]; omega
    · have hl := Hk.out.1
      have hall' : named ws ks = true := by rw [← hall, List.take_of_length_le (by omega)]
      have Hall := Lib.hid hall'
      clear hall hall' hB
      go_wp2_with fail
      go_ret
      exact ⟨ret_bool Hall.out.symm, Hend.out⟩

/-- The turn to which names of rules lead, and what they cost; not true if they are no way. -/
def follow (ws : List R) : Int → Int → List Int → Int × Int × Bool
  | to, cost, [] => (to, cost, true)
  | to, cost, k :: ks => if (rl ws k).f = to then follow ws (rl ws k).t (cost + (rl ws k).m) ks else (0, 0, false)
/-- The amount of each rule is at most 100,000. -/
def Small (ws : List R) : Prop := ∀ k, -100000 ≤ (rl ws k).m ∧ (rl ws k).m ≤ 100000

theorem drop_nth (ks : List Int) (k : Nat) (h : k < ks.length) : ks.drop k = nth ks k :: ks.drop (k + 1) := by
  rw [List.drop_eq_getElem_cons h, nth_eq ks k h]

set_option maxRecDepth 100000 in
set_option maxHeartbeats 800000 in
theorem follow61 (T x : Int) (A A' C : Option Addr) (n cap N cap' m capm : Nat) (ws : List R) (ks : List Int) (w : World) (h : Rules w A' N ws) (hk : Ints w C m ks) (hs : Small ws) (hN : N ≤ 1000000) (hm : m ≤ 1000) :
    Calls Try.prog 61 #[.agg #[.int .i64 T, .slice A n cap, .slice A' N cap'], .int .i64 x, .slice C m capm] w fun e w' =>
      e = .returned (.tuple #[.int .i64 (follow ws x 0 ks).1, .int .i64 (follow ws x 0 ks).2.1, .bool (follow ws x 0 ks).2.2]) ∧ Below w.heap.size w w' := by
  have HB0 := Lib.hid (show Below w.heap.size w (w.alloc (.cells #[.int .i64 T, .slice A n cap, .slice A' N cap'] 79)) from (Below.refl _ _).alloc (Nat.le_refl _) _)
  have Hc0 := Lib.hid (show (w.alloc (.cells #[.int .i64 T, .slice A n cap, .slice A' N cap'] 79)).cell? ⟨w.heap.size, 0, none⟩ = some (.int .i64 T) by go_simp)
  have Hc1 := Lib.hid (show (w.alloc (.cells #[.int .i64 T, .slice A n cap, .slice A' N cap'] 79)).cell? ⟨w.heap.size, 1, none⟩ = some (.slice A n cap) by go_simp)
  have Hc2 := Lib.hid (show (w.alloc (.cells #[.int .i64 T, .slice A n cap, .slice A' N cap'] 79)).cell? ⟨w.heap.size, 2, none⟩ = some (.slice A' N cap') by go_simp)
  have Hsz := Lib.hid (show (w.alloc (.cells #[.int .i64 T, .slice A n cap, .slice A' N cap'] 79)).heap.size = w.heap.size + 1 by simp)
  have H := Lib.hid (h.below HB0.out (Nat.le_refl _))
  have Hk := Lib.hid (hk.below HB0.out (Nat.le_refl _))
  have Hs := Lib.hid hs
  clear h hk hs
  go_enter Try.func61, Try.ntmps61
  go_wp2_with fail
  obtain ⟨W0, hW0⟩ : ∃ W0, w.alloc (.cells #[.int .i64 T, .slice A n cap, .slice A' N cap'] 79) = W0 := ⟨_, rfl⟩
  rw [hW0] at HB0 Hc0 Hc1 Hc2 Hsz H Hk ⊢
  clear hW0
  go_loopw [6, 7, 15] (fun to co i wr => ∃ (k : Nat) (t c : Int), k ≤ m ∧ i = .int .i64 k ∧ to = .int .i64 t ∧ co = .int .i64 c ∧ -100000 * (k : Int) ≤ c ∧ c ≤ 100000 * (k : Int) ∧ follow ws x 0 ks = follow ws t c (ks.drop k) ∧ Below W0.heap.size W0 wr) (fun _ _ i _ => m - (intOf i).toNat)
  case atStart => exact ⟨0, x, 0, Nat.zero_le _, rfl, rfl, rfl, by omega, by omega, rfl, Below.refl _ _⟩
  case round =>
    obtain ⟨k, t, c, hkm, rfl, rfl, rfl, hc0, hc1, hall, hB⟩ := hrel
    have hz : w.heap.size < wr.heap.size := by have := hB.size; have := Hsz.out; omega
    have hz0 : w.heap.size < W0.heap.size := by have := Hsz.out; omega
    have Hall := Lib.hid hall
    have HB := Lib.hid hB
    have Hend := Lib.hid (HB0.out.trans (hB.mono (by omega)))
    by_cases hlt : k < m
    · obtain ⟨hl, hcs⟩ := Hk.out.below hB (Nat.le_refl _)
      obtain ⟨b, o, rfl, hc⟩ := hcs (by omega)
      have ck := hc k hlt
      have d0 := ((bcell hB).1 _ _ hz0).trans Hc0.out
      have d1 := ((bcell hB).1 _ _ hz0).trans Hc1.out
      have d2 := ((bcell hB).1 _ _ hz0).trans Hc2.out
      have Hl := Lib.hid hl
      have Hr := Lib.hid (H.out.below hB (Nat.le_refl _))
      have Hstep := Lib.hid (show follow ws x 0 ks = if (rl ws (nth ks k)).f = t then follow ws (rl ws (nth ks k)).t (c + (rl ws (nth ks k)).m) (ks.drop (k + 1)) else (0, 0, false) by rw [hall, drop_nth ks k (by omega), follow])
      obtain ⟨hs0, hs1⟩ := Hs.out (nth ks k)
      clear hcs hc hl hall hB
      go_wp2_with fail
      refine (rule63 _ _ _ _ _ _ _ _ ws _ Hr.out hN).mono ?_
      rintro e w1 ⟨rfl, hb⟩
      have Hb := Lib.hid hb
      have Hz1 := Lib.hid (Nat.le_trans HB.out.size hb.size)
      clear hb
      go_wp2_with fail
      · have h1 : ((rl ws (nth ks k)).f != t) = true := by assumption
        have h2 : follow ws x 0 ks = (0, 0, false) := by rw [Hstep.out, if_neg (by simpa using h1)]
        go_ret3
        exact ⟨by rw [h2]; rfl, (Hend.out.trans (Hb.out.mono (by omega))).alloc (by have := Hb.out.size; omega) _⟩
      · have h1 : ((rl ws (nth ks k)).f != t) = false := by assumption
        have h2 : follow ws x 0 ks = follow ws (rl ws (nth ks k)).t (c + (rl ws (nth ks k)).m) (ks.drop (k + 1)) := by rw [Hstep.out, if_pos (by simpa using h1)]
        go_roundw
        case rel => exact ⟨k + 1, _, _, by omega, by go_num, rfl, rfl, by omega, by omega, h2, (HB.out.trans (Hb.out.mono HB.out.size)).alloc Hz1.out _⟩
        case measure => simp [intOf]; omega
    · have hl := Hk.out.1
      have hall' : follow ws x 0 ks = (t, c, true) := by rw [hall, List.drop_eq_nil_of_le (by omega)]; rfl
      have Hall := Lib.hid hall'
      clear hall hall' hB
      go_wp2_with fail
      go_ret3
      exact ⟨by rw [Hall.out]; rfl, Hend.out⟩
end Go.Proofs.Ytiankphkemakeaa
