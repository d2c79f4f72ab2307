/- The contract of speed.CheckSheet. -/
import Derived.Test.YtiankphkemakeaaWithin
namespace Go.Proofs.Ytiankphkemakeaa
set_option linter.unusedSimpArgs false
set_option linter.unusedVariables false
open Go.RowKit

/-- Is a rule valid for T turns? -/
def chkR (T : Int) (r : R) : Bool := decide (r.f ≠ r.t) && within 0 T [r.f, r.t] && within (-100000) 100000 [r.m]
/-- The error of a sheet. -/
def chk (T : Int) (rs : List R) : Int := if 60 < rs.length then 6 else if within 1 20 [T] then if rs.all (chkR T) then 0 else 3 else 2

theorem bcell {B : Nat} {W w1 : World} (hb : Below B W w1) : (∀ b o, b < B → w1.cell? ⟨b, o, none⟩ = W.cell? ⟨b, o, none⟩) ∧ (∀ b o, b < B → w1.frozen? ⟨b, o, none⟩ = W.frozen? ⟨b, o, none⟩) :=
  ⟨fun b o h => hb.cell (p := ⟨b, o, none⟩) h, fun b o h => hb.frozen (p := ⟨b, o, none⟩) h⟩

theorem ret_int {k : IntKind} {a b : Int} (h : a = b) : Ending.returned (.int k a) = .returned (.int k b) := by rw [h]

set_option maxHeartbeats 400000 in
theorem checkSheet18_many (A : Option Addr) (n cap : Nat) (rs : List R) (T : Int) (w : World) (h : Rules w A n rs) (hn : n ≤ 140737488355328) (h60 : 60 < n) :
    Calls Try.prog 18 #[.agg #[.int .i64 T, .slice A n cap]] w fun e w' => e = .returned (.int .i64 (chk T rs)) ∧ Below w.heap.size w w' := by
  have Hc := Lib.hid (show chk T rs = 6 by unfold chk; rw [if_pos (by rw [h.1]; exact h60)])
  go_enter Try.func18, Try.ntmps18
  go_wp2
  go_ret
  exact ⟨ret_int Hc.out.symm, (Below.refl _ _).alloc (Nat.le_refl _) _⟩

set_option maxHeartbeats 400000 in
theorem checkSheet18_arg (A : Option Addr) (n cap : Nat) (rs : List R) (T : Int) (w : World) (h : Rules w A n rs) (h60 : n ≤ 60) (hT : within 1 20 [T] = false) :
    Calls Try.prog 18 #[.agg #[.int .i64 T, .slice A n cap]] w fun e w' => e = .returned (.int .i64 (chk T rs)) ∧ Below w.heap.size w w' := by
  have Hc := Lib.hid (show chk T rs = 2 by unfold chk; rw [if_neg (by rw [h.1]; omega), hT]; rfl)
  have HT := Lib.hid hT
  clear hT
  go_enter Try.func18, Try.ntmps18
  go_wp2_with fail
  refine (within55_1 _ _ T _ _ _ ?c1).mono ?_
  case c1 => go_simp
  rintro e w' ⟨rfl, rfl⟩
  rw [HT.out]
  go_wp2
  go_ret
  exact ⟨ret_int Hc.out.symm, ((Below.refl _ _).alloc (Nat.le_refl _) _).alloc (by simp) _⟩

theorem all_take_r (p : R → Bool) (rs : List R) (k : Nat) (hk : k < rs.length) : (rs.take (k + 1)).all p = ((rs.take k).all p && p (rAt rs k)) := by
  rw [List.take_succ_eq_append_getElem hk, List.all_append]
  simp [rAt, List.getD, hk]
theorem all_stop_r (p : R → Bool) (rs : List R) (k : Nat) (hk : k < rs.length) (h : p (rAt rs k) = false) : rs.all p = false := by
  rw [List.all_eq_false]
  refine ⟨rs[k], List.getElem_mem hk, ?_⟩
  simp [rAt, List.getD, hk] at h ⊢
  exact h

set_option maxHeartbeats 400000 in
theorem checkSheet18_loop (A : Option Addr) (n cap : Nat) (rs : List R) (T : Int) (w : World) (h : Rules w A n rs) (h60 : n ≤ 60) (hT : within 1 20 [T] = true) :
    Calls Try.prog 18 #[.agg #[.int .i64 T, .slice A n cap]] w fun e w' => e = .returned (.int .i64 (chk T rs)) ∧ Below w.heap.size w w' := by
  have Hc := Lib.hid (show chk T rs = if rs.all (chkR T) then 0 else 3 by unfold chk; rw [if_neg (by rw [h.1]; omega), hT]; rfl)
  have HT := Lib.hid hT
  clear hT
  go_enter Try.func18, Try.ntmps18
  go_wp2_with fail
  refine (within55_1 _ _ T _ _ _ ?c1).mono ?_
  case c1 => go_simp
  rintro e w' ⟨rfl, rfl⟩
  rw [HT.out]
  go_wp2_with fail
  have hB0 : Below w.heap.size w ((w.alloc (.cells #[.int .i64 T, .slice A n cap] 24)).alloc (.cells #[.int .i64 T] 3)) := ((Below.refl _ _).alloc (Nat.le_refl _) _).alloc (by simp) _
  have h0 := h.below hB0 (Nat.le_refl _)
  have hbox0 : ((w.alloc (.cells #[.int .i64 T, .slice A n cap] 24)).alloc (.cells #[.int .i64 T] 3)).cell? ⟨w.heap.size, 0, none⟩ = some (.int .i64 T) := by go_simp
  have hsz0 : ((w.alloc (.cells #[.int .i64 T, .slice A n cap] 24)).alloc (.cells #[.int .i64 T] 3)).heap.size = w.heap.size + 2 := by simp
  obtain ⟨W0, hW0⟩ : ∃ W0, ((w.alloc (.cells #[.int .i64 T, .slice A n cap] 24)).alloc (.cells #[.int .i64 T] 3)) = W0 := ⟨_, rfl⟩
  rw [hW0] at hB0 h0 hbox0 hsz0 ⊢
  clear hW0
  go_loopw [17] (fun i wr => ∃ k : Nat, k ≤ n ∧ i = .int .i64 k ∧ (rs.take k).all (chkR T) = true ∧ Below W0.heap.size W0 wr) (fun i _ => n - (intOf i).toNat)
  case atStart => exact ⟨0, Nat.zero_le _, rfl, rfl, Below.refl _ _⟩
  case round =>
    obtain ⟨k, hk, rfl, hall, hB⟩ := hrel
    have Hend : Hid (Below w.heap.size w wr) := hB0.trans (hB.mono (by omega))
    by_cases hlt : k < n
    · obtain ⟨hl, hcs⟩ := h0.below hB (Nat.le_refl _)
      obtain ⟨b, o, rfl, hc⟩ := hcs (by omega)
      obtain ⟨c0, c1, c2⟩ := hc k hlt
      have cb := (hB.cell (p := ⟨w.heap.size, 0, none⟩) (by simp; omega)).trans hbox0
      have hz : w.heap.size < wr.heap.size := by have := hB.size; omega
      have Hl := Lib.hid hl
      have Hall := Lib.hid hall
      have HB := Lib.hid hB
      have Hsz := Lib.hid hsz0
      have Hr : Hid (chkR T (rAt rs k) = (decide (rf rs k ≠ rt rs k) && within 0 T [rf rs k, rt rs k] && within (-100000) 100000 [rm rs k])) := rfl
      clear hl hcs hc hbox0 h0 h hB0 hsz0 hB hall
      have Hstop : Hid (chkR T (rAt rs k) = false → chk T rs = 3) := fun hf => by rw [Hc.out, all_stop_r _ _ _ (by rw [Hl.out]; exact hlt) hf]; rfl
      by_cases h1 : rf rs k = rt rs k
      · have h1' : (rf rs k == rt rs k) = true := by simpa using h1
        have H1 := Lib.hid h1
        clear h1
        go_wp2_with fail
        go_ret
        exact ⟨ret_int (Hstop.out (by rw [Hr.out, decide_eq_false (fun h => h H1.out)]; rfl)).symm, Hend.out.alloc (by have := HB.out.size; have := Hsz.out; omega) _⟩
      · have h1' : (rf rs k == rt rs k) = false := by simpa using h1
        have H1 := Lib.hid h1
        clear h1
        go_wp2_with fail
        refine (within55_2 _ _ (rf rs k) (rt rs k) _ _ _ ?c1 ?c2).mono ?_
        case c1 => go_simp
        case c2 => go_simp
        rintro e w' ⟨rfl, rfl⟩
        cases h2 : within 0 T [rf rs k, rt rs k] with
        | false =>
          have H2 := Lib.hid h2
          clear h2
          go_wp2_with fail
          go_ret
          exact ⟨ret_int (Hstop.out (by rw [Hr.out, H2.out]; simp)).symm, (Hend.out.alloc (by have := HB.out.size; have := Hsz.out; omega) _).alloc (by have := HB.out.size; have := Hsz.out; simp; omega) _⟩
        | true =>
          have H2 := Lib.hid h2
          clear h2
          go_wp2_with fail
          refine (within56_1 _ _ (rm rs k) _ _ _ ?c1).mono ?_
          case c1 => go_simp
          rintro e w' ⟨rfl, rfl⟩
          cases h3 : within (-100000) 100000 [rm rs k] with
          | false =>
            have H3 := Lib.hid h3
            clear h3
            go_wp2_with fail
            go_ret
            exact ⟨ret_int (Hstop.out (by rw [Hr.out, H3.out]; simp)).symm, ((Hend.out.alloc (by have := HB.out.size; have := Hsz.out; omega) _).alloc (by have := HB.out.size; have := Hsz.out; simp; omega) _).alloc (by have := HB.out.size; have := Hsz.out; simp; omega) _⟩
          | true =>
            have H3 := Lib.hid h3
            clear h3
            go_wp2_with fail
            go_roundw
            case rel => exact ⟨k + 1, by omega, by go_num, by rw [all_take_r _ _ _ (by rw [Hl.out]; exact hlt), Hall.out, Hr.out, H2.out, H3.out, decide_eq_true H1.out]; rfl, ((HB.out.alloc HB.out.size _).alloc (by have := HB.out.size; simp; omega) _).alloc (by have := HB.out.size; simp; omega) _⟩
            case measure => simp [intOf]; omega
    · have hall' : rs.all (chkR T) = true := by rw [← hall, List.take_of_length_le (by rw [h0.1]; omega)]
      have Hall := Lib.hid hall'
      clear hall hall' hB hB0 hsz0 hbox0 h0 h
      go_wp2_with fail
      go_ret
      exact ⟨ret_int (by rw [Hc.out, Hall.out]; rfl), Hend.out⟩

theorem checkSheet18 (A : Option Addr) (n cap : Nat) (rs : List R) (T : Int) (w : World) (h : Rules w A n rs) (hn : n ≤ 140737488355328) :
    Calls Try.prog 18 #[.agg #[.int .i64 T, .slice A n cap]] w fun e w' => e = .returned (.int .i64 (chk T rs)) ∧ Below w.heap.size w w' := by
  by_cases h60 : 60 < n
  · exact checkSheet18_many A n cap rs T w h hn h60
  · cases hT : within 1 20 [T] with
    | false => exact checkSheet18_arg A n cap rs T w h (by omega) hT
    | true => exact checkSheet18_loop A n cap rs T w h (by omega) hT

end Go.Proofs.Ytiankphkemakeaa
