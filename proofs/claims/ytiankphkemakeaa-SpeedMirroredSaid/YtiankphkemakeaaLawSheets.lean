/- The walk of SpeedSheets. -/
import Derived.Test.YtiankphkemakeaaLawPipes
import Derived.Test.YtiankphkemakeaaRSpd
import Derived.Deep.RegionHeld3
namespace Go.Proofs.Ytiankphkemakeaa
set_option linter.unusedSimpArgs false
set_option linter.unusedVariables false
open Go.RowKit Go.Shelf

theorem below_alloc_ (W : World) (o : Obj) : Below W.heap.size W (W.alloc o) := (Below.refl _ _).alloc (Nat.le_refl _) _
theorem below_drew_ (W : World) : Below W.heap.size W W.drew := drew_below W 1 _

theorem great14 (T : Int) (A : Option Addr) (n cap : Nat) (w : World) (hn : n ≤ maxLen) : Calls Try.prog 14 #[.agg #[.int .i64 T, .slice A n cap]] w fun e w' => e = .returned (.bool (decide (70 < n))) ∧ w' = w.alloc (.cells #[.int .i64 T, .slice A n cap] 24) := by
  unfold maxLen at hn
  go_enter Try.func14, Try.ntmps14
  by_cases h : 70 < n
  · have h' : decide ((70 : Int) < (n : Int)) = true := decide_eq_true (by omega)
    rw [decide_eq_true h]
    clear h
    go_wp2_with fail
    go_ret
    exact ⟨rfl, rfl⟩
  · have h' : decide ((70 : Int) < (n : Int)) = false := decide_eq_false (by omega)
    rw [decide_eq_false h]
    clear h
    go_wp2_with fail
    go_ret
    exact ⟨rfl, rfl⟩

/-- The whole rules, or the error. -/
def wholeR (T : Int) (rs : List R) : List R × Int := if chk T rs ≠ 0 then ([], chk T rs) else (whole T.toNat rs, 0)
theorem whole16 (A : Option Addr) (n cap : Nat) (T : Int) (rs : List R) (w : World) (h : Rules w A n rs) (hn : n ≤ 140737488355328) : Calls Try.prog 16 #[.agg #[.int .i64 T, .slice A n cap]] w (RetR w (wholeR T rs)) := by
  by_cases he : chk T rs = 0
  · obtain ⟨_, h1, h2, _⟩ := chk_ok he
    obtain ⟨k, rfl⟩ := Int.eq_ofNat_of_zero_le (show 0 ≤ T by omega)
    rw [show wholeR k rs = (whole k rs, 0) by unfold wholeR; rw [if_neg (by simpa using he), Int.toNat_natCast]]
    exact (whole16_ok A n cap k rs w h he).mono fun e w' ⟨A', cap', e1, e2, e3⟩ => ⟨_, _, _, e1, e2, e3⟩
  · rw [show wholeR T rs = ([], chk T rs) by unfold wholeR; rw [if_pos he]]
    exact (whole16_bad A n cap T rs w h hn he).mono fun e w' ⟨e1, e3⟩ => ⟨_, _, _, e1, ⟨rfl, fun h => absurd h (by omega)⟩, e3⟩
theorem whole17 (A : Option Addr) (n cap : Nat) (T : Int) (rs : List R) (w : World) (h : Rules w A n rs) (hn : n ≤ 140737488355328) : Calls Try.prog 17 #[.agg #[.int .i64 T, .slice A n cap]] w (RetR w (wholeR T rs)) := by
  by_cases he : chk T rs = 0
  · obtain ⟨_, h1, h2, _⟩ := chk_ok he
    obtain ⟨k, rfl⟩ := Int.eq_ofNat_of_zero_le (show 0 ≤ T by omega)
    rw [show wholeR k rs = (whole k rs, 0) by unfold wholeR; rw [if_neg (by simpa using he), Int.toNat_natCast]]
    exact (whole17_ok A n cap k rs w h he).mono fun e w' ⟨A', cap', e1, e2, e3⟩ => ⟨_, _, _, e1, e2, e3⟩
  · rw [show wholeR T rs = ([], chk T rs) by unfold wholeR; rw [if_pos he]]
    exact (whole17_bad A n cap T rs w h hn he).mono fun e w' ⟨e1, e3⟩ => ⟨_, _, _, e1, ⟨rfl, fun h => absurd h (by omega)⟩, e3⟩
theorem wholeR_len (T : Int) (rs : List R) : (wholeR T rs).1.length ≤ 100 := by
  unfold wholeR
  by_cases he : chk T rs = 0
  · rw [if_neg (by simpa using he)]
    obtain ⟨h0, h1, h2, _⟩ := chk_ok he
    simp only [whole_len2]
    omega
  · rw [if_pos he]; simp

/-- The sheet that came in lies in block B; nothing that was there has turned. -/
structure Bx (w : World) (B : Nat) (T : Int) (A : Option Addr) (n cap : Nat) (rs : List R) (W : World) : Prop where
  below : Below w.heap.size w W
  lo : w.heap.size ≤ B
  hi : B < W.heap.size
  c0 : W.cell? ⟨B, 0, none⟩ = some (.int .i64 T)
  c1 : W.cell? ⟨B, 1, none⟩ = some (.slice A n cap)
  rules : Rules W A n rs
theorem Bx.next {w : World} {B : Nat} {T : Int} {A : Option Addr} {n cap : Nat} {rs : List R} {W W' : World} (h : Bx w B T A n cap rs W) (hb : Below W.heap.size W W') : Bx w B T A n cap rs W' :=
  ⟨h.below.trans (hb.mono h.below.size), h.lo, by have := hb.size; have := h.hi; omega, ((bcell hb).1 _ _ h.hi).trans h.c0, ((bcell hb).1 _ _ h.hi).trans h.c1, h.rules.below hb (Nat.le_refl _)⟩
theorem Bx.new {w : World} {T : Int} {A : Option Addr} {n cap : Nat} {rs : List R} (h : Rules w A n rs) : Bx w w.heap.size T A n cap rs (w.alloc (.cells #[.int .i64 T, .slice A n cap] 24)) :=
  ⟨below_alloc_ _ _, Nat.le_refl _, by simp, by rw [cell_of_row _ _ 0 _ _ _ (heap_alloc_new _ _)]; rfl, by rw [cell_of_row _ _ 1 _ _ _ (heap_alloc_new _ _)]; rfl, h.below (below_alloc_ _ _) (Nat.le_refl _)⟩

/-- What the last statement of SpeedSheets reads. -/
structure ShS (w : World) (B : Nat) (T : Int) (A C C1 C2 : Option Addr) (n cap m k1 k2 : Nat) (rs : List R) (zs : List Int) (W : World) : Prop where
  bx : Bx w B T A n cap rs W
  iz : Ints W C m zs
  r1 : Rules W C1 k1 (wholeR T rs).1
  r2 : Rules W C2 k2 (wholeR T rs).1
theorem ShS.next {w : World} {B : Nat} {T : Int} {A C C1 C2 : Option Addr} {n cap m k1 k2 : Nat} {rs : List R} {zs : List Int} {W W' : World} (hb : Below W.heap.size W W') (h : ShS w B T A C C1 C2 n cap m k1 k2 rs zs W) : ShS w B T A C C1 C2 n cap m k1 k2 rs zs W' :=
  ⟨h.bx.next hb, h.iz.below hb (Nat.le_refl _), h.r1.below hb (Nat.le_refl _), h.r2.below hb (Nat.le_refl _)⟩
theorem ShS.all {w : World} {B : Nat} {T : Int} {A C C1 C2 : Option Addr} {n cap m k1 k2 : Nat} {rs : List R} {zs : List Int} {W : World} (h : ShS w B T A C C1 C2 n cap m k1 k2 rs zs W) :
    ShS w B T A C C1 C2 n cap m k1 k2 rs zs W ∧ W.cell? ⟨B, 0, none⟩ = some (.int .i64 T) ∧ W.cell? ⟨B, 1, none⟩ = some (.slice A n cap) := ⟨h, h.bx.c0, h.bx.c1⟩

set_option maxRecDepth 100000 in
set_option maxHeartbeats 2000000 in
theorem speedSheets3_big (HW : Hid WorksOk) (T : Int) (A C : Option Addr) (n cap m capm : Nat) (rs : List R) (zs : List Int) (w : World) (h : Rules w A n rs) (hz : Ints w C m zs) (hn : n ≤ maxLen) (hm : m ≤ maxLen) (hbig : 70 < n ∨ 40 < m) :
    Calls Try.prog 3 #[.agg #[.int .i64 T, .slice A n cap], .slice C m capm] w fun e w' => e = .returned (.bool true) ∧ Below w.heap.size w w' := by
  have X0 := Bx.new (T := T) (cap := cap) h
  have Hn := Lib.hid hn
  unfold maxLen at hm
  go_enter Try.func3, Try.ntmps3
  go_wp2_with fail
  refine (great14 T A n cap _ Hn.out).mono ?_
  rintro e w' ⟨rfl, rfl⟩
  have X1 := X0.next (below_alloc_ _ (.cells #[.int .i64 T, .slice A n cap] 24))
  by_cases h70 : 70 < n
  · rw [decide_eq_true h70]
    clear hbig h70 hn h hz hm
    go_wp2_with fail
    refine (HW.out _).mono ?_
    rintro e w7 ⟨rfl, hb7⟩
    have X2 := X1.next hb7
    clear hb7 X1 X0
    go_wp2_with fail
    go_ret
    exact ⟨rfl, X2.below⟩
  · have h40 : decide ((40 : Int) < (m : Int)) = true := decide_eq_true (by omega)
    rw [decide_eq_false h70]
    clear hbig h70 hn h hz
    go_wp2_with fail
    refine (HW.out _).mono ?_
    rintro e w7 ⟨rfl, hb7⟩
    have X2 := X1.next hb7
    clear hb7 X1 X0
    go_wp2_with fail
    go_ret
    exact ⟨rfl, X2.below⟩

set_option maxRecDepth 100000 in
set_option maxHeartbeats 4000000 in
theorem speedSheets3_small (HW : Hid WorksOk) (T : Int) (A C : Option Addr) (n cap m capm : Nat) (rs : List R) (zs : List Int) (w : World) (h : Rules w A n rs) (hz : Ints w C m zs) (hn : n ≤ 70) (hm : m ≤ 40) :
    Calls Try.prog 3 #[.agg #[.int .i64 T, .slice A n cap], .slice C m capm] w fun e w' => e = .returned (.bool true) ∧ Below w.heap.size w w' := by
  have X0 := Bx.new (T := T) (cap := cap) h
  have I0 := Lib.hid (hz.below (below_alloc_ _ (.cells #[.int .i64 T, .slice A n cap] 24)) (Nat.le_refl _))
  have h40 : decide ((40 : Int) < (m : Int)) = false := decide_eq_false (by omega)
  have Hl := Lib.hid (wholeR_len T rs)
  clear h hz
  go_enter Try.func3, Try.ntmps3
  go_wp2_with fail
  refine (great14 T A n cap _ (by unfold maxLen; omega)).mono ?_
  rintro e w' ⟨rfl, rfl⟩
  have X1 := X0.next (below_alloc_ _ (.cells #[.int .i64 T, .slice A n cap] 24))
  have I1 := Lib.hid (I0.out.below (below_alloc_ _ (.cells #[.int .i64 T, .slice A n cap] 24)) (Nat.le_refl _))
  rw [decide_eq_false (by omega)]
  clear X0 I0
  obtain ⟨B, hB⟩ : ∃ B, w.heap.size = B := ⟨_, rfl⟩
  obtain ⟨W1, hW1⟩ : ∃ W1, (w.alloc (.cells #[.int .i64 T, .slice A n cap] 24)).alloc (.cells #[.int .i64 T, .slice A n cap] 24) = W1 := ⟨_, rfl⟩
  rw [hW1] at X1 I1 ⊢
  rw [hB] at X1 ⊢
  clear hW1 hB
  have c0 := X1.c0
  have c1 := X1.c1
  go_wp2_with fail
  refine (whole16 A n cap T rs _ X1.rules (by omega)).mono ?_
  rintro e w2 ⟨C1, k1, q1, rfl, hr1, hb⟩
  have X2 := X1.next hb
  have I2 := Lib.hid (I1.out.below hb (Nat.le_refl _))
  have R2 := Lib.hid hr1
  clear hr1 hb X1 I1 c0 c1
  obtain ⟨er, her⟩ : ∃ er, (wholeR T rs).2 = er := ⟨_, rfl⟩
  have Her := Lib.hid her
  rw [her]
  clear her
  have c0 := X2.c0
  have c1 := X2.c1
  go_wp2_with fail
  refine (whole17 A n cap T rs _ X2.rules (by omega)).mono ?_
  rintro e w3 ⟨C2, k2, q2, rfl, hr2, hb⟩
  have X3 := X2.next hb
  have I3 := Lib.hid (I2.out.below hb (Nat.le_refl _))
  have R3 := Lib.hid (R2.out.below hb (Nat.le_refl _))
  rw [Her.out]
  have G : ShS w B T A C C1 C2 n cap m k1 k2 rs zs w3 := ⟨X3, I3.out, R3.out, hr2⟩
  clear hr2 hb X2 I2 c0 c1 X3 I3 R3 R2
  have G2 := G.all
  have hk1 : k1 ≤ 100 := by rw [← G.r1.1]; exact Hl.out
  have hk2 : k2 ≤ 100 := by rw [← G.r2.1]; exact Hl.out
  go_wp2_with fail
  go_region_held3 (fun w' => ShS w B T A C C1 C2 n cap m k1 k2 rs zs w' ∧ w'.cell? ⟨B, 0, none⟩ = some (.int .i64 T) ∧ w'.cell? ⟨B, 1, none⟩ = some (.slice A n cap))
    (first | (go_split_ands; exact ShS.all (ShS.next (by assumption) (by assumption))) | (go_split_ands; exact ShS.all (ShS.next (below_alloc_ _ _) (by assumption))) | (go_split_ands; exact ShS.all (ShS.next (below_drew_ _) (by assumption))))
    (first
      | (go_at_call 18; go_split_ands; refine (checkSheet18 A n cap rs T _ ?_ (by omega)).mono ?_; (exact Bx.rules (ShS.bx (by assumption))); rintro e w' ⟨rfl, hb⟩)
      | (go_at_call 19; go_split_ands; refine (checkSheet19 A n cap rs T _ ?_ (by omega)).mono ?_; (exact Bx.rules (ShS.bx (by assumption))); rintro e w' ⟨rfl, hb⟩)
      | (go_at_call 20; go_split_ands; refine (rules20 C1 C2 k1 _ k2 _ (wholeR T rs).1 (wholeR T rs).1 _ ?_ ?_ (by omega) (by omega)).mono ?_; (exact ShS.r1 (by assumption)); (exact ShS.r2 (by assumption)); rintro e w' ⟨rfl, hb⟩; rw [decide_eq_true rfl])
      | (go_at_call 21; go_split_ands; refine (checkSpeeds21 A C n cap m _ T rs zs _ ?_ ?_ (by omega) (by omega)).mono ?_; (exact Bx.rules (ShS.bx (by assumption))); (exact ShS.iz (by assumption)); rintro e w' ⟨rfl, hb⟩)
      | (go_at_call 22; go_split_ands; refine (checkSpeeds22 A C n cap m _ T rs zs _ ?_ ?_ (by omega) (by omega)).mono ?_; (exact Bx.rules (ShS.bx (by assumption))); (exact ShS.iz (by assumption)); rintro e w' ⟨rfl, hb⟩)
      | (go_at_call 15; refine (HW.out _).mono ?_; rintro e w' ⟨rfl, hb⟩))
  go_wp2
  go_ret
  have hfin : ShS w B T A C C1 C2 n cap m k1 k2 rs zs w' := And.left (b := w'.cell? ⟨B, 0, none⟩ = some (.int .i64 T) ∧ w'.cell? ⟨B, 1, none⟩ = some (.slice A n cap)) (by assumption)
  exact ⟨rfl, hfin.bx.below⟩

theorem speedSheets3 (HW : Hid WorksOk) (T : Int) (A C : Option Addr) (n cap m capm : Nat) (rs : List R) (zs : List Int) (w : World) (h : Rules w A n rs) (hz : Ints w C m zs) (hn : n ≤ maxLen) (hm : m ≤ maxLen) :
    Calls Try.prog 3 #[.agg #[.int .i64 T, .slice A n cap], .slice C m capm] w fun e w' => e = .returned (.bool true) ∧ Below w.heap.size w w' := by
  by_cases hb : 70 < n ∨ 40 < m
  · exact speedSheets3_big HW T A C n cap m capm rs zs w h hz hn hm hb
  · exact speedSheets3_small HW T A C n cap m capm rs zs w h hz (by omega) (by omega)
end Go.Proofs.Ytiankphkemakeaa
