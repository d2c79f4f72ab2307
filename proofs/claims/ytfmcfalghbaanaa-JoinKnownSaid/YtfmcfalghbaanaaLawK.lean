/- Stage 2: the walk of JoinKnown. -/
import Derived.Test.YtfmcfalghbaanaaLawP
import Derived.Shelf.RegionOpen
import Derived.StillTailTactics
namespace Go.Proofs.Ytfmcfalghbaanaa
set_option linter.unusedSimpArgs false
set_option linter.unusedVariables false
open Go.RowKit Go.Shelf
attribute [local go_sem] Oper.semAt_some

set_option maxRecDepth 100000
theorem k1 : nthR cC 0 = ([⟨0, false⟩, ⟨1, false⟩, ⟨3, false⟩, ⟨2, false⟩], 0) := by decide +kernel
theorem k2 : nthR cC 3 = ([⟨0, false⟩, ⟨3, true⟩, ⟨1, false⟩, ⟨2, false⟩], 0) := by decide +kernel
theorem k3 : nthR cC 4 = ([], 3) := by decide +kernel
theorem k4 : rivR cC ⟨0, false⟩ = ([2, 6, 7], 0) := by decide +kernel
theorem k5 : rivR cC ⟨2, false⟩ = ([], 0) := by decide +kernel
theorem k6 : fitsR cD ⟨2, false⟩ ⟨0, false⟩ = (false, 0) := by decide +kernel
theorem k7 : ckJoin cC [⟨0, false⟩, ⟨1, false⟩, ⟨2, false⟩] = 15 := by decide +kernel
/-- The law's cylinder lies in memory. -/
structure Gk (w : World) (B : Nat) (C : Option Addr) (W : World) : Prop where
  below : Below w.heap.size w W
  r1 : W.heap[B]? = some (.cells #[.slice C 4 4, .int .i64 0, .int .i64 0, .int .i64 0] 26 (0, 0))
  p1 : Pcs W C 4 psC
theorem Gk.next {w : World} {B : Nat} {C : Option Addr} {W W' : World} (h : Gk w B C W) (hb : Below W.heap.size W W') : Gk w B C W' :=
  ⟨h.below.trans (hb.mono h.below.size), (hb.block _ (lt_of_block h.r1)).trans h.r1, h.p1.below hb (Nat.le_refl _)⟩
theorem Gk.c {w : World} {B : Nat} {C : Option Addr} {W : World} (h : Gk w B C W) :
    W.cell? ⟨B, 0, none⟩ = some (.slice C 4 4) ∧ W.cell? ⟨B, 1, none⟩ = some (.int .i64 0) ∧ W.cell? ⟨B, 2, none⟩ = some (.int .i64 0) ∧ W.cell? ⟨B, 3, none⟩ = some (.int .i64 0) :=
  ⟨by rw [cell_row h.r1]; rfl, by rw [cell_row h.r1]; rfl, by rw [cell_row h.r1]; rfl, by rw [cell_row h.r1]; rfl⟩
theorem Gk.new {w w2 : World} {C : Option Addr} (hb : Below w.heap.size w w2) (hP : Pcs w2 C 4 psC) :
    Gk w w2.heap.size C (w2.alloc (.cells #[.slice C 4 4, .int .i64 0, .int .i64 0, .int .i64 0] 26)) := by
  have h1 := below_alloc_ w2 (.cells #[.slice C 4 4, .int .i64 0, .int .i64 0, .int .i64 0] 26)
  exact ⟨hb.trans (h1.mono hb.size), heap_alloc_new_ w2 _, hP.below h1 (Nat.le_refl _)⟩

theorem sts_three {W : World} {b : Nat} {a0 a1 a2 : Int} {t0 t1 t2 : Bool} (h0 : W.cell? ⟨b, 0, none⟩ = some (.int .i64 a0)) (h1 : W.cell? ⟨b, 1, none⟩ = some (.bool t0)) (h2 : W.cell? ⟨b, 2, none⟩ = some (.int .i64 a1)) (h3 : W.cell? ⟨b, 3, none⟩ = some (.bool t1)) (h4 : W.cell? ⟨b, 4, none⟩ = some (.int .i64 a2)) (h5 : W.cell? ⟨b, 5, none⟩ = some (.bool t2)) : Sts W (some ⟨b, 0, none⟩) 3 [⟨a0, t0⟩, ⟨a1, t1⟩, ⟨a2, t2⟩] := ⟨rfl, fun _ => ⟨b, 0, rfl, fun j hj => by
  match j, hj with
  | 0, _ => exact ⟨h0, h1⟩
  | 1, _ => exact ⟨h2, h3⟩
  | 2, _ => exact ⟨h4, h5⟩⟩⟩
theorem sts_four {W : World} {b : Nat} {a0 a1 a2 a3 : Int} {t0 t1 t2 t3 : Bool} (h0 : W.cell? ⟨b, 0, none⟩ = some (.int .i64 a0)) (h1 : W.cell? ⟨b, 1, none⟩ = some (.bool t0)) (h2 : W.cell? ⟨b, 2, none⟩ = some (.int .i64 a1)) (h3 : W.cell? ⟨b, 3, none⟩ = some (.bool t1)) (h4 : W.cell? ⟨b, 4, none⟩ = some (.int .i64 a2)) (h5 : W.cell? ⟨b, 5, none⟩ = some (.bool t2)) (h6 : W.cell? ⟨b, 6, none⟩ = some (.int .i64 a3)) (h7 : W.cell? ⟨b, 7, none⟩ = some (.bool t3)) : Sts W (some ⟨b, 0, none⟩) 4 [⟨a0, t0⟩, ⟨a1, t1⟩, ⟨a2, t2⟩, ⟨a3, t3⟩] := ⟨rfl, fun _ => ⟨b, 0, rfl, fun j hj => by
  match j, hj with
  | 0, _ => exact ⟨h0, h1⟩
  | 1, _ => exact ⟨h2, h3⟩
  | 2, _ => exact ⟨h4, h5⟩
  | 3, _ => exact ⟨h6, h7⟩⟩⟩
def lstN (n : Nat) : List Nat := if n = 4 then [0, 1, 3, 2] else [0, 1, 2]
/-- The slice of ints that On takes. -/
def IntsN (W : World) (A : Option Addr) (n : Nat) (l : List Nat) : Prop := 0 < n → ∃ b o, A = some ⟨b, o, none⟩ ∧ ∀ j, j < n → W.cell? ⟨b, o + j, none⟩ = some (.int .i64 ((l.getD j 0 : Nat) : Int))
theorem ints_three {W : World} {b : Nat} (h0 : W.cell? ⟨b, 0, none⟩ = some (.int .i64 0)) (h1 : W.cell? ⟨b, 1, none⟩ = some (.int .i64 1)) (h2 : W.cell? ⟨b, 2, none⟩ = some (.int .i64 2)) : IntsN W (some ⟨b, 0, none⟩) 3 (lstN 3) := fun _ => ⟨b, 0, rfl, fun j hj => by
  match j, hj with
  | 0, _ => exact h0
  | 1, _ => exact h1
  | 2, _ => exact h2⟩
theorem ints_four {W : World} {b : Nat} (h0 : W.cell? ⟨b, 0, none⟩ = some (.int .i64 0)) (h1 : W.cell? ⟨b, 1, none⟩ = some (.int .i64 1)) (h2 : W.cell? ⟨b, 2, none⟩ = some (.int .i64 3)) (h3 : W.cell? ⟨b, 3, none⟩ = some (.int .i64 2)) : IntsN W (some ⟨b, 0, none⟩) 4 (lstN 4) := fun _ => ⟨b, 0, rfl, fun j hj => by
  match j, hj with
  | 0, _ => exact h0
  | 1, _ => exact h1
  | 2, _ => exact h2
  | 3, _ => exact h3⟩
theorem on41g (A : Option Addr) (n cap : Nat) (w : World) (h : IntsN w A n (lstN n)) (hl : (lstN n).length = n) (hn : n ≤ 1000) :
    Calls Try.prog 41 #[.slice A n cap] w fun e w' => ∃ C cp, e = .returned (.slice C n cp) ∧ n ≤ cp ∧ Sts w' C n ((lstN n).map fun p : Nat => (⟨(p : Int), false⟩ : St)) ∧ Below w.heap.size w w' := on41 A n cap (lstN n) w hl hn h
theorem k7' : ckJoin ⟨psC, 0, ⟨0, 0⟩⟩ ((lstN 3).map fun p : Nat => (⟨(p : Int), false⟩ : St)) = 15 := by decide +kernel
/-- What the last statement of JoinKnown reads. -/
structure Kj (w : World) (B Q : Nat) (C C1 C2 C4 : Option Addr) (W : World) : Prop where
  g : Gk w B C W
  s1 : Sts W C1 4 ((lstN 4).map fun p : Nat => (⟨(p : Int), false⟩ : St))
  s2 : Sts W C2 4 [⟨0, false⟩, ⟨3, true⟩, ⟨1, false⟩, ⟨2, false⟩]
  s4 : Sts W C4 3 [⟨1, false⟩, ⟨3, false⟩, ⟨3, true⟩]
  r : W.heap[Q]? = some (.cells #[.int .i64 3, .bool true] 28 (0, 0))
theorem Kj.next {w : World} {B Q : Nat} {C C1 C2 C4 : Option Addr} {W W' : World} (hb : Below W.heap.size W W') (h : Kj w B Q C C1 C2 C4 W) : Kj w B Q C C1 C2 C4 W' :=
  ⟨h.g.next hb, h.s1.below hb (Nat.le_refl _), h.s2.below hb (Nat.le_refl _), h.s4.below hb (Nat.le_refl _), (hb.block _ (lt_of_block h.r)).trans h.r⟩
theorem Kj.all {w : World} {B Q : Nat} {C C1 C2 C4 : Option Addr} {W : World} (h : Kj w B Q C C1 C2 C4 W) :
    Kj w B Q C C1 C2 C4 W ∧ W.cell? ⟨B, 0, none⟩ = some (.slice C 4 4) ∧ W.cell? ⟨B, 1, none⟩ = some (.int .i64 0) ∧ W.cell? ⟨B, 2, none⟩ = some (.int .i64 0) ∧ W.cell? ⟨B, 3, none⟩ = some (.int .i64 0) ∧ W.cell? ⟨Q, 0, none⟩ = some (.int .i64 3) ∧ W.cell? ⟨Q, 1, none⟩ = some (.bool true) :=
  ⟨h, h.g.c.1, h.g.c.2.1, h.g.c.2.2.1, h.g.c.2.2.2, by rw [cell_row h.r]; rfl, by rw [cell_row h.r]; rfl⟩

set_option maxHeartbeats 60000000 in
theorem known12 (w : World) : Calls Try.prog 12 #[] w fun e w' => e = .returned (.bool true) ∧ Below w.heap.size w w' := by
  go_enter Try.func12, Try.ntmps12
  go_wp2_with fail
  refine (cracked39 _).mono ?_
  rintro e w2 ⟨C, rfl, hP, -, hb1⟩
  unfold cyl
  have hg0 := Gk.new hb1 hP
  have G := Lib.hid hg0
  clear hP hb1 hg0
  go_wp2_with fail
  generalize (w2.alloc (.cells #[.slice C 4 4, .int .i64 0, .int .i64 0, .int .i64 0] 26)) = V0 at G ⊢
  generalize w2.heap.size = B at G ⊢
  refine (nth23 C 4 4 0 0 0 0 psC _ G.out.p1 (by omega)).mono ?_
  rintro e V1 ⟨C1, m1, rfl, hs, hb⟩
  rw [show (⟨psC, 0, ⟨0, 0⟩⟩ : Cy) = cC from rfl, k1] at hs ⊢
  replace G := Lib.hid (G.out.next hb)
  obtain rfl : 4 = m1 := hs.1
  have S1 := Lib.hid hs
  clear hs
  clear hb
  obtain ⟨c0, c1, c2, c3⟩ := G.out.c
  go_wp2_with fail
  refine (nth23 C 4 4 0 0 0 3 psC _ G.out.p1 (by omega)).mono ?_
  rintro e V2 ⟨C2, m2, rfl, hs, hb⟩
  rw [show (⟨psC, 0, ⟨0, 0⟩⟩ : Cy) = cC from rfl, k2] at hs ⊢
  replace S1 := Lib.hid (S1.out.below hb (Nat.le_refl _))
  replace G := Lib.hid (G.out.next hb)
  obtain rfl : 4 = m2 := hs.1
  have S2 := Lib.hid hs
  clear hs
  clear hb
  clear c0 c1 c2 c3
  obtain ⟨c0, c1, c2, c3⟩ := G.out.c
  go_wp2_with fail
  refine (nth23 C 4 4 0 0 0 4 psC _ G.out.p1 (by omega)).mono ?_
  rintro e V3 ⟨C3, m3, rfl, hs, hb⟩
  rw [show (⟨psC, 0, ⟨0, 0⟩⟩ : Cy) = cC from rfl, k3] at hs ⊢
  replace S1 := Lib.hid (S1.out.below hb (Nat.le_refl _))
  replace S2 := Lib.hid (S2.out.below hb (Nat.le_refl _))
  replace G := Lib.hid (G.out.next hb)
  clear hs
  clear hb
  clear c0 c1 c2 c3
  obtain ⟨c0, c1, c2, c3⟩ := G.out.c
  go_wp2_with fail
  refine (riv32 C 4 4 0 0 0 0 false psC _ G.out.p1 (by omega)).mono ?_
  rintro e V4 ⟨C4, m4, cp4, rfl, hcp, hs, hb⟩
  rw [show (⟨psC, 0, ⟨0, 0⟩⟩ : Cy) = cC from rfl, k4] at hs ⊢
  replace S1 := Lib.hid (S1.out.below hb (Nat.le_refl _))
  replace S2 := Lib.hid (S2.out.below hb (Nat.le_refl _))
  replace G := Lib.hid (G.out.next hb)
  obtain rfl : 3 = m4 := hs.1
  have S4 := Lib.hid hs
  clear hs hcp
  clear hb
  clear c0 c1 c2 c3
  obtain ⟨c0, c1, c2, c3⟩ := G.out.c
  go_wp2_with fail
  refine (riv32 C 4 4 0 0 0 2 false psC _ G.out.p1 (by omega)).mono ?_
  rintro e V5 ⟨C5, m5, cp5, rfl, hcp, hs, hb⟩
  rw [show (⟨psC, 0, ⟨0, 0⟩⟩ : Cy) = cC from rfl, k5] at hs ⊢
  replace S1 := Lib.hid (S1.out.below hb (Nat.le_refl _))
  replace S2 := Lib.hid (S2.out.below hb (Nat.le_refl _))
  replace S4 := Lib.hid (S4.out.below hb (Nat.le_refl _))
  replace G := Lib.hid (G.out.next hb)
  obtain rfl : 0 = m5 := hs.1
  clear hs hcp
  clear hb
  clear c0 c1 c2 c3
  go_wp2_with fail
  refine (whole40 _).mono ?_
  rintro e V6 ⟨D, rfl, hPD, hb⟩
  replace G := Lib.hid (G.out.next hb)
  replace S1 := Lib.hid (S1.out.below hb (Nat.le_refl _))
  replace S2 := Lib.hid (S2.out.below hb (Nat.le_refl _))
  replace S4 := Lib.hid (S4.out.below hb (Nat.le_refl _))
  clear hb
  unfold cyl
  have PD := Lib.hid hPD
  clear hPD
  go_wp2_with fail
  refine (fits14 D 3 4 0 0 0 2 0 false false psD _ PD.out (by omega)).mono ?_
  rintro e V7 ⟨rfl, hb⟩
  rw [show (⟨psD, 0, ⟨0, 0⟩⟩ : Cy) = cD from rfl, k6]
  replace G := Lib.hid (G.out.next hb)
  replace S1 := Lib.hid (S1.out.below hb (Nat.le_refl _))
  replace S2 := Lib.hid (S2.out.below hb (Nat.le_refl _))
  replace S4 := Lib.hid (S4.out.below hb (Nat.le_refl _))
  clear hb PD
  go_wp2_with fail
  have q1 := heap_alloc_new_ V7 (.cells #[.int .i64 3, .bool true] 28)
  have q2 := below_alloc_ V7 (.cells #[.int .i64 3, .bool true] 28)
  have hk : Kj w B V7.heap.size C C1 C2 C4 (V7.alloc (.cells #[.int .i64 3, .bool true] 28)) := ⟨G.out.next q2, S1.out.below q2 (Nat.le_refl _), S2.out.below q2 (Nat.le_refl _), S4.out.below q2 (Nat.le_refl _), q1⟩
  generalize V7.alloc (.cells #[.int .i64 3, .bool true] 28) = V8 at hk ⊢
  generalize V7.heap.size = Q at hk ⊢
  have G2 := hk.all
  clear q1 q2 G S1 S2 S4 hk
  simp only [List.append]
  go_region_held3 (fun w' => Kj w B Q C C1 C2 C4 w' ∧ w'.cell? ⟨B, 0, none⟩ = some (.slice C 4 4) ∧ w'.cell? ⟨B, 1, none⟩ = some (.int .i64 0) ∧ w'.cell? ⟨B, 2, none⟩ = some (.int .i64 0) ∧ w'.cell? ⟨B, 3, none⟩ = some (.int .i64 0) ∧ w'.cell? ⟨Q, 0, none⟩ = some (.int .i64 3) ∧ w'.cell? ⟨Q, 1, none⟩ = some (.bool true))
    (first | (go_split_ands; exact Kj.all (Kj.next (by assumption) (by assumption))) | (go_split_ands; exact Kj.all (Kj.next (below_alloc_ _ _) (by assumption))) | (go_split_ands; exact Kj.all (Kj.next (drew_b _ _) (by assumption))))
    (first
      | (go_at_call 41; refine (on41g _ _ _ _ ?_ ?_ ?_).mono ?_; (first | (refine ints_four ?_ ?_ ?_ ?_ <;> go_simp) | (refine ints_three ?_ ?_ ?_ <;> go_simp)); rfl; omega; rintro e w' ⟨C9, cp9, rfl, hcp, hS9, hb⟩)
      | (go_at_call 29; go_split_ands; refine (same29_eq _ _ _ _ _ ?_ _ ?_ ?_ (by omega)).mono ?_; rotate_left; (first | exact Kj.s1 (by assumption) | exact Kj.s2 (by assumption) | exact Kj.s4 (by assumption)); (first | assumption | (refine sts_four ?_ ?_ ?_ ?_ ?_ ?_ ?_ ?_ <;> go_simp) | (refine sts_three ?_ ?_ ?_ ?_ ?_ ?_ <;> go_simp)); rintro e w' ⟨rfl, hb⟩)
      | (go_at_call 18; go_split_ands; refine (checkJoin18 C _ 4 4 3 _ 0 0 0 psC ((lstN 3).map fun p : Nat => (⟨(p : Int), false⟩ : St)) _ (Gk.p1 (Kj.g (by assumption))) (by assumption) (by omega) (by omega) (by assumption)).mono ?_; rintro e w' ⟨rfl, hb⟩; rw [k7'])
      | (go_at_call 13; refine (works13 _).mono ?_; rintro e w' ⟨rfl, hb⟩))
  go_wp2
  go_ret
  have hfin : Kj w B Q C C1 C2 C4 w' := And.left (by assumption)
  exact ⟨rfl, hfin.g.below⟩
end Go.Proofs.Ytfmcfalghbaanaa
