/- Stage 3: blocks of tones change their places: swapRange and rotate. -/
import Derived.Test.YtdfdlklglbefiaaSrt
namespace Go.Proofs.Ytdfdlklglbefiaa
set_option linter.unusedSimpArgs false
set_option linter.unusedVariables false
open Go.RowKit Go.Shelf

/-- What a part of a sort hands back. -/
def SortPost (S a b : Nat) (key : Tn → Int) (xs : List Tn) (w : World) (e : Ending) (w' : World) : Prop := e = .returned (.tuple #[]) ∧ ∃ ys, RowT w' S ys ∧ Mv a b ys xs ∧ Srt key a b ys ∧ Keeps (fun k => k = S) w w'

set_option maxRecDepth 100000 in
set_option maxHeartbeats 8000000 in
theorem ins113 (S n cap a b g : Nat) (cb : Array Value) (key : Tn → Int) (xs : List Tn) (w : World) (hrow : RowT w S xs) (hl : xs.length = n) (hn : n ≤ 1000000) (hab : a ≤ b) (hb : b ≤ n) (hcmp : CmpOK g cb key S w) (eg : ∀ args w, (callFunc g args).run Try.prog w = .ok (.enter g args) w) :
    Calls Try.prog 113 #[.slice (some ⟨S, 0, none⟩) n cap, .int .i64 (a : Int), .int .i64 (b : Int), .func (.func g) #[] cb] w (SortPost S a b key xs w) := by
  have Hcmp := Lib.hid hcmp
  have hb0 := Lib.hid hb
  have Hrow := Lib.hid hrow
  have Hl := Lib.hid hl
  clear hcmp hrow hl
  go_enter Try.func113, Try.ntmps113
  go_wp2_with fail
  go_loopw [8] (fun i wr => ∃ (k : Nat) (ys : List Tn), i = .int .i64 (k : Int) ∧ a + 1 ≤ k ∧ k ≤ max (a + 1) b ∧ Hid (RowT wr S ys ∧ Mv a b ys xs ∧ Srt key a k ys ∧ Keeps (fun k => k = S) w wr)) (fun i _ => b + 1 - (intOf i).toNat)
  case atStart => exact ⟨a + 1, xs, by go_num, Nat.le_refl _, by omega, Lib.hid ⟨Hrow.out, Mv.refl _ _ _, fun p q h1 h2 h3 => by omega, Keeps.refl _ _⟩⟩
  case round =>
    obtain ⟨k, ys, rfl, hk1, hk2, HI⟩ := hrel
    obtain ⟨wk, rfl⟩ : ∃ wk, wk = wr := ⟨_, rfl⟩
    by_cases hlt : k < b
    · have i1 : (k : Int) < (b : Int) := by omega
      go_wp2_with fail
      go_loopw [9] (fun i wr => ∃ (j : Nat) (zs : List Tn), i = .int .i64 (j : Int) ∧ a ≤ j ∧ j ≤ k ∧ Hid (RowT wr S zs ∧ Mv a b zs xs ∧ Bub key a k j zs ∧ Keeps (fun k => k = S) w wr)) (fun i _ => (intOf i).toNat)
      case atStart => exact ⟨k, ys, rfl, by omega, Nat.le_refl _, Lib.hid ⟨HI.out.1, HI.out.2.1, Bub.start HI.out.2.2.1, HI.out.2.2.2⟩⟩
      case round =>
        obtain ⟨j, zs, rfl, hj1, hj2, HJ⟩ := hrel
        obtain ⟨wj, rfl⟩ : ∃ wj, wj = wr := ⟨_, rfl⟩
        by_cases hja : a < j
        · obtain ⟨p, rfl⟩ : ∃ p, j = p + 1 := ⟨j - 1, by omega⟩
          have hzl : zs.length = n := HJ.out.2.1.len.trans Hl.out
          obtain ⟨c0, c1, c2⟩ := HJ.out.1.cells (j := p) (by omega)
          obtain ⟨d0, d1, d2⟩ := HJ.out.1.cells (j := p + 1) (by omega)
          obtain ⟨x, hx⟩ : ∃ x, tAt zs p = x := ⟨_, rfl⟩
          obtain ⟨y, hy⟩ : ∃ y, tAt zs (p + 1) = y := ⟨_, rfl⟩
          rw [hx] at c0 c1 c2
          rw [hy] at d0 d1 d2
          have HX := Lib.hid (And.intro hx hy)
          have Hzl := Lib.hid hzl
          obtain ⟨c, hc⟩ : ∃ c, cmpI (key y) (key x) = c := ⟨_, rfl⟩
          have Hc := Lib.hid hc
          have ja : (a : Int) < (p : Int) + 1 := by omega
          have j0 : (0 : Int) ≤ (p : Int) + 1 := by omega
          have j1 : (p : Int) + 1 < (n : Int) := by omega
          have j2 : (0 : Int) ≤ (p : Int) := by omega
          have j3 : (p : Int) < (n : Int) := by omega
          have e1 : ((p : Int) + 1).toNat = p + 1 := by omega
          have e2 : ((p + 1 : Nat) : Int) = (p : Int) + 1 := by omega
          have hcw : ∀ W', Below wj.heap.size wj W' → Calls Try.prog g (#[.agg #[.int .i64 y.r.lo, .int .i64 y.r.hi, .int .i64 (y.nm : Int)], .agg #[.int .i64 x.r.lo, .int .i64 x.r.hi, .int .i64 (x.nm : Int)]] ++ cb) W' fun e W2 => e = .returned (.int .i64 c) ∧ Below W'.heap.size W' W2 := fun W' hW => by
            rw [← hc]
            exact Hcmp.out W' y x (HJ.out.2.2.2.trans (Keeps.of_new hW))
          have w1 : IntKind.i64.wrap ((p : Int) + 1 - 1) = (p : Int) := by rw [IntKind.wrap_i64]; omega
          have w2 : IntKind.i64.wrap (p : Int) = (p : Int) := by rw [IntKind.wrap_i64]; omega
          have HS := Lib.hid (show ∀ W', Below wj.heap.size wj W' → (Below wj.heap.size wj W' ∧ W'.cell? ⟨S, p * 3, none⟩ = some (.int .i64 x.r.lo) ∧ W'.cell? ⟨S, p * 3 + 1, none⟩ = some (.int .i64 x.r.hi) ∧ W'.cell? ⟨S, p * 3 + 2, none⟩ = some (.int .i64 (x.nm : Int)) ∧ W'.cell? ⟨S, (p + 1) * 3, none⟩ = some (.int .i64 y.r.lo) ∧ W'.cell? ⟨S, (p + 1) * 3 + 1, none⟩ = some (.int .i64 y.r.hi) ∧ W'.cell? ⟨S, (p + 1) * 3 + 2, none⟩ = some (.int .i64 (y.nm : Int))) from fun W' hW => by
            have hr := HJ.out.1.below hW
            obtain ⟨c0, c1, c2⟩ := hr.cells (j := p) (by omega)
            obtain ⟨d0, d1, d2⟩ := hr.cells (j := p + 1) (by omega)
            rw [hx] at c0 c1 c2
            rw [hy] at d0 d1 d2
            exact ⟨hW, c0, c1, c2, d0, d1, d2⟩)
          clear hx hy hc hzl
          by_cases hc0 : c < 0
          · have t1 : decide (c < 0) = true := decide_eq_true hc0
            have Hc0 := Lib.hid hc0
            clear hc0
            go_wp2_with fail
            go_region_held3 (fun W' => Below wj.heap.size wj W' ∧ W'.cell? ⟨S, p * 3, none⟩ = some (.int .i64 x.r.lo) ∧ W'.cell? ⟨S, p * 3 + 1, none⟩ = some (.int .i64 x.r.hi) ∧ W'.cell? ⟨S, p * 3 + 2, none⟩ = some (.int .i64 (x.nm : Int)) ∧ W'.cell? ⟨S, (p + 1) * 3, none⟩ = some (.int .i64 y.r.lo) ∧ W'.cell? ⟨S, (p + 1) * 3 + 1, none⟩ = some (.int .i64 y.r.hi) ∧ W'.cell? ⟨S, (p + 1) * 3 + 2, none⟩ = some (.int .i64 (y.nm : Int)))
              (first | exact HS.out _ (drew_b wj 1) | (go_split_ands; exact HS.out _ (Below.trans (by assumption) (Below.mono (by assumption) (Below.size (by assumption))))))
              (first | (go_split_ands; refine (hcw _ (by assumption)).mono ?_; rintro e w' ⟨rfl, hb⟩))
            have hS9 : Below wj.heap.size wj w' := And.left (by assumption)
            have hrw := HJ.out.1.below hS9
            have HB9 := Lib.hid hS9
            have Hrw := Lib.hid hrw
            clear hS9 hrw hb hcw
            obtain ⟨v, hv⟩ : ∃ v, w' = v := ⟨_, rfl⟩
            rw [hv] at HB9 Hrw ⊢
            clear hv
            go_wp2_with fail
            obtain ⟨c0, c1, c2⟩ := Hrw.out.cells (j := p) (by rw [Hzl.out]; omega)
            obtain ⟨d0, d1, d2⟩ := Hrw.out.cells (j := p + 1) (by rw [Hzl.out]; omega)
            rw [HX.out.1] at c0 c1 c2
            rw [HX.out.2] at d0 d1 d2
            have fz : ∀ q, v.frozen? ⟨S, q, none⟩ = false := fun q => Hrw.out.fz q
            go_region
            all_goals (go_wp2_with fail)
            go_roundw
            case rel =>
              have hp1 : p + 1 < zs.length := by rw [Hzl.out]; omega
              have hk := (putT_keeps v S (p + 1) x).trans (putT_keeps (putT v S (p + 1) x) S p y)
              have hr2 : RowT ((putT (putT v S (p + 1) x) S p y)) S (swpT zs (p + 1) p) := by
                have h1 := (Hrw.out.put hp1 x).put (j := p) (by rw [List.length_set]; omega) y
                unfold swpT
                rw [HX.out.1, HX.out.2]
                exact h1
              refine ⟨p, swpT zs (p + 1) p, rfl, by omega, by omega, Lib.hid ⟨hr2.below (drew_b _ 1), (swpT_mv (by rw [Hzl.out]; exact hb0.out) ⟨by omega, by omega⟩ ⟨by omega, by omega⟩).trans HJ.out.2.1, HJ.out.2.2.1.step (by rw [Hzl.out]; omega) (by omega) (by omega) ?_, (HJ.out.2.2.2.trans (Keeps.of_new HB9.out)).trans (hk.trans (Keeps.of_new (drew_b _ 1)))⟩⟩
              rw [HX.out.1, HX.out.2]
              have := Hc0.out
              rw [← Hc.out, cmpI_neg] at this
              exact this
            case measure => simp [intOf]
          · have t1 : decide (c < 0) = false := decide_eq_false hc0
            have Hc0 := Lib.hid hc0
            clear hc0
            go_wp2_with fail
            go_region_held3 (fun W' => Below wj.heap.size wj W' ∧ W'.cell? ⟨S, p * 3, none⟩ = some (.int .i64 x.r.lo) ∧ W'.cell? ⟨S, p * 3 + 1, none⟩ = some (.int .i64 x.r.hi) ∧ W'.cell? ⟨S, p * 3 + 2, none⟩ = some (.int .i64 (x.nm : Int)) ∧ W'.cell? ⟨S, (p + 1) * 3, none⟩ = some (.int .i64 y.r.lo) ∧ W'.cell? ⟨S, (p + 1) * 3 + 1, none⟩ = some (.int .i64 y.r.hi) ∧ W'.cell? ⟨S, (p + 1) * 3 + 2, none⟩ = some (.int .i64 (y.nm : Int)))
              (first | exact HS.out _ (drew_b wj 1) | (go_split_ands; exact HS.out _ (Below.trans (by assumption) (Below.mono (by assumption) (Below.size (by assumption))))))
              (first | (go_split_ands; refine (hcw _ (by assumption)).mono ?_; rintro e w' ⟨rfl, hb⟩))
            have hS9 : Below wj.heap.size wj w' := And.left (by assumption)
            have HB9 := Lib.hid hS9
            clear hS9 hcw
            obtain ⟨v, hv⟩ : ∃ v, w' = v := ⟨_, rfl⟩
            rw [hv] at HB9 ⊢
            clear hv
            go_wp2_with fail
            go_roundw
            case rel =>
              refine ⟨k + 1, zs, by go_num, by omega, by omega, Lib.hid ⟨HJ.out.1.below HB9.out, HJ.out.2.1, HJ.out.2.2.1.stop (.inr ?_), HJ.out.2.2.2.trans (Keeps.of_new HB9.out)⟩⟩
              rw [Nat.add_sub_cancel, HX.out.1, HX.out.2]
              have h9 := Hc0.out
              rw [← Hc.out] at h9
              have h8 := cmpI_neg (key y) (key x)
              omega
            case measure => simp [intOf]; omega
        · have e : j = a := by omega
          subst e
          have t0 : decide ((j : Int) < (j : Int)) = false := decide_eq_false (by omega)
          have t2 : ¬ (j : Int) < (j : Int) := by omega
          go_wp2_with fail
          go_quiet (fail)
          go_wp2_with fail
          go_roundw
          case rel => exact ⟨k + 1, zs, by go_num, by omega, by omega, Lib.hid ⟨HJ.out.1.below (drew_b _ _), HJ.out.2.1, HJ.out.2.2.1.stop (.inl (Nat.le_refl _)), HJ.out.2.2.2.trans (Keeps.of_new (drew_b _ _))⟩⟩
          case measure => simp [intOf]; omega
    · go_wp2_with fail
      go_end0
      refine ⟨rfl, ys, HI.out.1, HI.out.2.1, ?_, HI.out.2.2.2⟩
      intro p q h1 h2 h3
      exact HI.out.2.2.1 p q h1 h2 (by omega)
end Go.Proofs.Ytdfdlklglbefiaa

namespace Go.Proofs.Ytdfdlklglbefiaa
set_option linter.unusedSimpArgs false
set_option linter.unusedVariables false
open Go.RowKit Go.Shelf

/-- Two blocks of n change their places. -/
def swpF (f : Nat → Tn) (a b n : Nat) : Nat → Tn := fun k => if a ≤ k ∧ k < a + n then f (b + (k - a)) else if b ≤ k ∧ k < b + n then f (a + (k - b)) else f k
/-- What is from a to m, and what is from m to b, change their places. -/
def rotF (f : Nat → Tn) (a m b : Nat) : Nat → Tn := fun k => if a ≤ k ∧ k < a + (b - m) then f (k + (m - a)) else if a + (b - m) ≤ k ∧ k < b then f (k - (b - m)) else f k
theorem swpF_zero (f : Nat → Tn) (a b : Nat) : swpF f a b 0 = f := by
  funext k
  unfold swpF
  rw [if_neg (by omega), if_neg (by omega)]
theorem rot_step1 (f : Nat → Tn) {m i j : Nat} (hj : j < i) (hi : i ≤ m) : rotF (swpF f (m - i) m j) (m - i + j) m (m + j) = rotF f (m - i) m (m + j) := by
  funext k
  simp only [rotF, swpF]
  repeat' split
  all_goals first | (exfalso; omega) | (congr 1; omega) | rfl
theorem rot_step2 (f : Nat → Tn) {m i j : Nat} (hj : i < j) (hi : i ≤ m) : rotF (swpF f (m - i) (m + j - i) i) (m - i) m (m + (j - i)) = rotF f (m - i) m (m + j) := by
  funext k
  simp only [rotF, swpF]
  repeat' split
  all_goals first | (exfalso; omega) | (congr 1; omega) | rfl
theorem rot_end (f : Nat → Tn) {m i : Nat} (hi : i ≤ m) : swpF f (m - i) m i = rotF f (m - i) m (m + i) := by
  funext k
  simp only [rotF, swpF]
  repeat' split
  all_goals first | (exfalso; omega) | (congr 1; omega) | rfl
theorem swpF_succ {ys : List Tn} {f : Nat → Tn} {a b i : Nat} (h : tAt ys = swpF f a b i) (hab : a + i < b) (hl : b + i < ys.length) : tAt (swpT ys (a + i) (b + i)) = swpF f a b (i + 1) := by
  funext k
  rw [swpT_at (by omega) (by omega), h]
  simp only [swpF]
  repeat' split
  all_goals first | (exfalso; omega) | (congr 1; omega) | rfl

set_option maxRecDepth 100000 in
set_option maxHeartbeats 8000000 in
theorem swp118 (S n cap a b c : Nat) (fv : Value) (xs : List Tn) (w : World) (hrow : RowT w S xs) (hl : xs.length = n) (hn : n ≤ 1000000) (hab : a + c ≤ b) (hb : b + c ≤ n) :
    Calls Try.prog 118 #[.slice (some ⟨S, 0, none⟩) n cap, .int .i64 (a : Int), .int .i64 (b : Int), .int .i64 (c : Int), fv] w fun e w' => e = .returned (.tuple #[]) ∧ ∃ ys, RowT w' S ys ∧ Mv a (b + c) ys xs ∧ tAt ys = swpF (tAt xs) a b c ∧ Keeps (fun k => k = S) w w' := by
  have Hrow := Lib.hid hrow
  have Hl := Lib.hid hl
  clear hrow hl
  go_enter Try.func118, Try.ntmps118
  go_wp2_with fail
  go_loopw [10] (fun i wr => ∃ (k : Nat) (ys : List Tn), i = .int .i64 (k : Int) ∧ k ≤ c ∧ Hid (RowT wr S ys ∧ Mv a (b + c) ys xs ∧ tAt ys = swpF (tAt xs) a b k ∧ Keeps (fun k => k = S) w wr)) (fun i _ => c - (intOf i).toNat)
  case atStart => exact ⟨0, xs, rfl, Nat.zero_le _, Lib.hid ⟨Hrow.out, Mv.refl _ _ _, (swpF_zero _ _ _).symm, Keeps.refl _ _⟩⟩
  case round =>
    obtain ⟨k, ys, rfl, hk, HI⟩ := hrel
    obtain ⟨wk, rfl⟩ : ∃ wk, wk = wr := ⟨_, rfl⟩
    by_cases hlt : k < c
    · have i1 : (k : Int) < (c : Int) := by omega
      have hyl : ys.length = n := HI.out.2.1.len.trans Hl.out
      have HD : Hid (RowT wk S ys) := HI.out.1
      obtain ⟨c0, c1, c2⟩ := HD.out.cells (j := a + k) (by omega)
      obtain ⟨d0, d1, d2⟩ := HD.out.cells (j := b + k) (by omega)
      obtain ⟨x, hx⟩ : ∃ x, tAt ys (a + k) = x := ⟨_, rfl⟩
      obtain ⟨y, hy⟩ : ∃ y, tAt ys (b + k) = y := ⟨_, rfl⟩
      rw [hx] at c0 c1 c2
      rw [hy] at d0 d1 d2
      have HX := Lib.hid (And.intro hx hy)
      have Hyl := Lib.hid hyl
      have fz : ∀ q, wk.frozen? ⟨S, q, none⟩ = false := fun q => HD.out.fz q
      have e1 : ((a : Int) + (k : Int)).toNat = a + k := by omega
      have e2 : ((b : Int) + (k : Int)).toNat = b + k := by omega
      have b1 : (0 : Int) ≤ (a : Int) + (k : Int) := by omega
      have b2 : (0 : Int) ≤ (b : Int) + (k : Int) := by omega
      have b3 : (a : Int) + (k : Int) < (n : Int) := by omega
      have b4 : (b : Int) + (k : Int) < (n : Int) := by omega
      have w1 : IntKind.i64.wrap ((a : Int) + (k : Int)) = (a : Int) + (k : Int) := IntWalk.i64_in _ ⟨by omega, by omega⟩
      have w2 : IntKind.i64.wrap ((b : Int) + (k : Int)) = (b : Int) + (k : Int) := IntWalk.i64_in _ ⟨by omega, by omega⟩
      clear hx hy hyl
      go_wp2_with fail
      go_region
      all_goals (go_wp2_with fail)
      go_roundw
      case rel =>
        have hyl : ys.length = n := Hyl.out
        have hk2 := (putT_keeps wk (S) (a + k) y).trans (putT_keeps (putT wk S (a + k) y) S (b + k) x)
        have hr2 : RowT (putT (putT wk S (a + k) y) S (b + k) x) S (swpT ys (a + k) (b + k)) := by
          have h1 := (HI.out.1.put (j := a + k) (by omega) y).put (j := b + k) (by rw [List.length_set]; omega) x
          unfold swpT
          rw [HX.out.1, HX.out.2]
          exact h1
        exact ⟨k + 1, swpT ys (a + k) (b + k), by go_num, by omega, Lib.hid ⟨hr2.below (drew_b _ 1), (swpT_mv (by omega) ⟨by omega, by omega⟩ ⟨by omega, by omega⟩).trans HI.out.2.1, swpF_succ HI.out.2.2.1 (by omega) (by omega), HI.out.2.2.2.trans (hk2.trans (Keeps.of_new (drew_b _ 1)))⟩⟩
      case measure => simp [intOf]; omega
    · have e : k = c := by omega
      subst e
      go_wp2_with fail
      go_end0
      exact ⟨rfl, ys, HI.out.1, HI.out.2.1, HI.out.2.2.1, HI.out.2.2.2⟩

set_option maxRecDepth 100000 in
set_option maxHeartbeats 8000000 in
theorem rot117 (S n cap a m b : Nat) (fv : Value) (xs : List Tn) (w : World) (hrow : RowT w S xs) (hl : xs.length = n) (hn : n ≤ 1000000) (ham : a < m) (hmb : m < b) (hb : b ≤ n) :
    Calls Try.prog 117 #[.slice (some ⟨S, 0, none⟩) n cap, .int .i64 (a : Int), .int .i64 (m : Int), .int .i64 (b : Int), fv] w fun e w' => e = .returned (.tuple #[]) ∧ ∃ ys, RowT w' S ys ∧ Mv a b ys xs ∧ tAt ys = rotF (tAt xs) a m b ∧ Keeps (fun k => k = S) w w' := by
  have Hrow := Lib.hid hrow
  have Hl := Lib.hid hl
  clear hrow hl
  go_enter Try.func117, Try.ntmps117
  go_wp2_with fail
  go_loopw [10, 11] (fun u v wr => ∃ (i j : Nat) (ys : List Tn), u = .int .i64 (i : Int) ∧ v = .int .i64 (j : Int) ∧ 0 < i ∧ 0 < j ∧ a + i ≤ m ∧ m + j ≤ b ∧ Hid (RowT wr S ys ∧ Mv a b ys xs ∧ rotF (tAt ys) (m - i) m (m + j) = rotF (tAt xs) a m b ∧ Keeps (fun k => k = S) w wr)) (fun u v _ => (intOf u).toNat + (intOf v).toNat)
  case atStart => exact ⟨m - a, b - m, xs, by go_num, by go_num, by omega, by omega, by omega, by omega, Lib.hid ⟨Hrow.out, Mv.refl _ _ _, by rw [show m - (m - a) = a by omega, show m + (b - m) = b by omega], Keeps.refl _ _⟩⟩
  case round =>
    obtain ⟨i, j, ys, rfl, rfl, hi0, hj0, him, hjb, HI⟩ := hrel
    obtain ⟨wk, rfl⟩ : ∃ wk, wk = wr := ⟨_, rfl⟩
    have w1 : IntKind.i64.wrap ((m : Int) - (i : Int)) = ((m - i : Nat) : Int) := by rw [IntWalk.i64_in _ ⟨by omega, by omega⟩]; omega
    have Hyl : Hid (ys.length = n) := HI.out.2.1.len.trans Hl.out
    by_cases hij : i = j
    · subst hij
      have d1 : ((i : Int) != (i : Int)) = false := by rw [bne_eq_false_iff_eq]
      go_wp2_with fail
      refine (swp118 S n cap (m - i) m i fv ys wk HI.out.1 Hyl.out (by omega) (by omega) (by omega)).mono ?_
      rintro e w2 ⟨rfl, zs, h1, h2, h3, h4⟩
      have HF := Lib.hid (And.intro h1 (And.intro h2 (And.intro h3 h4)))
      clear h1 h2 h3 h4
      go_wp2_with fail
      go_end0
      exact ⟨rfl, zs, HF.out.1, (HF.out.2.1.mono (by omega) (by omega)).trans HI.out.2.1, by rw [HF.out.2.2.1, rot_end _ (by omega), HI.out.2.2.1], HI.out.2.2.2.trans HF.out.2.2.2⟩
    · have d1 : ((i : Int) != (j : Int)) = true := by rw [bne_iff_ne]; omega
      by_cases hlt : j < i
      · have d2 : decide ((j : Int) < (i : Int)) = true := decide_eq_true (by omega)
        have w2 : IntKind.i64.wrap ((i : Int) - (j : Int)) = ((i - j : Nat) : Int) := by rw [IntWalk.i64_in _ ⟨by omega, by omega⟩]; omega
        go_wp2_with fail
        refine (swp118 S n cap (m - i) m j fv ys wk HI.out.1 Hyl.out (by omega) (by omega) (by omega)).mono ?_
        rintro e w2 ⟨rfl, zs, h1, h2, h3, h4⟩
        have HF := Lib.hid (And.intro h1 (And.intro h2 (And.intro h3 h4)))
        clear h1 h2 h3 h4
        go_wp2_with fail
        go_roundw
        case rel => exact ⟨i - j, j, zs, rfl, rfl, by omega, by omega, by omega, by omega, Lib.hid ⟨HF.out.1, (HF.out.2.1.mono (by omega) (by omega)).trans HI.out.2.1, by rw [HF.out.2.2.1, ← HI.out.2.2.1, show m - (i - j) = m - i + j by omega]; exact rot_step1 _ hlt (by omega), HI.out.2.2.2.trans HF.out.2.2.2⟩⟩
        case measure => simp [intOf]; omega
      · have d2 : decide ((j : Int) < (i : Int)) = false := decide_eq_false (by omega)
        have w2 : IntKind.i64.wrap ((j : Int) - (i : Int)) = ((j - i : Nat) : Int) := by rw [IntWalk.i64_in _ ⟨by omega, by omega⟩]; omega
        have w3 : IntKind.i64.wrap ((m : Int) + (j : Int)) = (m : Int) + (j : Int) := IntWalk.i64_in _ ⟨by omega, by omega⟩
        have w4 : IntKind.i64.wrap ((m : Int) + (j : Int) - (i : Int)) = ((m + j - i : Nat) : Int) := by rw [IntWalk.i64_in _ ⟨by omega, by omega⟩]; omega
        go_wp2_with fail
        refine (swp118 S n cap (m - i) (m + j - i) i fv ys wk HI.out.1 Hyl.out (by omega) (by omega) (by omega)).mono ?_
        rintro e w2 ⟨rfl, zs, h1, h2, h3, h4⟩
        have HF := Lib.hid (And.intro h1 (And.intro h2 (And.intro h3 h4)))
        clear h1 h2 h3 h4
        go_wp2_with fail
        go_roundw
        case rel => exact ⟨i, j - i, zs, rfl, rfl, by omega, by omega, by omega, by omega, Lib.hid ⟨HF.out.1, (HF.out.2.1.mono (by omega) (by omega)).trans HI.out.2.1, by rw [HF.out.2.2.1, ← HI.out.2.2.1]; exact rot_step2 _ (by omega) (by omega), HI.out.2.2.2.trans HF.out.2.2.2⟩⟩
        case measure => simp [intOf]; omega
end Go.Proofs.Ytdfdlklglbefiaa
