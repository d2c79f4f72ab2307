/- Stage 3: two sorted parts are merged: the last tone, and all. -/
import Derived.Test.YtdfdlklglbefiaaRot
namespace Go.Proofs.Ytdfdlklglbefiaa
set_option linter.unusedSimpArgs false
set_option linter.unusedVariables false
open Go.RowKit Go.Shelf

/-- The contract of symMerge at parts of at most N tones. -/
def SymHyp (S n cap g : Nat) (cb : Array Value) (key : Tn → Int) (w0 : World) (N : Nat) : Prop :=
  ∀ (a m b : Nat) (xs : List Tn) (w : World), b - a ≤ N → a < m → m < b → b ≤ n → RowT w S xs → xs.length = n → Srt key a m xs → Srt key m b xs → Keeps (fun k => k = S) w0 w →
    Calls Try.prog 114 #[.slice (some ⟨S, 0, none⟩) n cap, .int .i64 (a : Int), .int .i64 (m : Int), .int .i64 (b : Int), .func (.func g) #[] cb] w (SortPost S a b key xs w)
/-- The tone at a is moved up to k. -/
def upF (f : Nat → Tn) (a k : Nat) : Nat → Tn := fun p => if a ≤ p ∧ p < k then f (p + 1) else if p = k then f a else f p
theorem upF_zero (f : Nat → Tn) (a : Nat) : upF f a a = f := by
  funext p; unfold upF; rw [if_neg (by omega)]; split
  · rename_i h; rw [h]
  · rfl
theorem upF_succ {ys : List Tn} {f : Nat → Tn} {a k : Nat} (h : tAt ys = upF f a k) (hk : a ≤ k) (hl : k + 1 < ys.length) : tAt (swpT ys k (k + 1)) = upF f a (k + 1) := by
  funext p
  rw [swpT_at (by omega) (by omega), h]
  simp only [upF]
  repeat' split
  all_goals first | (exfalso; omega) | (congr 1; omega) | rfl | (exfalso; simp_all; done) | (exfalso; simp_all; omega)
/-- The tone at m is moved down to k. -/
def dnF (f : Nat → Tn) (m k : Nat) : Nat → Tn := fun p => if k < p ∧ p ≤ m then f (p - 1) else if p = k then f m else f p
theorem dnF_zero (f : Nat → Tn) (m : Nat) : dnF f m m = f := by
  funext p; unfold dnF; rw [if_neg (by omega)]; split
  · rename_i h; rw [h]
  · rfl
theorem dnF_succ {ys : List Tn} {f : Nat → Tn} {m k : Nat} (h : tAt ys = dnF f m (k + 1)) (hk : k + 1 ≤ m) (hl : k + 1 < ys.length) : tAt (swpT ys (k + 1) k) = dnF f m k := by
  funext p
  rw [swpT_at (by omega) (by omega), h]
  simp only [dnF]
  repeat' split
  all_goals first | (exfalso; omega) | (congr 1; omega) | rfl | (exfalso; simp_all; done) | (exfalso; simp_all; omega)
theorem up_srt {key : Tn → Int} {a b i : Nat} {xs ys : List Tn} (hs : Srt key (a + 1) b xs) (h : tAt ys = upF (tAt xs) a (i - 1)) (hi : a + 1 ≤ i) (hib : i ≤ b) (hlo : ∀ p, a + 1 ≤ p → p < i → key (tAt xs p) < key (tAt xs a)) (hhi : ∀ p, i ≤ p → p < b → key (tAt xs a) ≤ key (tAt xs p)) : Srt key a b ys := by
  intro p q h1 h2 h3
  rw [h]
  simp only [upF]
  repeat' split
  all_goals first
    | (exfalso; omega)
    | exact hs _ _ (by omega) (by omega) (by omega)
    | exact Int.le_of_lt (hlo _ (by omega) (by omega))
    | exact hhi _ (by omega) (by omega)
    | exact Int.le_trans (Int.le_of_lt (hlo _ (by omega) (by omega))) (hhi _ (by omega) (by omega))
theorem dn_srt {key : Tn → Int} {a m i : Nat} {xs ys : List Tn} (hs : Srt key a m xs) (h : tAt ys = dnF (tAt xs) m i) (hi : a ≤ i) (him : i ≤ m) (hlo : ∀ p, a ≤ p → p < i → key (tAt xs p) ≤ key (tAt xs m)) (hhi : ∀ p, i ≤ p → p < m → key (tAt xs m) < key (tAt xs p)) : Srt key a (m + 1) ys := by
  intro p q h1 h2 h3
  rw [h]
  simp only [dnF]
  repeat' split
  all_goals first
    | (exfalso; omega)
    | exact hs _ _ (by omega) (by omega) (by omega)
    | exact Int.le_of_lt (hhi _ (by omega) (by omega))
    | exact hlo _ (by omega) (by omega)
    | exact Int.le_trans (hlo _ (by omega) (by omega)) (Int.le_of_lt (hhi _ (by omega) (by omega)))
theorem srt_trans {key : Tn → Int} {a b : Nat} {xs : List Tn} (h : Srt key a b xs) {p q : Nat} (h1 : a ≤ p) (h2 : p ≤ q) (h3 : q < b) : key (tAt xs p) ≤ key (tAt xs q) := by
  rcases Nat.lt_or_ge p q with h4 | h4
  · exact h p q h1 h4 h3
  · have e : p = q := by omega
    subst e; exact Int.le_refl _

set_option maxRecDepth 100000 in
set_option maxHeartbeats 8000000 in
theorem sym_left (S n cap a m b g : Nat) (cb : Array Value) (key : Tn → Int) (w0 : World) (xs : List Tn) (w : World) (hn : n ≤ 1000000) (hcmp : CmpOK g cb key S w0) (hm : m = a + 1) (hmb : m < b) (hb : b ≤ n) (hrow : RowT w S xs) (hl : xs.length = n) (hs2 : Srt key (a + 1) b xs) (hk : Keeps (fun k => k = S) w0 w) (eg : ∀ args w, (callFunc g args).run Try.prog w = .ok (.enter g args) w) :
    Calls Try.prog 114 #[.slice (some ⟨S, 0, none⟩) n cap, .int .i64 (a : Int), .int .i64 (m : Int), .int .i64 (b : Int), .func (.func g) #[] cb] w (SortPost S a b key xs w) := by
  have Hcmp := Lib.hid hcmp
  have Hrow := Lib.hid hrow
  have Hl := Lib.hid hl
  have Hk := Lib.hid hk
  have Hs2 := Lib.hid hs2
  have w1' : IntKind.i64.wrap ((m : Int) - (a : Int)) = 1 := by rw [IntWalk.i64_in _ ⟨by omega, by omega⟩]; omega
  obtain ⟨hm1, hm2⟩ := eq_le hm
  clear hcmp hrow hl hk hs2 hm
  go_enter Try.func114, Try.ntmps114
  go_wp2_with fail
  clear w1'
  go_loopw [10, 11] (fun u v wr => ∃ (i j : Nat), u = .int .i64 (i : Int) ∧ v = .int .i64 (j : Int) ∧ a + 1 ≤ i ∧ i ≤ j ∧ j ≤ b ∧ Hid (Below w.heap.size w wr ∧ (∀ p, a + 1 ≤ p → p < i → key (tAt xs p) < key (tAt xs a)) ∧ (∀ p, j ≤ p → p < b → key (tAt xs a) ≤ key (tAt xs p)))) (fun u v _ => (intOf v).toNat - (intOf u).toNat)
  case atStart => exact ⟨m, b, rfl, rfl, by omega, by omega, Nat.le_refl _, Lib.hid ⟨Below.refl _ _, fun p h1 h2 => by omega, fun p h1 h2 => by omega⟩⟩
  case round =>
    obtain ⟨i, j, rfl, rfl, hi, hij, hj, HI⟩ := hrel
    obtain ⟨wk, rfl⟩ : ∃ wk, wk = wr := ⟨_, rfl⟩
    by_cases hlt : i < j
    · have i1 : (i : Int) < (j : Int) := by omega
      obtain ⟨h, hh⟩ : ∃ h, (i + j) / 2 = h := ⟨_, rfl⟩
      have w2 : IntKind.i64.wrap ((i : Int) + (j : Int)) = (i : Int) + (j : Int) := IntWalk.i64_in _ ⟨by omega, by omega⟩
      have w3 : IntKind.u64.wrap ((i : Int) + (j : Int)) = (i : Int) + (j : Int) := by rw [IntKind.wrap_u64]; omega
      have w4 : ((i : Int) + (j : Int)) / 2 = (h : Int) := by omega
      have i3 : (h : Int) < (n : Int) := by omega
      have i4 : (a : Int) < (n : Int) := by omega
      have i5 : (0 : Int) ≤ (h : Int) := by omega
      have i6 : (0 : Int) ≤ (a : Int) := by omega
      have hxl : xs.length = n := Hl.out
      obtain ⟨x, hx⟩ : ∃ x, tAt xs (h) = x := ⟨_, rfl⟩
      obtain ⟨y, hy⟩ : ∃ y, tAt xs (a) = y := ⟨_, rfl⟩
      obtain ⟨c, hc⟩ : ∃ c, cmpI (key x) (key y) = c := ⟨_, rfl⟩
      have HX := Lib.hid (And.intro hx (And.intro hy hc))
      have hcw : ∀ W', Below wk.heap.size wk W' → Calls Try.prog g (#[.agg #[.int .i64 x.r.lo, .int .i64 x.r.hi, .int .i64 (x.nm : Int)], .agg #[.int .i64 y.r.lo, .int .i64 y.r.hi, .int .i64 (y.nm : Int)]] ++ cb) W' fun e W2 => e = .returned (.int .i64 c) ∧ Below W'.heap.size W' W2 := fun W' hW => by
        rw [← hc]
        exact Hcmp.out W' x y ((Hk.out.trans (Keeps.of_new HI.out.1)).trans (Keeps.of_new hW))
      have HS := Lib.hid (show ∀ W', Below wk.heap.size wk W' → (Below wk.heap.size wk W' ∧ W'.cell? ⟨S, h * 3, none⟩ = some (.int .i64 x.r.lo) ∧ W'.cell? ⟨S, h * 3 + 1, none⟩ = some (.int .i64 x.r.hi) ∧ W'.cell? ⟨S, h * 3 + 2, none⟩ = some (.int .i64 (x.nm : Int)) ∧ W'.cell? ⟨S, a * 3, none⟩ = some (.int .i64 y.r.lo) ∧ W'.cell? ⟨S, a * 3 + 1, none⟩ = some (.int .i64 y.r.hi) ∧ W'.cell? ⟨S, a * 3 + 2, none⟩ = some (.int .i64 (y.nm : Int))) from fun W' hW => by
        have hr := (Hrow.out.below HI.out.1).below hW
        obtain ⟨c0, c1, c2⟩ := hr.cells (j := h) (by omega)
        obtain ⟨d0, d1, d2⟩ := hr.cells (j := a) (by omega)
        rw [hx] at c0 c1 c2
        rw [hy] at d0 d1 d2
        exact ⟨hW, c0, c1, c2, d0, d1, d2⟩)
      clear hx hy hc hxl
      by_cases hc0 : c < 0
      · have t1 : decide (c < 0) = true := decide_eq_true hc0
        have Hc0 := Lib.hid hc0
        clear hc0
        go_wp2_with fail
        go_region_held3 (fun W' => Below wk.heap.size wk W' ∧ W'.cell? ⟨S, h * 3, none⟩ = some (.int .i64 x.r.lo) ∧ W'.cell? ⟨S, h * 3 + 1, none⟩ = some (.int .i64 x.r.hi) ∧ W'.cell? ⟨S, h * 3 + 2, none⟩ = some (.int .i64 (x.nm : Int)) ∧ W'.cell? ⟨S, a * 3, none⟩ = some (.int .i64 y.r.lo) ∧ W'.cell? ⟨S, a * 3 + 1, none⟩ = some (.int .i64 y.r.hi) ∧ W'.cell? ⟨S, a * 3 + 2, none⟩ = some (.int .i64 (y.nm : Int)))
          (first | exact HS.out _ (drew_b wk 1) | (go_split_ands; exact HS.out _ (Below.trans (by assumption) (Below.mono (by assumption) (Below.size (by assumption))))))
          (first | (go_split_ands; refine (hcw _ (by assumption)).mono ?_; rintro e w' ⟨rfl, hb⟩))
        have hS9 : Below wk.heap.size wk w' := And.left (by assumption)
        have HB9 := Lib.hid hS9
        clear hS9 hcw
        obtain ⟨v, hv⟩ : ∃ v, w' = v := ⟨_, rfl⟩
        rw [hv] at HB9 ⊢
        clear hv
        go_wp2_with fail
        go_roundw
        case rel =>
          refine ⟨h + 1, j, by go_num, rfl, by omega, by omega, hj, Lib.hid ⟨HI.out.1.trans (HB9.out.mono HI.out.1.size), fun p h1 h2 => ?_, HI.out.2.2⟩⟩
          have h9 := Hc0.out
          rw [← HX.out.2.2, ← HX.out.1, ← HX.out.2.1, cmpI_neg] at h9
          have h8 := srt_trans Hs2.out (p := p) (q := h) h1 (by omega) (by omega)
          omega
        case measure => simp [intOf]; omega
      · have t1 : decide (c < 0) = false := decide_eq_false hc0
        have Hc0 := Lib.hid hc0
        clear hc0
        go_wp2_with fail
        go_region_held3 (fun W' => Below wk.heap.size wk W' ∧ W'.cell? ⟨S, h * 3, none⟩ = some (.int .i64 x.r.lo) ∧ W'.cell? ⟨S, h * 3 + 1, none⟩ = some (.int .i64 x.r.hi) ∧ W'.cell? ⟨S, h * 3 + 2, none⟩ = some (.int .i64 (x.nm : Int)) ∧ W'.cell? ⟨S, a * 3, none⟩ = some (.int .i64 y.r.lo) ∧ W'.cell? ⟨S, a * 3 + 1, none⟩ = some (.int .i64 y.r.hi) ∧ W'.cell? ⟨S, a * 3 + 2, none⟩ = some (.int .i64 (y.nm : Int)))
          (first | exact HS.out _ (drew_b wk 1) | (go_split_ands; exact HS.out _ (Below.trans (by assumption) (Below.mono (by assumption) (Below.size (by assumption))))))
          (first | (go_split_ands; refine (hcw _ (by assumption)).mono ?_; rintro e w' ⟨rfl, hb⟩))
        have hS9 : Below wk.heap.size wk w' := And.left (by assumption)
        have HB9 := Lib.hid hS9
        clear hS9 hcw
        obtain ⟨v, hv⟩ : ∃ v, w' = v := ⟨_, rfl⟩
        rw [hv] at HB9 ⊢
        clear hv
        go_wp2_with fail
        go_roundw
        case rel =>
          refine ⟨i, h, rfl, rfl, by omega, by omega, by omega, Lib.hid ⟨HI.out.1.trans (HB9.out.mono HI.out.1.size), HI.out.2.1, fun p h1 h2 => ?_⟩⟩
          have h9 := Hc0.out
          rw [← HX.out.2.2, ← HX.out.1, ← HX.out.2.1] at h9
          have h7 := cmpI_neg (key (tAt xs h)) (key (tAt xs a))
          have h8 := srt_trans Hs2.out (p := h) (q := p) (by omega) h1 (by omega)
          omega
        case measure => simp [intOf]; omega
    · have e : i = j := by omega
      subst e
      obtain ⟨t, rfl⟩ : ∃ t, i = t + 1 := ⟨i - 1, by omega⟩
      have w5 : IntKind.i64.wrap ((t : Int) + 1 - 1) = (t : Int) := by rw [IntWalk.i64_in _ ⟨by omega, by omega⟩]; omega
      have w6 : IntKind.i64.wrap (t : Int) = (t : Int) := IntWalk.i64_in _ ⟨by omega, by omega⟩
      go_wp2_with fail
      go_loopw [13] (fun u wr => ∃ (k : Nat) (ys : List Tn), u = .int .i64 (k : Int) ∧ a ≤ k ∧ k ≤ t ∧ Hid (RowT wr S ys ∧ Mv a b ys xs ∧ tAt ys = upF (tAt xs) a k ∧ Keeps (fun k => k = S) w wr)) (fun u _ => t + 1 - (intOf u).toNat)
      case atStart => exact ⟨a, xs, rfl, Nat.le_refl _, by omega, Lib.hid ⟨Hrow.out.below (HI.out.1.mono (Nat.le_refl _)), Mv.refl _ _ _, (upF_zero _ _).symm, Keeps.of_new HI.out.1⟩⟩
      case round =>
        obtain ⟨k, ys, rfl, hk1, hk2, HJ⟩ := hrel
        obtain ⟨wj, rfl⟩ : ∃ wj, wj = wr := ⟨_, rfl⟩
        by_cases hlt2 : k < t
        · have i2 : (k : Int) < (t : Int) := by omega
          have hyl : ys.length = n := HJ.out.2.1.len.trans Hl.out
          obtain ⟨c0, c1, c2⟩ := HJ.out.1.cells (j := k) (by omega)
          obtain ⟨d0, d1, d2⟩ := HJ.out.1.cells (j := k + 1) (by omega)
          obtain ⟨x, hx⟩ : ∃ x, tAt ys k = x := ⟨_, rfl⟩
          obtain ⟨y, hy⟩ : ∃ y, tAt ys (k + 1) = y := ⟨_, rfl⟩
          rw [hx] at c0 c1 c2
          rw [hy] at d0 d1 d2
          have HX := Lib.hid (And.intro hx hy)
          have Hyl := Lib.hid hyl
          have fz : ∀ q, wj.frozen? ⟨S, q, none⟩ = false := fun q => HJ.out.1.fz q
          have i7 : (k : Int) + 1 < (n : Int) := by omega
          have i8 : (0 : Int) ≤ (k : Int) + 1 := by omega
          have i9 : (k : Int) < (n : Int) := by omega
          have i10 : (0 : Int) ≤ (k : Int) := by omega
          have e1 : ((k : Int) + 1).toNat = k + 1 := by omega
          have w7 : IntKind.i64.wrap ((k : Int) + 1) = (k : Int) + 1 := IntWalk.i64_in _ ⟨by omega, by omega⟩
          clear hx hy hyl
          go_wp2_with fail
          go_region
          all_goals (go_wp2_with fail)
          go_roundw
          case rel =>
            have hyl : ys.length = n := Hyl.out
            have hk2 := (putT_keeps wj S k y).trans (putT_keeps (putT wj S k y) S (k + 1) x)
            have hr2 : RowT (putT (putT wj S k y) S (k + 1) x) S (swpT ys k (k + 1)) := by
              have h1 := (HJ.out.1.put (j := k) (by omega) y).put (j := k + 1) (by rw [List.length_set]; omega) x
              unfold swpT
              rw [HX.out.1, HX.out.2]
              exact h1
            exact ⟨k + 1, swpT ys k (k + 1), by go_num, by omega, by omega, Lib.hid ⟨hr2.below (drew_b _ 1), (swpT_mv (by omega) ⟨by omega, by omega⟩ ⟨by omega, by omega⟩).trans HJ.out.2.1, upF_succ HJ.out.2.2.1 (by omega) (by omega), HJ.out.2.2.2.trans (hk2.trans (Keeps.of_new (drew_b _ 1)))⟩⟩
          case measure => simp [intOf]; omega
        · have e : k = t := by omega
          subst e
          go_wp2_with fail
          go_end0
          exact ⟨rfl, ys, HJ.out.1, HJ.out.2.1, up_srt (i := k + 1) Hs2.out (by rw [Nat.add_sub_cancel]; exact HJ.out.2.2.1) (by omega) (by omega) HI.out.2.1 HI.out.2.2, HJ.out.2.2.2⟩
end Go.Proofs.Ytdfdlklglbefiaa

namespace Go.Proofs.Ytdfdlklglbefiaa
set_option linter.unusedSimpArgs false
set_option linter.unusedVariables false
open Go.RowKit Go.Shelf

set_option maxRecDepth 100000 in
set_option maxHeartbeats 8000000 in
theorem sym_right (S n cap a m b g : Nat) (cb : Array Value) (key : Tn → Int) (w0 : World) (xs : List Tn) (w : World) (hn : n ≤ 1000000) (hcmp : CmpOK g cb key S w0) (ham : a + 1 < m) (hm : b = m + 1) (hb : b ≤ n) (hrow : RowT w S xs) (hl : xs.length = n) (hs1 : Srt key a m xs) (hk : Keeps (fun k => k = S) w0 w) (eg : ∀ args w, (callFunc g args).run Try.prog w = .ok (.enter g args) w) :
    Calls Try.prog 114 #[.slice (some ⟨S, 0, none⟩) n cap, .int .i64 (a : Int), .int .i64 (m : Int), .int .i64 (b : Int), .func (.func g) #[] cb] w (SortPost S a b key xs w) := by
  have Hcmp := Lib.hid hcmp
  have Hrow := Lib.hid hrow
  have Hl := Lib.hid hl
  have Hk := Lib.hid hk
  have Hs1 := Lib.hid hs1
  have Hm := Lib.hid hm
  have w0' : IntKind.i64.wrap ((m : Int) - (a : Int)) = (m : Int) - (a : Int) := IntWalk.i64_in _ ⟨by omega, by omega⟩
  have t0' : ((m : Int) - (a : Int) == 1) = false := by rw [beq_eq_false_iff_ne]; omega
  have w1' : IntKind.i64.wrap ((b : Int) - (m : Int)) = 1 := by rw [IntWalk.i64_in _ ⟨by omega, by omega⟩]; omega
  obtain ⟨hm1, hm2⟩ := eq_le hm
  clear hcmp hrow hl hk hs1 hm
  go_enter Try.func114, Try.ntmps114
  go_wp2_with fail
  clear w0' w1' t0'
  go_loopw [14, 15] (fun u v wr => ∃ (i j : Nat), u = .int .i64 (i : Int) ∧ v = .int .i64 (j : Int) ∧ a ≤ i ∧ i ≤ j ∧ j ≤ m ∧ Hid (Below w.heap.size w wr ∧ (∀ p, a ≤ p → p < i → key (tAt xs p) ≤ key (tAt xs m)) ∧ (∀ p, j ≤ p → p < m → key (tAt xs m) < key (tAt xs p)))) (fun u v _ => (intOf v).toNat - (intOf u).toNat)
  case atStart => exact ⟨a, m, rfl, rfl, by omega, by omega, Nat.le_refl _, Lib.hid ⟨Below.refl _ _, fun p h1 h2 => by omega, fun p h1 h2 => by omega⟩⟩
  case round =>
    obtain ⟨i, j, rfl, rfl, hi, hij, hj, HI⟩ := hrel
    obtain ⟨wk, rfl⟩ : ∃ wk, wk = wr := ⟨_, rfl⟩
    by_cases hlt : i < j
    · have i1 : (i : Int) < (j : Int) := by omega
      obtain ⟨h, hh⟩ : ∃ h, (i + j) / 2 = h := ⟨_, rfl⟩
      have w2 : IntKind.i64.wrap ((i : Int) + (j : Int)) = (i : Int) + (j : Int) := IntWalk.i64_in _ ⟨by omega, by omega⟩
      have w3 : IntKind.u64.wrap ((i : Int) + (j : Int)) = (i : Int) + (j : Int) := by rw [IntKind.wrap_u64]; omega
      have w4 : ((i : Int) + (j : Int)) / 2 = (h : Int) := by omega
      go_wp2_with fail
      have i3 : (h : Int) < (n : Int) := by omega
      have i4 : (m : Int) < (n : Int) := by omega
      have i5 : (0 : Int) ≤ (h : Int) := by omega
      have i6 : (0 : Int) ≤ (m : Int) := by omega
      have hxl : xs.length = n := Hl.out
      obtain ⟨x, hx⟩ : ∃ x, tAt xs (m) = x := ⟨_, rfl⟩
      obtain ⟨y, hy⟩ : ∃ y, tAt xs (h) = y := ⟨_, rfl⟩
      obtain ⟨c, hc⟩ : ∃ c, cmpI (key x) (key y) = c := ⟨_, rfl⟩
      have HX := Lib.hid (And.intro hx (And.intro hy hc))
      have hcw : ∀ W', Below wk.heap.size wk W' → Calls Try.prog g (#[.agg #[.int .i64 x.r.lo, .int .i64 x.r.hi, .int .i64 (x.nm : Int)], .agg #[.int .i64 y.r.lo, .int .i64 y.r.hi, .int .i64 (y.nm : Int)]] ++ cb) W' fun e W2 => e = .returned (.int .i64 c) ∧ Below W'.heap.size W' W2 := fun W' hW => by
        rw [← hc]
        exact Hcmp.out W' x y ((Hk.out.trans (Keeps.of_new HI.out.1)).trans (Keeps.of_new hW))
      have HS := Lib.hid (show ∀ W', Below wk.heap.size wk W' → (Below wk.heap.size wk W' ∧ W'.cell? ⟨S, m * 3, none⟩ = some (.int .i64 x.r.lo) ∧ W'.cell? ⟨S, m * 3 + 1, none⟩ = some (.int .i64 x.r.hi) ∧ W'.cell? ⟨S, m * 3 + 2, none⟩ = some (.int .i64 (x.nm : Int)) ∧ W'.cell? ⟨S, h * 3, none⟩ = some (.int .i64 y.r.lo) ∧ W'.cell? ⟨S, h * 3 + 1, none⟩ = some (.int .i64 y.r.hi) ∧ W'.cell? ⟨S, h * 3 + 2, none⟩ = some (.int .i64 (y.nm : Int))) from fun W' hW => by
        have hr := (Hrow.out.below HI.out.1).below hW
        obtain ⟨c0, c1, c2⟩ := hr.cells (j := m) (by omega)
        obtain ⟨d0, d1, d2⟩ := hr.cells (j := h) (by omega)
        rw [hx] at c0 c1 c2
        rw [hy] at d0 d1 d2
        exact ⟨hW, c0, c1, c2, d0, d1, d2⟩)
      clear hx hy hc hxl
      by_cases hc0 : c < 0
      · have t1 : decide (c < 0) = true := decide_eq_true hc0
        have Hc0 := Lib.hid hc0
        clear hc0
        go_wp2_with fail
        go_region_held3 (fun W' => Below wk.heap.size wk W' ∧ W'.cell? ⟨S, m * 3, none⟩ = some (.int .i64 x.r.lo) ∧ W'.cell? ⟨S, m * 3 + 1, none⟩ = some (.int .i64 x.r.hi) ∧ W'.cell? ⟨S, m * 3 + 2, none⟩ = some (.int .i64 (x.nm : Int)) ∧ W'.cell? ⟨S, h * 3, none⟩ = some (.int .i64 y.r.lo) ∧ W'.cell? ⟨S, h * 3 + 1, none⟩ = some (.int .i64 y.r.hi) ∧ W'.cell? ⟨S, h * 3 + 2, none⟩ = some (.int .i64 (y.nm : Int)))
          (first | exact HS.out _ (drew_b wk 1) | (go_split_ands; exact HS.out _ (Below.trans (by assumption) (Below.mono (by assumption) (Below.size (by assumption))))))
          (first | (go_split_ands; refine (hcw _ (by assumption)).mono ?_; rintro e w' ⟨rfl, hb⟩))
        have hS9 : Below wk.heap.size wk w' := And.left (by assumption)
        have HB9 := Lib.hid hS9
        clear hS9 hcw
        obtain ⟨v, hv⟩ : ∃ v, w' = v := ⟨_, rfl⟩
        rw [hv] at HB9 ⊢
        clear hv
        go_wp2_with fail
        go_roundw
        case rel =>
          refine ⟨i, h, rfl, rfl, by omega, by omega, by omega, Lib.hid ⟨HI.out.1.trans (HB9.out.mono HI.out.1.size), HI.out.2.1, fun p h1 h2 => ?_⟩⟩
          have h9 := Hc0.out
          rw [← HX.out.2.2, ← HX.out.1, ← HX.out.2.1, cmpI_neg] at h9
          have h8 := srt_trans Hs1.out (p := h) (q := p) (by omega) h1 (by omega)
          omega
        case measure => simp [intOf]; omega
      · have t1 : decide (c < 0) = false := decide_eq_false hc0
        have Hc0 := Lib.hid hc0
        clear hc0
        go_wp2_with fail
        go_region_held3 (fun W' => Below wk.heap.size wk W' ∧ W'.cell? ⟨S, m * 3, none⟩ = some (.int .i64 x.r.lo) ∧ W'.cell? ⟨S, m * 3 + 1, none⟩ = some (.int .i64 x.r.hi) ∧ W'.cell? ⟨S, m * 3 + 2, none⟩ = some (.int .i64 (x.nm : Int)) ∧ W'.cell? ⟨S, h * 3, none⟩ = some (.int .i64 y.r.lo) ∧ W'.cell? ⟨S, h * 3 + 1, none⟩ = some (.int .i64 y.r.hi) ∧ W'.cell? ⟨S, h * 3 + 2, none⟩ = some (.int .i64 (y.nm : Int)))
          (first | exact HS.out _ (drew_b wk 1) | (go_split_ands; exact HS.out _ (Below.trans (by assumption) (Below.mono (by assumption) (Below.size (by assumption))))))
          (first | (go_split_ands; refine (hcw _ (by assumption)).mono ?_; rintro e w' ⟨rfl, hb⟩))
        have hS9 : Below wk.heap.size wk w' := And.left (by assumption)
        have HB9 := Lib.hid hS9
        clear hS9 hcw
        obtain ⟨v, hv⟩ : ∃ v, w' = v := ⟨_, rfl⟩
        rw [hv] at HB9 ⊢
        clear hv
        go_wp2_with fail
        go_roundw
        case rel =>
          refine ⟨h + 1, j, by go_num, rfl, by omega, by omega, hj, Lib.hid ⟨HI.out.1.trans (HB9.out.mono HI.out.1.size), fun p h1 h2 => ?_, HI.out.2.2⟩⟩
          have h9 := Hc0.out
          rw [← HX.out.2.2, ← HX.out.1, ← HX.out.2.1] at h9
          have h7 := cmpI_neg (key (tAt xs m)) (key (tAt xs h))
          have h8 := srt_trans Hs1.out (p := p) (q := h) h1 (by omega) (by omega)
          omega
        case measure => simp [intOf]; omega
    · have e : i = j := by omega
      subst e
      go_wp2_with fail
      go_loopw [17] (fun u wr => ∃ (k : Nat) (ys : List Tn), u = .int .i64 (k : Int) ∧ i ≤ k ∧ k ≤ m ∧ Hid (RowT wr S ys ∧ Mv a b ys xs ∧ tAt ys = dnF (tAt xs) m k ∧ Keeps (fun k => k = S) w wr)) (fun u _ => (intOf u).toNat)
      case atStart => exact ⟨m, xs, rfl, by omega, Nat.le_refl _, Lib.hid ⟨Hrow.out.below (HI.out.1.mono (Nat.le_refl _)), Mv.refl _ _ _, (dnF_zero _ _).symm, Keeps.of_new HI.out.1⟩⟩
      case round =>
        obtain ⟨k', ys, rfl, hk1, hk2, HJ⟩ := hrel
        obtain ⟨wj, rfl⟩ : ∃ wj, wj = wr := ⟨_, rfl⟩
        by_cases hlt2 : i < k'
        · obtain ⟨k, rfl⟩ : ∃ k, k' = k + 1 := ⟨k' - 1, by omega⟩
          have i2 : (i : Int) < (k : Int) + 1 := by omega
          have hyl : ys.length = n := HJ.out.2.1.len.trans Hl.out
          obtain ⟨c0, c1, c2⟩ := HJ.out.1.cells (j := k + 1) (by omega)
          obtain ⟨d0, d1, d2⟩ := HJ.out.1.cells (j := k) (by omega)
          obtain ⟨x, hx⟩ : ∃ x, tAt ys (k + 1) = x := ⟨_, rfl⟩
          obtain ⟨y, hy⟩ : ∃ y, tAt ys k = y := ⟨_, rfl⟩
          rw [hx] at c0 c1 c2
          rw [hy] at d0 d1 d2
          have HX := Lib.hid (And.intro hx hy)
          have Hyl := Lib.hid hyl
          have fz : ∀ q, wj.frozen? ⟨S, q, none⟩ = false := fun q => HJ.out.1.fz q
          have i7 : (k : Int) + 1 < (n : Int) := by omega
          have i8 : (0 : Int) ≤ (k : Int) + 1 := by omega
          have i9 : (k : Int) < (n : Int) := by omega
          have i10 : (0 : Int) ≤ (k : Int) := by omega
          have e1 : ((k : Int) + 1).toNat = k + 1 := by omega
          have e2 : ((k + 1 : Nat) : Int) = (k : Int) + 1 := by omega
          have w7 : IntKind.i64.wrap ((k : Int) + 1 - 1) = (k : Int) := by rw [IntKind.wrap_i64]; omega
          have w8 : IntKind.i64.wrap (k : Int) = (k : Int) := by rw [IntKind.wrap_i64]; omega
          clear hx hy hyl
          go_wp2_with fail
          go_region
          all_goals (go_wp2_with fail)
          go_roundw
          case rel =>
            have hyl : ys.length = n := Hyl.out
            have hk2 := (putT_keeps wj S (k + 1) y).trans (putT_keeps (putT wj S (k + 1) y) S k x)
            have hr2 : RowT (putT (putT wj S (k + 1) y) S k x) S (swpT ys (k + 1) k) := by
              have h1 := (HJ.out.1.put (j := k + 1) (by omega) y).put (j := k) (by rw [List.length_set]; omega) x
              unfold swpT
              rw [HX.out.1, HX.out.2]
              exact h1
            exact ⟨k, swpT ys (k + 1) k, rfl, by omega, by omega, Lib.hid ⟨hr2.below (drew_b _ 1), (swpT_mv (by omega) ⟨by omega, by omega⟩ ⟨by omega, by omega⟩).trans HJ.out.2.1, dnF_succ HJ.out.2.2.1 (by omega) (by omega), HJ.out.2.2.2.trans (hk2.trans (Keeps.of_new (drew_b _ 1)))⟩⟩
          case measure => simp [intOf]
        · have e : k' = i := by omega
          subst e
          go_wp2_with fail
          go_end0
          have hf := dn_srt (i := k') Hs1.out HJ.out.2.2.1 (by omega) (by omega) HI.out.2.1 HI.out.2.2
          rw [← Hm.out] at hf
          exact ⟨rfl, ys, HJ.out.1, HJ.out.2.1, hf, HJ.out.2.2.2⟩

theorem sym_parts {key : Tn → Int} {a m b mid s e : Nat} {xs ys : List Tn} (ham : a < m) (hmb : m < b) (hmid : (a + b) / 2 = mid) (hs1 : Srt key a m xs) (hs2 : Srt key m b xs) (he : s + e = mid + m) (hsa : a ≤ s) (hsm : s ≤ m) (hsmid : s ≤ mid) (heb : e ≤ b)
    (hy : tAt ys = rotF (tAt xs) s m e) (hlo : a < s → e < b → key (tAt xs (s - 1)) ≤ key (tAt xs e)) (hhi : s < m → m < e → key (tAt xs (e - 1)) < key (tAt xs s)) :
    Srt key a s ys ∧ Srt key s mid ys ∧ Srt key mid e ys ∧ Srt key e b ys ∧ ∀ p q, a ≤ p → p < mid → mid ≤ q → q < b → key (tAt ys p) ≤ key (tAt ys q) := by
  have h1 := fun {p q : Nat} => srt_trans (p := p) (q := q) hs1
  have h2 := fun {p q : Nat} => srt_trans (p := p) (q := q) hs2
  have hl : ∀ {p q : Nat}, a ≤ p → p < s → e ≤ q → q < b → key (tAt xs p) ≤ key (tAt xs q) := fun {p q} i1 i2 i3 i4 => by
    have j1 := h1 (p := p) (q := s - 1) i1 (by omega) (by omega)
    have j2 := h2 (p := e) (q := q) (by omega) i3 i4
    have j3 := hlo (by omega) (by omega)
    omega
  have hh : ∀ {p q : Nat}, m ≤ p → p < e → s ≤ q → q < m → key (tAt xs p) ≤ key (tAt xs q) := fun {p q} i1 i2 i3 i4 => by
    have j1 := h2 (p := p) (q := e - 1) i1 (by omega) (by omega)
    have j2 := h1 (p := s) (q := q) (by omega) i3 i4
    have j3 := hhi (by omega) (by omega)
    omega
  refine ⟨fun p q i1 i2 i3 => ?_, fun p q i1 i2 i3 => ?_, fun p q i1 i2 i3 => ?_, fun p q i1 i2 i3 => ?_, fun p q i1 i2 i3 i4 => ?_⟩
  all_goals
    rw [hy]
    simp only [rotF]
    repeat' split
    all_goals first
      | (exfalso; omega)
      | exact h1 (by omega) (by omega) (by omega)
      | exact h2 (by omega) (by omega) (by omega)
      | exact hl (by omega) (by omega) (by omega) (by omega)
      | exact hh (by omega) (by omega) (by omega) (by omega)
theorem rot_id (f : Nat → Tn) {s m e : Nat} (h : s = m ∨ e ≤ m) : rotF f s m e = f := by
  funext k
  simp only [rotF]
  repeat' split
  all_goals first | (exfalso; omega) | (congr 1; omega) | rfl
theorem srt_fin {key : Tn → Int} {a b mid : Nat} {ys y1 zs : List Tn} (h1 : Mv a mid y1 ys) (s1 : Srt key a mid y1) (h2 : Mv mid b zs y1) (s2 : Srt key mid b zs) (hc : ∀ p q, a ≤ p → p < mid → mid ≤ q → q < b → key (tAt ys p) ≤ key (tAt ys q)) : Srt key a b zs := by
  intro p q i1 i2 i3
  rcases Nat.lt_or_ge q mid with hq | hq
  · rw [h2.out p (by omega), h2.out q (by omega)]; exact s1 p q i1 i2 hq
  · rcases Nat.lt_or_ge p mid with hp | hp
    · obtain ⟨p', j1, j2, j3⟩ := h1.ins p i1 hp
      obtain ⟨q', j4, j5, j6⟩ := h2.ins q hq i3
      rw [h2.out p (by omega), j3, j6, h1.out q' (by omega)]
      exact hc p' q' j1 j2 j4 j5
    · exact s2 p q hp i2 i3
theorem srt_out {key : Tn → Int} {a b c d : Nat} {ys xs : List Tn} (h : Mv a b ys xs) (hs : Srt key c d xs) (hd : d ≤ a ∨ b ≤ c) : Srt key c d ys := by
  intro p q i1 i2 i3
  rw [h.out p (by omega), h.out q (by omega)]
  exact hs p q i1 i2 i3
end Go.Proofs.Ytdfdlklglbefiaa
