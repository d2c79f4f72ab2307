/- Stage 3: the law ScaleTurned. -/
import Derived.Test.YtdfdlklglbefiaaWk
import Derived.Test.YtdfdlklglbefiaaFin
import Derived.Test.YtdfdlklglbefiaaTux
namespace Go.Proofs.Ytdfdlklglbefiaa
set_option linter.unusedSimpArgs false
set_option linter.unusedVariables false
open Go.RowKit Go.Shelf
/-- A list by its elements. -/
def tk3 (f : Nat → Rg) (k : Nat) : List Rg := (List.range k).map f
theorem tk3_succ (f : Nat → Rg) (k : Nat) : tk3 f (k + 1) = tk3 f k ++ [f k] := by simp [tk3, List.range_succ]
theorem tk3_len (f : Nat → Rg) (k : Nat) : (tk3 f k).length = k := by simp [tk3]
theorem tk3_map (g : Rg → Rg) (zs : List Rg) : tk3 (fun j => g (gAt zs j)) zs.length = zs.map g := by
  refine List.ext_getElem (by simp [tk3]) fun i h1 h2 => ?_
  simp only [List.length_map] at h2
  simp [tk3, gAt_eq h2]
theorem tk3_rev (zs : List Rg) : tk3 (fun j => gAt zs (zs.length - 1 - j)) zs.length = zs.reverse := by
  refine List.ext_getElem (by simp [tk3]) fun i h1 h2 => ?_
  simp only [List.length_reverse] at h2
  simp only [tk3, List.getElem_map, List.getElem_range, List.getElem_reverse]
  rw [gAt_eq (by omega)]
/-- Three rows of ranges that are being made. -/
structure T3 (W : World) (B0 : Nat) (va : Value) (na : Nat) (xa : List Rg) (vb : Value) (nb : Nat) (xb : List Rg) (vc : Value) (nc : Nat) (xc : List Rg) : Prop where
  oa : W.ownsRow 0 56 2 va na (flatR xa)
  ob : W.ownsRow 0 56 2 vb nb (flatR xb)
  oc : W.ownsRow 0 56 2 vc nc (flatR xc)
  ab : ∀ j, va.ownBlock = some j → vb.ownBlock ≠ some j
  bc : ∀ j, vb.ownBlock = some j → vc.ownBlock ≠ some j
  ca : ∀ j, vc.ownBlock = some j → va.ownBlock ≠ some j
  la : ∀ j, va.ownBlock = some j → B0 ≤ j
  lb : ∀ j, vb.ownBlock = some j → B0 ≤ j
  lc : ∀ j, vc.ownBlock = some j → B0 ≤ j
theorem T3.nil (W : World) (B0 : Nat) : T3 W B0 (.slice none 0 0) 0 [] (.slice none 0 0) 0 [] (.slice none 0 0) 0 [] :=
  ⟨own_nil _ _ _, own_nil _ _ _, own_nil _ _ _, fun j e => (by cases e), fun j e => (by cases e), fun j e => (by cases e), fun j e => (by cases e), fun j e => (by cases e), fun j e => (by cases e)⟩
theorem T3.rot {W : World} {B0 : Nat} {va : Value} {na : Nat} {xa : List Rg} {vb : Value} {nb : Nat} {xb : List Rg} {vc : Value} {nc : Nat} {xc : List Rg} (h : T3 W B0 va na xa vb nb xb vc nc xc) : T3 W B0 vb nb xb vc nc xc va na xa :=
  ⟨h.ob, h.oc, h.oa, h.bc, h.ca, h.ab, h.lb, h.lc, h.la⟩
theorem T3.below {W W' : World} {B0 : Nat} {va : Value} {na : Nat} {xa : List Rg} {vb : Value} {nb : Nat} {xb : List Rg} {vc : Value} {nc : Nat} {xc : List Rg} (h : T3 W B0 va na xa vb nb xb vc nc xc) (hb : Below W.heap.size W W') : T3 W' B0 va na xa vb nb xb vc nc xc :=
  ⟨own_keep h.oa (Keeps.of_new (Mut := fun _ => False) hb) (fun _ _ e => e), own_keep h.ob (Keeps.of_new (Mut := fun _ => False) hb) (fun _ _ e => e), own_keep h.oc (Keeps.of_new (Mut := fun _ => False) hb) (fun _ _ e => e), h.ab, h.bc, h.ca, h.la, h.lb, h.lc⟩
theorem T3.app {W : World} {B0 : Nat} {va : Value} {na : Nat} {xa : List Rg} {vb : Value} {nb : Nat} {xb : List Rg} {vc : Value} {nc : Nat} {xc : List Rg} (h : T3 W B0 va na xa vb nb xb vc nc xc) {g : Rg} {Z : Nat} (hZ : W.heap[Z]? = some (.cells #[.int .i64 g.lo, .int .i64 g.hi] 56 (0, 0))) (hB : B0 ≤ W.heap.size) (hn : na ≤ 100000) :
    ∃ va' W', runA Try.prog 22 va (.slice (some ⟨Z, 0, none⟩) 1 1) W = .ok (.value va') W' ∧ T3 W' B0 va' (na + 1) (xa ++ [g]) vb nb xb vc nc xc ∧ Below B0 W W' ∧ (∀ (q : Nat) (u : Obj), W.heap[q]? = some u → va.ownBlock ≠ some q → W'.heap[q]? = some u) := by
  obtain ⟨v', W', hrun, hown, hK, hv⟩ := app_one Try.underlying22 info56_ rfl (by omega) (by omega) h.oa (vals := [.int .i64 g.lo, .int .i64 g.hi]) rfl hZ (by simp [Value.oneCell']) hn
  have hb := own_keep h.ob hK (fun j e e2 => h.ab j e2 e)
  have hc := own_keep h.oc hK (fun j e e2 => h.ca j e e2)
  refine ⟨v', W', run_app hrun, ⟨by rw [flatR_snoc]; exact hown, hb, hc, ?_, h.bc, ?_, ?_, h.lb, h.lc⟩, hK.below hB (fun j hj e => by have := h.la j e; omega), fun q u hu hq => (hK.block q (lt_of_block hu) (fun e => hq e)).trans hu⟩
  · intro j e e2
    rcases hv with q | ⟨q, _⟩
    · rw [q] at e; exact h.ab j e e2
    · rw [q] at e; cases e; have := own_lt h.ob _ e2; omega
  · intro j e e2
    rcases hv with q | ⟨q, _⟩
    · rw [q] at e2; exact h.ca j e e2
    · rw [q] at e2; cases e2; have := own_lt h.oc _ e; omega
  · intro j e
    rcases hv with q | ⟨q, _⟩
    · rw [q] at e; exact h.la j e
    · rw [q] at e; cases e; exact hB
theorem run_neS2 (a b c d : Bool) (h : a = c ∧ b = d) (W : World) : (binOp .neq 43 (.agg #[.bool a, .bool b]) (.agg #[.bool c, .bool d])).run Try.prog W = .ok (.bool false) W := by
  obtain ⟨rfl, rfl⟩ := h
  cases a <;> cases b <;> kernel_rfl
attribute [local go_sem ↓] exec_app

set_option maxRecDepth 100000 in
set_option maxHeartbeats 40000000 in
theorem turned10 (A : Option Addr) (n cap : Nat) (zs : List Rg) (xa xb up : Nat) (w : World) (h : Rgs w A n zs) (hn : n ≤ 9223372036854775807) (hxa : xa ≤ 255) (hxb : xb ≤ 255) (hup : up ≤ 65535) : Calls Try.prog 10 #[.slice A n cap, .agg #[.int .u8 (xa : Int), .int .u8 (xb : Int)], .int .u16 (up : Int)] w fun en w' => en = .returned (.bool true) ∧ Below w.heap.size w w' := by
  have HZl := Lib.hid h.1
  obtain ⟨P, hP⟩ : ∃ P, w.heap.size = P := ⟨_, rfl⟩
  have hk0 := below_alloc_ w (.cells #[.int .u8 (xa : Int), .int .u8 (xb : Int)] 62)
  have r6 : (w.alloc (.cells #[.int .u8 (xa : Int), .int .u8 (xb : Int)] 62)).heap[P]? = some (.cells #[.int .u8 (xa : Int), .int .u8 (xb : Int)] 62 (0, 0)) := by rw [← hP]; exact heap_alloc_new_ _ _
  obtain ⟨w0, hw0⟩ : ∃ w0, w.alloc (.cells #[.int .u8 (xa : Int), .int .u8 (xb : Int)] 62) = w0 := ⟨_, rfl⟩
  rw [hw0] at hk0 r6
  have S0 := Lib.hid (h.below hk0 (Nat.le_refl _))
  have B0 := Lib.hid hk0
  have R6 := Lib.hid r6
  have HP := Lib.hid hP
  have HW0 := Lib.hid hw0
  have B1 := Lib.hid (Below.refl w0.heap.size w0)
  clear h hk0 r6 hP hw0
  by_cases hz : chkS zs = 0
  rotate_left
  · have d1 : decide (chkS zs = 0) = false := decide_eq_false hz
    clear hz
    go_enter Try.func10, Try.ntmps10
    go_wp2_with fail
    rw [HW0.out]
    try rw [HP.out]
    have hc := fine35 A n cap zs w0 S0.out hn
    rw [d1] at hc
    refine hc.mono ?_
    rintro en w1 ⟨rfl, hb⟩
    replace B1 := Lib.hid (B1.out.trans (hb.mono B1.out.size))
    clear hc hb d1
    go_wp2_with fail
    refine (works15 _).mono ?_
    rintro en wz ⟨rfl, hb9⟩
    replace B1 := Lib.hid (B1.out.trans (hb9.mono B1.out.size))
    clear hb9
    go_wp2_with fail
    go_ret
    exact ⟨rfl, B0.out.trans (B1.out.mono B0.out.size)⟩
  have d1 : decide (chkS zs = 0) = true := decide_eq_true hz
  have HZ := Lib.hid hz
  have hl24 := len_of hz
  rw [HZl.out] at hl24
  clear hz
  go_enter Try.func10, Try.ntmps10
  go_wp2_with fail
  rw [HW0.out]
  try rw [HP.out]
  have hc := fine35 A n cap zs w0 S0.out hn
  rw [d1] at hc
  refine hc.mono ?_
  rintro en w2 ⟨rfl, hb⟩
  replace B1 := Lib.hid (B1.out.trans (hb.mono B1.out.size))
  clear hc hb d1
  go_wp2_with fail
  obtain ⟨ti, hti⟩ : ∃ ti : Nat, ti = xa % n := ⟨_, rfl⟩
  have htin : ti < n := by rw [hti]; exact Nat.mod_lt _ (by omega)
  have eti : (xa : Int) % (n : Int) = (ti : Int) := by rw [hti]; exact (Int.natCast_emod xa n).symm
  have fti : (xa : Int).tmod (n : Int) = (ti : Int) := by rw [Int.tmod_eq_emod_of_nonneg (by omega)]; exact eti
  have gti : IntKind.i64.wrap (xa : Int) = xa := IntWalk.i64_in _ (by omega)
  have jti : IntKind.i64.wrap (ti : Int) = ti := IntWalk.i64_in _ (by omega)
  have pti : w2.cell? ⟨P, 0, none⟩ = some (.int .u8 (xa : Int)) := by rw [cell_row ((B1.out.block _ (lt_of_block R6.out)).trans R6.out)]; rfl
  have qti : ∀ a, (w2.drewN a).cell? ⟨P, 0, none⟩ = some (.int .u8 (xa : Int)) := fun a => pti
  clear hti
  obtain ⟨tk, htk⟩ : ∃ tk : Nat, tk = xb % n := ⟨_, rfl⟩
  have htkn : tk < n := by rw [htk]; exact Nat.mod_lt _ (by omega)
  have etk : (xb : Int) % (n : Int) = (tk : Int) := by rw [htk]; exact (Int.natCast_emod xb n).symm
  have ftk : (xb : Int).tmod (n : Int) = (tk : Int) := by rw [Int.tmod_eq_emod_of_nonneg (by omega)]; exact etk
  have gtk : IntKind.i64.wrap (xb : Int) = xb := IntWalk.i64_in _ (by omega)
  have jtk : IntKind.i64.wrap (tk : Int) = tk := IntWalk.i64_in _ (by omega)
  have ptk : w2.cell? ⟨P, 1, none⟩ = some (.int .u8 (xb : Int)) := by rw [cell_row ((B1.out.block _ (lt_of_block R6.out)).trans R6.out)]; rfl
  have qtk : ∀ a, (w2.drewN a).cell? ⟨P, 1, none⟩ = some (.int .u8 (xb : Int)) := fun a => ptk
  clear htk
  have dm : ((n : Int) == 0) = false := by rw [beq_eq_false_iff_ne]; omega
  go_wp2_with fail
  go_quiet (fail)
  have hbq := drew_b w2 nq
  obtain ⟨w3, hwq⟩ : ∃ w3, w2.drewN nq = w3 := ⟨_, rfl⟩
  rw [hwq] at hbq
  rw [hwq]
  replace B1 := Lib.hid (B1.out.trans (hbq.mono B1.out.size))
  clear hwq hbq eti etk fti ftk gti gtk jti jtk pti ptk qti qtk dm
  have HIK := Lib.hid (show ti < zs.length ∧ tk < zs.length by rw [HZl.out]; exact ⟨htin, htkn⟩)
  obtain ⟨f1, hf1⟩ : ∃ f1, f1 = (fun j => trnR (gAt zs j)) := ⟨_, rfl⟩
  obtain ⟨f2, hf2⟩ : ∃ f2, f2 = (fun j => upR (up : Int) (gAt zs j)) := ⟨_, rfl⟩
  obtain ⟨f3, hf3⟩ : ∃ f3, f3 = (fun j => gAt zs (zs.length - 1 - j)) := ⟨_, rfl⟩
  have Hf1 := Lib.hid hf1
  have Hf2 := Lib.hid hf2
  have Hf3 := Lib.hid hf3
  clear hf1 hf2 hf3
  go_wp2_with fail
  go_loopw [10, 11, 12, 13, 14] (fun va vb vc i p wr => ∃ k : Nat, k ≤ n ∧ i = .int .i64 (k : Int) ∧ Hid (T3 wr w3.heap.size va k (tk3 f1 k) vb k (tk3 f2 k) vc k (tk3 f3 k)) ∧ Below w3.heap.size w3 wr) (fun va vb vc i p _ => n - (intOf i).toNat)
  case atStart => exact ⟨0, Nat.zero_le _, rfl, Lib.hid (T3.nil _ _), Below.refl _ _⟩
  case round =>
    obtain ⟨k, hk, rfl, HT, hS⟩ := hrel
    obtain ⟨wk, rfl⟩ : ∃ wk, wk = wr := ⟨_, rfl⟩
    have HS := Lib.hid hS
    clear hS
    by_cases hlt : k < n
    · have Hok := Lib.hid (okR HZ.out _ (show gAt zs k ∈ zs by rw [gAt_eq (by rw [HZl.out]; exact hlt)]; exact List.getElem_mem _))
      have hS9 := (S0.out.below B1.out (Nat.le_refl _)).below HS.out (Nat.le_refl _)
      obtain ⟨b, o, rfl, hcr⟩ := hS9.2 (by omega)
      obtain ⟨c0, c1⟩ := hcr k hlt
      obtain ⟨c2, c3⟩ := hcr (n - 1 - k) (by omega)
      clear hcr hS9
      have i0 : (0 : Int) ≤ (k : Int) := by omega
      have i1 : (k : Int) < (n : Int) := by omega
      have i2 : (k : Int) ≤ 24 := by omega
      have d3 : (k : Int).toNat = k := by omega
      have d4 : ((n : Int) - 1 - (k : Int)).toNat = n - 1 - k := by omega
      have i3 : (0 : Int) ≤ (n : Int) - 1 - (k : Int) := by omega
      have i4 : (n : Int) - 1 - (k : Int) < (n : Int) := by omega
      have Hx1 := Lib.hid (tk3_succ f1 k)
      have Hx2 := Lib.hid (tk3_succ f2 k)
      have Hx3 := Lib.hid (tk3_succ f3 k)
      have e1 : f1 k = trnR (gAt zs k) := by rw [Hf1.out]
      have e2 : f2 k = upR (up : Int) (gAt zs k) := by rw [Hf2.out]
      have e3 : f3 k = gAt zs (n - 1 - k) := by rw [Hf3.out, HZl.out]
      rw [e1] at Hx1
      rw [e2] at Hx2
      rw [e3] at Hx3
      clear e1 e2 e3
      obtain ⟨g, hg⟩ : ∃ g, gAt zs k = g := ⟨_, rfl⟩
      obtain ⟨q, hq⟩ : ∃ q, gAt zs (n - 1 - k) = q := ⟨_, rfl⟩
      rw [hg] at c0 c1 Hx1 Hx2 Hok
      rw [hq] at c2 c3 Hx3
      have Hq := Lib.hid hq
      clear hg hq
      obtain ⟨lo, hi⟩ := g
      obtain ⟨lo2, hi2⟩ := q
      dsimp only at c0 c1 c2 c3
      simp only [trnR, upR] at Hx1 Hx2
      obtain ⟨b1, b2, b3⟩ : 0 ≤ lo ∧ lo ≤ hi ∧ hi ≤ 10000 := Hok.out
      have y1 : IntKind.i64.wrap (10000 - hi) = 10000 - hi := IntWalk.i64_in _ (by omega)
      have y2 : IntKind.i64.wrap (10000 - lo) = 10000 - lo := IntWalk.i64_in _ (by omega)
      have y3 : IntKind.i64.wrap (up : Int) = up := IntWalk.i64_in _ (by omega)
      have y4 : IntKind.i64.wrap (lo + (up : Int)) = lo + up := IntWalk.i64_in _ (by omega)
      have y5 : IntKind.i64.wrap (hi + (up : Int)) = hi + up := IntWalk.i64_in _ (by omega)
      go_wp2_with fail
      have hr1 := heap_alloc_new_ wk (.cells #[.int .i64 lo, .int .i64 hi] 56)
      have hb := below_alloc_ wk (.cells #[.int .i64 lo, .int .i64 hi] 56)
      obtain ⟨Q, hQ⟩ : ∃ Q, wk.heap.size = Q := ⟨_, rfl⟩
      obtain ⟨V0, hV⟩ : ∃ V0, wk.alloc (.cells #[.int .i64 lo, .int .i64 hi] 56) = V0 := ⟨_, rfl⟩
      rw [hV] at hr1 hb ⊢
      rw [hQ] at hr1 ⊢
      have na : u10.ownBlock ≠ some Q := fun e => by have := own_lt HT.out.oa _ e; omega
      have nb : u11.ownBlock ≠ some Q := fun e => by have := own_lt HT.out.ob _ e; omega
      have nc : u12.ownBlock ≠ some Q := fun e => by have := own_lt HT.out.oc _ e; omega
      have NA := Lib.hid na
      have NB := Lib.hid nb
      clear na nb nc hV hQ c0 c1 c2 c3
      have R1 := Lib.hid hr1
      replace HT := Lib.hid (HT.out.below hb)
      replace HS := Lib.hid (HS.out.trans (hb.mono HS.out.size))
      clear hr1 hb
      refine (rg37 _ _ _).mono ?_
      rintro en V1 ⟨rfl, hb⟩
      replace R1 := Lib.hid ((hb.block _ (lt_of_block R1.out)).trans R1.out)
      replace HT := Lib.hid (HT.out.below hb)
      replace HS := Lib.hid (HS.out.trans (hb.mono HS.out.size))
      clear hb
      have hz := heap_alloc_new_ V1 (.cells #[.int .i64 (10000 - hi), .int .i64 (10000 - lo)] 56)
      have hbz := below_alloc_ V1 (.cells #[.int .i64 (10000 - hi), .int .i64 (10000 - lo)] 56)
      obtain ⟨p1, p1w, p1run, ht3, hb3, hkp⟩ := (HT.out.below hbz).app (g := ⟨10000 - hi, 10000 - lo⟩) hz (Nat.le_trans HS.out.size hbz.size) (by omega)
      replace R1 := Lib.hid (hkp _ _ ((hbz.block _ (lt_of_block R1.out)).trans R1.out) NA.out)
      replace HT := Lib.hid ht3.rot
      replace HS := Lib.hid ((HS.out.trans (hbz.mono HS.out.size)).trans hb3)
      clear hz hbz ht3 hb3 hkp
      have q0 : p1w.cell? ⟨Q, 0, none⟩ = some (.int .i64 lo) := by rw [cell_row R1.out]; rfl
      have q1 : p1w.cell? ⟨Q, 1, none⟩ = some (.int .i64 hi) := by rw [cell_row R1.out]; rfl
      go_wp2_with fail
      clear p1run q0 q1
      refine (rg37 _ _ _).mono ?_
      rintro en V2 ⟨rfl, hb⟩
      replace R1 := Lib.hid ((hb.block _ (lt_of_block R1.out)).trans R1.out)
      replace HT := Lib.hid (HT.out.below hb)
      replace HS := Lib.hid (HS.out.trans (hb.mono HS.out.size))
      clear hb
      have hz := heap_alloc_new_ V2 (.cells #[.int .i64 (lo + (up : Int)), .int .i64 (hi + (up : Int))] 56)
      have hbz := below_alloc_ V2 (.cells #[.int .i64 (lo + (up : Int)), .int .i64 (hi + (up : Int))] 56)
      obtain ⟨p2, p2w, p2run, ht3, hb3, hkp⟩ := (HT.out.below hbz).app (g := ⟨lo + (up : Int), hi + (up : Int)⟩) hz (Nat.le_trans HS.out.size hbz.size) (by omega)
      replace R1 := Lib.hid (hkp _ _ ((hbz.block _ (lt_of_block R1.out)).trans R1.out) NB.out)
      replace HT := Lib.hid ht3.rot
      replace HS := Lib.hid ((HS.out.trans (hbz.mono HS.out.size)).trans hb3)
      clear hz hbz ht3 hb3 hkp
      have hS9 := (S0.out.below B1.out (Nat.le_refl _)).below HS.out (Nat.le_refl _)
      obtain ⟨b', o', ho', hcr⟩ := hS9.2 (by omega)
      cases ho'
      obtain ⟨c2, c3⟩ := hcr (n - 1 - k) (by omega)
      rw [Hq.out] at c2 c3
      dsimp only at c2 c3
      clear hcr hS9
      have hz := heap_alloc_new_ p2w (.cells #[.int .i64 lo2, .int .i64 hi2] 56)
      have hbz := below_alloc_ p2w (.cells #[.int .i64 lo2, .int .i64 hi2] 56)
      obtain ⟨p3, p3w, p3run, ht3, hb3, hkp⟩ := (HT.out.below hbz).app (g := ⟨lo2, hi2⟩) hz (Nat.le_trans HS.out.size hbz.size) (by omega)
      replace HT := Lib.hid ht3.rot
      replace HS := Lib.hid ((HS.out.trans (hbz.mono HS.out.size)).trans hb3)
      clear hz hbz ht3 hb3 hkp
      go_wp2_with fail
      go_roundw
      case rel =>
        refine ⟨k + 1, by omega, by go_num, ?_, HS.out⟩
        rw [Hx1.out, Hx2.out, Hx3.out]
        exact HT
      case measure => simp [intOf]; omega
    · have e' : n = k := by omega
      subst e'
      clear hk hlt
      have Ef1 : tk3 f1 n = zs.map trnR := by rw [Hf1.out, ← HZl.out]; exact tk3_map trnR zs
      have Ef2 : tk3 f2 n = zs.map (upR (up : Int)) := by rw [Hf2.out, ← HZl.out]; exact tk3_map (upR (up : Int)) zs
      have Ef3 : tk3 f3 n = zs.reverse := by rw [Hf3.out, ← HZl.out]; exact tk3_rev zs
      have ht3 := HT.out
      rw [Ef1, Ef2, Ef3] at ht3
      obtain ⟨Cx, cx, rfl, hcx, hix, -⟩ := rgs_own (by simp [HZl.out]) ht3.oa
      have Rx := Lib.hid hix
      clear hix hcx
      obtain ⟨Cy, cy, rfl, hcy, hiy, -⟩ := rgs_own (by simp [HZl.out]) ht3.ob
      have Ry := Lib.hid hiy
      clear hiy hcy
      obtain ⟨Cz, cz, rfl, hcz, hiz, -⟩ := rgs_own (by simp [HZl.out]) ht3.oc
      have Rz := Lib.hid hiz
      clear hiz hcz
      have hb := HS.out
      replace B1 := Lib.hid (B1.out.trans (hb.mono B1.out.size))
      clear hb HS HT ht3 Ef1 Ef2 Ef3 Hf1 Hf2 Hf3
      go_wp2_with fail
      refine (spans28 A n cap zs wk (S0.out.below B1.out (Nat.le_refl _))).mono ?_
      rintro en w4 ⟨hb, hor⟩
      replace B1 := Lib.hid (B1.out.trans (hb.mono B1.out.size))
      replace Rx := Lib.hid (Rx.out.below hb (Nat.le_refl _))
      replace Ry := Lib.hid (Ry.out.below hb (Nat.le_refl _))
      replace Rz := Lib.hid (Rz.out.below hb (Nat.le_refl _))
      clear hb
      obtain ⟨hz, x0, y0, D0, cp0, hx, hy, rfl, hi, -⟩ | ⟨h0, rfl⟩ := hor
      rotate_left
      · exact absurd (HZ.out) h0
      have HX0 := Lib.hid (hx.dn (chkS_ok hz).1)
      have HY0 := Lib.hid (hy.up (ok_of hz))
      have hlen := dn_up_len (ok_of hz) HX0.out HY0.out
      have hm24 := up_len hz HY0.out
      obtain ⟨m3, hm3⟩ : ∃ m3, x0.length = m3 := ⟨_, rfl⟩
      rw [HZl.out, ← hlen, hm3] at hm24
      rw [hm3] at hi hlen
      rw [hm3]
      have Hlx := Lib.hid hm3
      have Hly := Lib.hid hlen.symm
      have S0r := Lib.hid hi
      clear hi hx hy hz hm3 hlen
      go_wp2_with fail
      refine (spans28 Cx n cx (zs.map trnR) w4 Rx.out).mono ?_
      rintro en w5 ⟨hb, hor⟩
      replace B1 := Lib.hid (B1.out.trans (hb.mono B1.out.size))
      replace Rx := Lib.hid (Rx.out.below hb (Nat.le_refl _))
      replace Ry := Lib.hid (Ry.out.below hb (Nat.le_refl _))
      replace Rz := Lib.hid (Rz.out.below hb (Nat.le_refl _))
      replace S0r := Lib.hid (S0r.out.below hb (Nat.le_refl _))
      clear hb
      obtain ⟨hz, x1, y1, D1, cp1, hx, hy, rfl, hi, -⟩ | ⟨h0, rfl⟩ := hor
      rotate_left
      · exact absurd (chkS_trn HZ.out) h0
      have HX1 := Lib.hid (hx.dn (chkS_ok hz).1)
      have HY1 := Lib.hid (hy.up (ok_of hz))
      have ex : x1 = trnS y0 := IsDn.eq (ok_of hz) HX1.out (up_trn HY0.out)
      have ey : y1 = trnS x0 := IsUp.eq (ok_of hz) HY1.out (dn_trn HX0.out)
      have hl : x1.length = m3 := by rw [ex]; have := Hlx.out; have := Hly.out; first | omega | (simp [trnS, upS]; omega)
      rw [hl] at hi
      rw [hl]
      have EX1 := Lib.hid ex
      have EY1 := Lib.hid ey
      have S1r := Lib.hid hi
      clear hi hx hy hz hl ex ey HX1 HY1
      go_wp2_with fail
      refine (spans28 Cz n cz zs.reverse w5 Rz.out).mono ?_
      rintro en w6 ⟨hb, hor⟩
      replace B1 := Lib.hid (B1.out.trans (hb.mono B1.out.size))
      replace Rx := Lib.hid (Rx.out.below hb (Nat.le_refl _))
      replace Ry := Lib.hid (Ry.out.below hb (Nat.le_refl _))
      replace Rz := Lib.hid (Rz.out.below hb (Nat.le_refl _))
      replace S0r := Lib.hid (S0r.out.below hb (Nat.le_refl _))
      replace S1r := Lib.hid (S1r.out.below hb (Nat.le_refl _))
      clear hb
      obtain ⟨hz, x2, y2, D2, cp2, hx, hy, rfl, hi, -⟩ | ⟨h0, rfl⟩ := hor
      rotate_left
      · exact absurd (chkS_rev HZ.out) h0
      have HX2 := Lib.hid (hx.dn (chkS_ok hz).1)
      have HY2 := Lib.hid (hy.up (ok_of hz))
      have ex : x2 = x0 := IsDn.eq (ok_of hz) HX2.out (dn_rev HX0.out)
      have ey : y2 = y0 := IsUp.eq (ok_of hz) HY2.out (up_rev HY0.out)
      have hl : x2.length = m3 := by rw [ex]; have := Hlx.out; have := Hly.out; first | omega | (simp [trnS, upS]; omega)
      rw [hl] at hi
      rw [hl]
      have EX2 := Lib.hid ex
      have EY2 := Lib.hid ey
      have S2r := Lib.hid hi
      clear hi hx hy hz hl ex ey HX2 HY2
      go_wp2_with fail
      refine (share30 A n cap zs (ti : Int) (tk : Int) w6 (S0.out.below B1.out (Nat.le_refl _))).mono ?_
      rintro en w7 ⟨hb, ma0, mu0, er, hs, rfl⟩
      replace B1 := Lib.hid (B1.out.trans (hb.mono B1.out.size))
      replace Rx := Lib.hid (Rx.out.below hb (Nat.le_refl _))
      replace Ry := Lib.hid (Ry.out.below hb (Nat.le_refl _))
      replace Rz := Lib.hid (Rz.out.below hb (Nat.le_refl _))
      replace S0r := Lib.hid (S0r.out.below hb (Nat.le_refl _))
      replace S1r := Lib.hid (S1r.out.below hb (Nat.le_refl _))
      replace S2r := Lib.hid (S2r.out.below hb (Nat.le_refl _))
      obtain rfl : er = 0 := (sr_sem HZ.out HIK.out.1 HIK.out.2 hs).1
      have HS0 := Lib.hid hs
      clear hb hs
      go_wp2_with fail
      have hr9 := heap_alloc_new_ w7 (.cells #[.bool ma0, .bool mu0] 43)
      have hb := below_alloc_ w7 (.cells #[.bool ma0, .bool mu0] 43)
      obtain ⟨w8, hV⟩ : ∃ w8, w7.alloc (.cells #[.bool ma0, .bool mu0] 43) = w8 := ⟨_, rfl⟩
      rw [hV] at hr9 hb ⊢
      clear hV
      replace B1 := Lib.hid (B1.out.trans (hb.mono B1.out.size))
      replace Rx := Lib.hid (Rx.out.below hb (Nat.le_refl _))
      replace Ry := Lib.hid (Ry.out.below hb (Nat.le_refl _))
      replace Rz := Lib.hid (Rz.out.below hb (Nat.le_refl _))
      replace S0r := Lib.hid (S0r.out.below hb (Nat.le_refl _))
      replace S1r := Lib.hid (S1r.out.below hb (Nat.le_refl _))
      replace S2r := Lib.hid (S2r.out.below hb (Nat.le_refl _))
      obtain ⟨P0, hP⟩ : ∃ P, w7.heap.size = P := ⟨_, rfl⟩
      rw [hP] at hr9 ⊢
      have X0 := Lib.hid hr9
      clear hb hr9 hP
      go_wp2_with fail
      refine (share30 Cx n cx (zs.map trnR) (ti : Int) (tk : Int) w8 Rx.out).mono ?_
      rintro en w9 ⟨hb, ma1, mu1, er, hs, rfl⟩
      replace B1 := Lib.hid (B1.out.trans (hb.mono B1.out.size))
      replace Rx := Lib.hid (Rx.out.below hb (Nat.le_refl _))
      replace Ry := Lib.hid (Ry.out.below hb (Nat.le_refl _))
      replace Rz := Lib.hid (Rz.out.below hb (Nat.le_refl _))
      replace S0r := Lib.hid (S0r.out.below hb (Nat.le_refl _))
      replace S1r := Lib.hid (S1r.out.below hb (Nat.le_refl _))
      replace S2r := Lib.hid (S2r.out.below hb (Nat.le_refl _))
      replace X0 := Lib.hid ((hb.block _ (lt_of_block X0.out)).trans X0.out)
      obtain ⟨he1, he2, -, rfl⟩ := sr_trn HZ.out HIK.out.1 HIK.out.2 HS0.out hs
      obtain rfl := he1.symm
      obtain rfl := he2.symm
      clear hb hs
      go_wp2_with fail
      have hr9 := heap_alloc_new_ w9 (.cells #[.bool ma0, .bool mu0] 43)
      have hb := below_alloc_ w9 (.cells #[.bool ma0, .bool mu0] 43)
      obtain ⟨w10, hV⟩ : ∃ w10, w9.alloc (.cells #[.bool ma0, .bool mu0] 43) = w10 := ⟨_, rfl⟩
      rw [hV] at hr9 hb ⊢
      clear hV
      replace B1 := Lib.hid (B1.out.trans (hb.mono B1.out.size))
      replace Rx := Lib.hid (Rx.out.below hb (Nat.le_refl _))
      replace Ry := Lib.hid (Ry.out.below hb (Nat.le_refl _))
      replace Rz := Lib.hid (Rz.out.below hb (Nat.le_refl _))
      replace S0r := Lib.hid (S0r.out.below hb (Nat.le_refl _))
      replace S1r := Lib.hid (S1r.out.below hb (Nat.le_refl _))
      replace S2r := Lib.hid (S2r.out.below hb (Nat.le_refl _))
      replace X0 := Lib.hid ((hb.block _ (lt_of_block X0.out)).trans X0.out)
      obtain ⟨P1, hP⟩ : ∃ P, w9.heap.size = P := ⟨_, rfl⟩
      rw [hP] at hr9 ⊢
      have X1 := Lib.hid hr9
      clear hb hr9 hP
      have s1 : IntKind.i64.wrap ((n : Int) - 1 - (tk : Int)) = (n : Int) - 1 - (tk : Int) := IntWalk.i64_in _ (by omega)
      have s2 : IntKind.i64.wrap ((n : Int) - 1 - (ti : Int)) = (n : Int) - 1 - (ti : Int) := IntWalk.i64_in _ (by omega)
      have s3 : IntKind.i64.wrap ((n : Int) - 1) = (n : Int) - 1 := IntWalk.i64_in _ (by omega)
      obtain ⟨tkr, htkr⟩ : ∃ r : Nat, n - 1 - tk = r := ⟨_, rfl⟩
      obtain ⟨tir, htir⟩ : ∃ r : Nat, n - 1 - ti = r := ⟨_, rfl⟩
      have s4 : (n : Int) - 1 - (tk : Int) = (tkr : Int) := by omega
      have s5 : (n : Int) - 1 - (ti : Int) = (tir : Int) := by omega
      have HR := Lib.hid (show tkr = zs.length - 1 - tk ∧ tir = zs.length - 1 - ti by rw [HZl.out]; exact ⟨htkr.symm, htir.symm⟩)
      rw [s4] at s1
      rw [s5] at s2
      clear htkr htir
      go_wp2_with fail
      rw [s4, s5]
      clear s1 s2 s3 s4 s5
      refine (share30 Cz n cz zs.reverse (tkr : Int) (tir : Int) w10 Rz.out).mono ?_
      rintro en w11 ⟨hb, ma2, mu2, er, hs, rfl⟩
      replace B1 := Lib.hid (B1.out.trans (hb.mono B1.out.size))
      replace Rx := Lib.hid (Rx.out.below hb (Nat.le_refl _))
      replace Ry := Lib.hid (Ry.out.below hb (Nat.le_refl _))
      replace Rz := Lib.hid (Rz.out.below hb (Nat.le_refl _))
      replace S0r := Lib.hid (S0r.out.below hb (Nat.le_refl _))
      replace S1r := Lib.hid (S1r.out.below hb (Nat.le_refl _))
      replace S2r := Lib.hid (S2r.out.below hb (Nat.le_refl _))
      replace X0 := Lib.hid ((hb.block _ (lt_of_block X0.out)).trans X0.out)
      replace X1 := Lib.hid ((hb.block _ (lt_of_block X1.out)).trans X1.out)
      obtain ⟨he1, he2, -, rfl⟩ := sr_rev HZ.out HIK.out.1 HIK.out.2 HS0.out (by rw [← HR.out.1, ← HR.out.2]; exact hs)
      obtain rfl := he1.symm
      obtain rfl := he2.symm
      clear hb hs
      go_wp2_with fail
      have hr9 := heap_alloc_new_ w11 (.cells #[.bool ma0, .bool mu0] 43)
      have hb := below_alloc_ w11 (.cells #[.bool ma0, .bool mu0] 43)
      obtain ⟨w12, hV⟩ : ∃ w12, w11.alloc (.cells #[.bool ma0, .bool mu0] 43) = w12 := ⟨_, rfl⟩
      rw [hV] at hr9 hb ⊢
      clear hV
      replace B1 := Lib.hid (B1.out.trans (hb.mono B1.out.size))
      replace Rx := Lib.hid (Rx.out.below hb (Nat.le_refl _))
      replace Ry := Lib.hid (Ry.out.below hb (Nat.le_refl _))
      replace Rz := Lib.hid (Rz.out.below hb (Nat.le_refl _))
      replace S0r := Lib.hid (S0r.out.below hb (Nat.le_refl _))
      replace S1r := Lib.hid (S1r.out.below hb (Nat.le_refl _))
      replace S2r := Lib.hid (S2r.out.below hb (Nat.le_refl _))
      replace X0 := Lib.hid ((hb.block _ (lt_of_block X0.out)).trans X0.out)
      replace X1 := Lib.hid ((hb.block _ (lt_of_block X1.out)).trans X1.out)
      obtain ⟨P2, hP⟩ : ∃ P, w11.heap.size = P := ⟨_, rfl⟩
      rw [hP] at hr9 ⊢
      have X2 := Lib.hid hr9
      clear hb hr9 hP
      try clear s4 s5
      go_wp2_with fail
      have hc := ranges32 D0 m3 cp0 (spnL x0 y0 m3) D2 m3 cp2 (spnL x2 y2 m3) w12 S0r.out S2r.out (by omega) (by omega)
      rw [EX2.out, EY2.out, decide_eq_true rfl] at hc
      refine hc.mono ?_
      clear hc
      rintro en w13 ⟨rfl, hb⟩
      replace B1 := Lib.hid (B1.out.trans (hb.mono B1.out.size))
      replace Rx := Lib.hid (Rx.out.below hb (Nat.le_refl _))
      replace Ry := Lib.hid (Ry.out.below hb (Nat.le_refl _))
      replace Rz := Lib.hid (Rz.out.below hb (Nat.le_refl _))
      replace S0r := Lib.hid (S0r.out.below hb (Nat.le_refl _))
      replace S1r := Lib.hid (S1r.out.below hb (Nat.le_refl _))
      replace S2r := Lib.hid (S2r.out.below hb (Nat.le_refl _))
      replace X0 := Lib.hid ((hb.block _ (lt_of_block X0.out)).trans X0.out)
      replace X1 := Lib.hid ((hb.block _ (lt_of_block X1.out)).trans X1.out)
      replace X2 := Lib.hid ((hb.block _ (lt_of_block X2.out)).trans X2.out)
      clear hb S2r EX2 EY2
      have x00 : w13.cell? ⟨P0, 0, none⟩ = some (.bool ma0) := by rw [cell_row X0.out]; rfl
      have x01 : w13.cell? ⟨P0, 1, none⟩ = some (.bool mu0) := by rw [cell_row X0.out]; rfl
      have x10 : w13.cell? ⟨P1, 0, none⟩ = some (.bool ma0) := by rw [cell_row X1.out]; rfl
      have x11 : w13.cell? ⟨P1, 1, none⟩ = some (.bool mu0) := by rw [cell_row X1.out]; rfl
      have x20 : w13.cell? ⟨P2, 0, none⟩ = some (.bool ma0) := by rw [cell_row X2.out]; rfl
      have x21 : w13.cell? ⟨P2, 1, none⟩ = some (.bool mu0) := by rw [cell_row X2.out]; rfl
      have q1 : ∀ W, (binOp .neq 43 (.agg #[.bool ma0, .bool mu0]) (.agg #[.bool ma0, .bool mu0])).run Try.prog W = .ok (.bool false) W := fun W => run_neS2 ma0 mu0 ma0 mu0 ⟨rfl, rfl⟩ W
      go_wp2_with fail
      clear x00 x01 x10 x11 x20 x21 X1 X2 q1
      have HBD := Lib.hid (show ∀ j, j < m3 → 0 ≤ (gAt (spnL x0 y0 m3) j).lo ∧ (gAt (spnL x0 y0 m3) j).lo ≤ 10000 ∧ 0 ≤ (gAt (spnL x0 y0 m3) j).hi ∧ (gAt (spnL x0 y0 m3) j).hi ≤ 10000 from fun j hj => by
        have q1 : gAt (spnL x0 y0 m3) j = ⟨iAt x0 j, iAt y0 j⟩ := by simp [gAt, List.getD, spnL, hj]
        rw [q1]
        obtain ⟨r, hr, e⟩ := dn_in_ HX0.out _ (mem_iAt (by have := Hlx.out; omega : j < x0.length))
        obtain ⟨r2, hr2, e2⟩ := up_in HY0.out _ (mem_iAt (by have := Hly.out; omega : j < y0.length))
        have h1 := okR HZ.out r hr
        have h2 := okR HZ.out r2 hr2
        simp only []
        omega)
      go_loopw [27] (fun i wr => ∃ q : Nat, q ≤ m3 ∧ i = .int .i64 (q : Int) ∧ Below w13.heap.size w13 wr) (fun i _ => m3 - (intOf i).toNat)
      case atStart => exact ⟨0, by omega, rfl, Below.refl _ _⟩
      case round =>
        obtain ⟨q, hq, rfl, hB⟩ := hrel
        obtain ⟨wq, rfl⟩ : ∃ wq, wq = wr := ⟨_, rfl⟩
        have B7 := Lib.hid hB
        by_cases hlt : q < m3
        · obtain ⟨r, hr⟩ : ∃ r, m3 - 1 - q = r := ⟨_, rfl⟩
          obtain ⟨b1, o1, rfl, hc1⟩ := (S0r.out.below hB (Nat.le_refl _)).2 (by omega)
          obtain ⟨b2, o2, rfl, hc2⟩ := (S1r.out.below hB (Nat.le_refl _)).2 (by omega)
          obtain ⟨a0, a1⟩ := hc1 r (by omega)
          obtain ⟨c0, c1⟩ := hc2 q hlt
          rw [spn_trn Hlx.out Hly.out EX1.out EY1.out hlt] at c0 c1
          dsimp only at c0 c1
          rw [hr] at c0 c1
          have hbd : 0 ≤ (gAt (spnL x0 y0 m3) r).lo ∧ (gAt (spnL x0 y0 m3) r).lo ≤ 10000 ∧ 0 ≤ (gAt (spnL x0 y0 m3) r).hi ∧ (gAt (spnL x0 y0 m3) r).hi ≤ 10000 := HBD.out r (by omega)
          obtain ⟨g, hg⟩ : ∃ g, gAt (spnL x0 y0 m3) r = g := ⟨_, rfl⟩
          rw [hg] at a0 a1 c0 c1 hbd
          clear hg hc1 hc2
          obtain ⟨lo, hi⟩ := g
          dsimp only at a0 a1 c0 c1 hbd
          obtain ⟨e1, e2, e3, e4⟩ := hbd
          have i0 : (0 : Int) ≤ (q : Int) := by omega
          have i1 : (q : Int) < (m3 : Int) := by omega
          have i2 : (q : Int) ≤ 24 := by omega
          have d3 : (q : Int).toNat = q := by omega
          have d4 : ((m3 : Int) - 1 - (q : Int)).toNat = r := by omega
          have i3 : (0 : Int) ≤ (m3 : Int) - 1 - (q : Int) := by omega
          have i4 : (m3 : Int) - 1 - (q : Int) < (m3 : Int) := by omega
          have i5 : ¬ (m3 : Int) - 1 < (q : Int) := by omega
          have s1 : IntKind.i64.wrap ((m3 : Int) - 1) = (m3 : Int) - 1 := IntWalk.i64_in _ (by omega)
          have s2 : IntKind.i64.wrap ((m3 : Int) - 1 - (q : Int)) = (m3 : Int) - 1 - (q : Int) := IntWalk.i64_in _ (by omega)
          clear hr
          have qn : ∀ W, (binOp .neq 56 (.agg #[.int .i64 (10000 - hi), .int .i64 (10000 - lo)]) (.agg #[.int .i64 (10000 - hi), .int .i64 (10000 - lo)])).run Try.prog W = .ok (.bool false) W := fun W => by have := run_eqR ⟨10000 - hi, 10000 - lo⟩ ⟨10000 - hi, 10000 - lo⟩ W; rwa [decide_eq_true rfl] at this
          have s8 : IntKind.i64.wrap (10000 - hi) = 10000 - hi := IntWalk.i64_in _ (by omega)
          have s9 : IntKind.i64.wrap (10000 - lo) = 10000 - lo := IntWalk.i64_in _ (by omega)
          have s10 : IntKind.i64.wrap (up : Int) = up := IntWalk.i64_in _ (by omega)
          have hrg := fun W => rg37 (10000 - hi) (10000 - lo) W
          clear hB
          go_wp2_with fail
          refine wp_region_held_drew (S := fun w2 => Below wq.heap.size wq w2) (by kernel_rfl) (drew_b _ _) (fun hS0 => ?_)
          refine wpAnyH_take (i := 0) (oi := { dst := some 183, op := Go.Op.move (Go.Operand.tmp 17), type := 22, pos := "outright.go:148", after := #[], guard := none }) (v := .slice (some ⟨b2, o2, none⟩) m3 cp1) rfl (by kernel_rfl) (by kernel_rfl) (by kernel_rfl) (fun _ _ _ h => h) (Or.inl ⟨by rfl, by intro w2 hSw; (try dsimp only at hSw); have z0 := (hSw.cell (p := ⟨b1, o1 + r * 2, none⟩) (lt_of_cell a0)).trans a0; have z1 := (hSw.cell (p := ⟨b1, o1 + r * 2 + 1, none⟩) (lt_of_cell a1)).trans a1; have z2 := (hSw.cell (p := ⟨b2, o2 + q * 2, none⟩) (lt_of_cell c0)).trans c0; have z3 := (hSw.cell (p := ⟨b2, o2 + q * 2 + 1, none⟩) (lt_of_cell c1)).trans c1; go_simp⟩) hS0 ?_
          try simp only [Act.put, List.setIfInBounds_toArray, List.set_cons_zero, List.set_cons_succ]
          refine wpAnyH_take (i := 1) (oi := { dst := some 184, op := Go.Op.move (Go.Operand.tmp 27), type := 3, pos := "outright.go:148", after := #[], guard := none }) (v := .int .i64 ((q : Int))) rfl (by kernel_rfl) (by kernel_rfl) (by kernel_rfl) (fun _ _ _ h => h) (Or.inl ⟨by rfl, by intro w2 hSw; (try dsimp only at hSw); have z0 := (hSw.cell (p := ⟨b1, o1 + r * 2, none⟩) (lt_of_cell a0)).trans a0; have z1 := (hSw.cell (p := ⟨b1, o1 + r * 2 + 1, none⟩) (lt_of_cell a1)).trans a1; have z2 := (hSw.cell (p := ⟨b2, o2 + q * 2, none⟩) (lt_of_cell c0)).trans c0; have z3 := (hSw.cell (p := ⟨b2, o2 + q * 2 + 1, none⟩) (lt_of_cell c1)).trans c1; go_simp⟩) hS0 ?_
          try simp only [Act.put, List.setIfInBounds_toArray, List.set_cons_zero, List.set_cons_succ]
          refine wpAnyH_take (i := 2) (oi := { dst := some 185, op := Go.Op.indexAddr 22 (Go.Operand.tmp 183) (Go.Operand.tmp 184), type := 0, pos := "outright.go:148", after := #[{ on := 0, ground := Go.Ground.data }, { on := 1, ground := Go.Ground.data }], guard := none }) (v := .pointer (some ⟨b2, o2 + q * 2, none⟩)) rfl (by kernel_rfl) (by kernel_rfl) (by kernel_rfl) (fun _ _ _ h => h) (Or.inl ⟨by rfl, by intro w2 hSw; (try dsimp only at hSw); have z0 := (hSw.cell (p := ⟨b1, o1 + r * 2, none⟩) (lt_of_cell a0)).trans a0; have z1 := (hSw.cell (p := ⟨b1, o1 + r * 2 + 1, none⟩) (lt_of_cell a1)).trans a1; have z2 := (hSw.cell (p := ⟨b2, o2 + q * 2, none⟩) (lt_of_cell c0)).trans c0; have z3 := (hSw.cell (p := ⟨b2, o2 + q * 2 + 1, none⟩) (lt_of_cell c1)).trans c1; go_simp⟩) hS0 ?_
          try simp only [Act.put, List.setIfInBounds_toArray, List.set_cons_zero, List.set_cons_succ]
          refine wpAnyH_take (i := 3) (oi := { dst := some 186, op := Go.Op.load 56 (Go.Operand.tmp 185), type := 56, pos := "outright.go:148", after := #[{ on := 2, ground := Go.Ground.data }], guard := none }) (v := .agg #[.int .i64 (10000 - hi), .int .i64 (10000 - lo)]) rfl (by kernel_rfl) (by kernel_rfl) (by kernel_rfl) (fun _ _ _ h => h) (Or.inl ⟨by rfl, by intro w2 hSw; (try dsimp only at hSw); have z0 := (hSw.cell (p := ⟨b1, o1 + r * 2, none⟩) (lt_of_cell a0)).trans a0; have z1 := (hSw.cell (p := ⟨b1, o1 + r * 2 + 1, none⟩) (lt_of_cell a1)).trans a1; have z2 := (hSw.cell (p := ⟨b2, o2 + q * 2, none⟩) (lt_of_cell c0)).trans c0; have z3 := (hSw.cell (p := ⟨b2, o2 + q * 2 + 1, none⟩) (lt_of_cell c1)).trans c1; go_simp⟩) hS0 ?_
          try simp only [Act.put, List.setIfInBounds_toArray, List.set_cons_zero, List.set_cons_succ]
          refine wpAnyH_take (i := 4) (oi := { dst := some 187, op := Go.Op.move (Go.Operand.tmp 15), type := 22, pos := "outright.go:148", after := #[], guard := none }) (v := .slice (some ⟨b1, o1, none⟩) m3 cp0) rfl (by kernel_rfl) (by kernel_rfl) (by kernel_rfl) (fun _ _ _ h => h) (Or.inl ⟨by rfl, by intro w2 hSw; (try dsimp only at hSw); have z0 := (hSw.cell (p := ⟨b1, o1 + r * 2, none⟩) (lt_of_cell a0)).trans a0; have z1 := (hSw.cell (p := ⟨b1, o1 + r * 2 + 1, none⟩) (lt_of_cell a1)).trans a1; have z2 := (hSw.cell (p := ⟨b2, o2 + q * 2, none⟩) (lt_of_cell c0)).trans c0; have z3 := (hSw.cell (p := ⟨b2, o2 + q * 2 + 1, none⟩) (lt_of_cell c1)).trans c1; go_simp⟩) hS0 ?_
          try simp only [Act.put, List.setIfInBounds_toArray, List.set_cons_zero, List.set_cons_succ]
          refine wpAnyH_take (i := 5) (oi := { dst := some 188, op := Go.Op.move (Go.Operand.tmp 15), type := 22, pos := "outright.go:148", after := #[], guard := none }) (v := .slice (some ⟨b1, o1, none⟩) m3 cp0) rfl (by kernel_rfl) (by kernel_rfl) (by kernel_rfl) (fun _ _ _ h => h) (Or.inl ⟨by rfl, by intro w2 hSw; (try dsimp only at hSw); have z0 := (hSw.cell (p := ⟨b1, o1 + r * 2, none⟩) (lt_of_cell a0)).trans a0; have z1 := (hSw.cell (p := ⟨b1, o1 + r * 2 + 1, none⟩) (lt_of_cell a1)).trans a1; have z2 := (hSw.cell (p := ⟨b2, o2 + q * 2, none⟩) (lt_of_cell c0)).trans c0; have z3 := (hSw.cell (p := ⟨b2, o2 + q * 2 + 1, none⟩) (lt_of_cell c1)).trans c1; go_simp⟩) hS0 ?_
          try simp only [Act.put, List.setIfInBounds_toArray, List.set_cons_zero, List.set_cons_succ]
          refine wpAnyH_take (i := 6) (oi := { dst := some 189, op := Go.Op.call { callee := Go.Callee.builtin Go.Builtin.len, args := #[Go.Operand.tmp 188], argTypes := #[22] }, type := 3, pos := "outright.go:148", after := #[{ on := 5, ground := Go.Ground.data }], guard := none }) (v := .int .i64 ((m3 : Int))) rfl (by kernel_rfl) (by kernel_rfl) (by kernel_rfl) (fun _ _ _ h => h) (Or.inl ⟨by rfl, by intro w2 hSw; (try dsimp only at hSw); have z0 := (hSw.cell (p := ⟨b1, o1 + r * 2, none⟩) (lt_of_cell a0)).trans a0; have z1 := (hSw.cell (p := ⟨b1, o1 + r * 2 + 1, none⟩) (lt_of_cell a1)).trans a1; have z2 := (hSw.cell (p := ⟨b2, o2 + q * 2, none⟩) (lt_of_cell c0)).trans c0; have z3 := (hSw.cell (p := ⟨b2, o2 + q * 2 + 1, none⟩) (lt_of_cell c1)).trans c1; go_simp⟩) hS0 ?_
          try simp only [Act.put, List.setIfInBounds_toArray, List.set_cons_zero, List.set_cons_succ]
          refine wpAnyH_take (i := 7) (oi := { dst := some 190, op := Go.Op.binOp Go.BinOp.sub 3 (Go.Operand.tmp 189) (Go.Operand.const (Go.Value.int Go.IntKind.i64 1)) 3, type := 3, pos := "outright.go:148", after := #[{ on := 6, ground := Go.Ground.data }], guard := none }) (v := .int .i64 ((m3 : Int) - 1)) rfl (by kernel_rfl) (by kernel_rfl) (by kernel_rfl) (fun _ _ _ h => h) (Or.inl ⟨by rfl, by intro w2 hSw; (try dsimp only at hSw); have z0 := (hSw.cell (p := ⟨b1, o1 + r * 2, none⟩) (lt_of_cell a0)).trans a0; have z1 := (hSw.cell (p := ⟨b1, o1 + r * 2 + 1, none⟩) (lt_of_cell a1)).trans a1; have z2 := (hSw.cell (p := ⟨b2, o2 + q * 2, none⟩) (lt_of_cell c0)).trans c0; have z3 := (hSw.cell (p := ⟨b2, o2 + q * 2 + 1, none⟩) (lt_of_cell c1)).trans c1; go_simp⟩) hS0 ?_
          try simp only [Act.put, List.setIfInBounds_toArray, List.set_cons_zero, List.set_cons_succ]
          refine wpAnyH_take (i := 8) (oi := { dst := some 191, op := Go.Op.move (Go.Operand.tmp 27), type := 3, pos := "outright.go:148", after := #[], guard := none }) (v := .int .i64 ((q : Int))) rfl (by kernel_rfl) (by kernel_rfl) (by kernel_rfl) (fun _ _ _ h => h) (Or.inl ⟨by rfl, by intro w2 hSw; (try dsimp only at hSw); have z0 := (hSw.cell (p := ⟨b1, o1 + r * 2, none⟩) (lt_of_cell a0)).trans a0; have z1 := (hSw.cell (p := ⟨b1, o1 + r * 2 + 1, none⟩) (lt_of_cell a1)).trans a1; have z2 := (hSw.cell (p := ⟨b2, o2 + q * 2, none⟩) (lt_of_cell c0)).trans c0; have z3 := (hSw.cell (p := ⟨b2, o2 + q * 2 + 1, none⟩) (lt_of_cell c1)).trans c1; go_simp⟩) hS0 ?_
          try simp only [Act.put, List.setIfInBounds_toArray, List.set_cons_zero, List.set_cons_succ]
          refine wpAnyH_take (i := 9) (oi := { dst := some 192, op := Go.Op.binOp Go.BinOp.sub 3 (Go.Operand.tmp 190) (Go.Operand.tmp 191) 3, type := 3, pos := "outright.go:148", after := #[{ on := 7, ground := Go.Ground.data }, { on := 8, ground := Go.Ground.data }], guard := none }) (v := .int .i64 ((m3 : Int) - 1 - (q : Int))) rfl (by kernel_rfl) (by kernel_rfl) (by kernel_rfl) (fun _ _ _ h => h) (Or.inl ⟨by rfl, by intro w2 hSw; (try dsimp only at hSw); have z0 := (hSw.cell (p := ⟨b1, o1 + r * 2, none⟩) (lt_of_cell a0)).trans a0; have z1 := (hSw.cell (p := ⟨b1, o1 + r * 2 + 1, none⟩) (lt_of_cell a1)).trans a1; have z2 := (hSw.cell (p := ⟨b2, o2 + q * 2, none⟩) (lt_of_cell c0)).trans c0; have z3 := (hSw.cell (p := ⟨b2, o2 + q * 2 + 1, none⟩) (lt_of_cell c1)).trans c1; go_simp⟩) hS0 ?_
          try simp only [Act.put, List.setIfInBounds_toArray, List.set_cons_zero, List.set_cons_succ]
          refine wpAnyH_take (i := 10) (oi := { dst := some 193, op := Go.Op.indexAddr 22 (Go.Operand.tmp 187) (Go.Operand.tmp 192), type := 0, pos := "outright.go:148", after := #[{ on := 4, ground := Go.Ground.data }, { on := 9, ground := Go.Ground.data }], guard := none }) (v := .pointer (some ⟨b1, o1 + r * 2, none⟩)) rfl (by kernel_rfl) (by kernel_rfl) (by kernel_rfl) (fun _ _ _ h => h) (Or.inl ⟨by rfl, by intro w2 hSw; (try dsimp only at hSw); have z0 := (hSw.cell (p := ⟨b1, o1 + r * 2, none⟩) (lt_of_cell a0)).trans a0; have z1 := (hSw.cell (p := ⟨b1, o1 + r * 2 + 1, none⟩) (lt_of_cell a1)).trans a1; have z2 := (hSw.cell (p := ⟨b2, o2 + q * 2, none⟩) (lt_of_cell c0)).trans c0; have z3 := (hSw.cell (p := ⟨b2, o2 + q * 2 + 1, none⟩) (lt_of_cell c1)).trans c1; go_simp⟩) hS0 ?_
          try simp only [Act.put, List.setIfInBounds_toArray, List.set_cons_zero, List.set_cons_succ]
          refine wpAnyH_take (i := 11) (oi := { dst := some 194, op := Go.Op.fieldAddr 56 (Go.Operand.tmp 193) 1, type := 0, pos := "outright.go:148", after := #[{ on := 10, ground := Go.Ground.data }], guard := none }) (v := .pointer (some ⟨b1, o1 + r * 2 + 1, none⟩)) rfl (by kernel_rfl) (by kernel_rfl) (by kernel_rfl) (fun _ _ _ h => h) (Or.inl ⟨by rfl, by intro w2 hSw; (try dsimp only at hSw); have z0 := (hSw.cell (p := ⟨b1, o1 + r * 2, none⟩) (lt_of_cell a0)).trans a0; have z1 := (hSw.cell (p := ⟨b1, o1 + r * 2 + 1, none⟩) (lt_of_cell a1)).trans a1; have z2 := (hSw.cell (p := ⟨b2, o2 + q * 2, none⟩) (lt_of_cell c0)).trans c0; have z3 := (hSw.cell (p := ⟨b2, o2 + q * 2 + 1, none⟩) (lt_of_cell c1)).trans c1; go_simp⟩) hS0 ?_
          try simp only [Act.put, List.setIfInBounds_toArray, List.set_cons_zero, List.set_cons_succ]
          refine wpAnyH_take (i := 12) (oi := { dst := some 195, op := Go.Op.load 2 (Go.Operand.tmp 194), type := 2, pos := "outright.go:148", after := #[{ on := 11, ground := Go.Ground.data }], guard := none }) (v := .int .i64 (hi)) rfl (by kernel_rfl) (by kernel_rfl) (by kernel_rfl) (fun _ _ _ h => h) (Or.inl ⟨by rfl, by intro w2 hSw; (try dsimp only at hSw); have z0 := (hSw.cell (p := ⟨b1, o1 + r * 2, none⟩) (lt_of_cell a0)).trans a0; have z1 := (hSw.cell (p := ⟨b1, o1 + r * 2 + 1, none⟩) (lt_of_cell a1)).trans a1; have z2 := (hSw.cell (p := ⟨b2, o2 + q * 2, none⟩) (lt_of_cell c0)).trans c0; have z3 := (hSw.cell (p := ⟨b2, o2 + q * 2 + 1, none⟩) (lt_of_cell c1)).trans c1; go_simp⟩) hS0 ?_
          try simp only [Act.put, List.setIfInBounds_toArray, List.set_cons_zero, List.set_cons_succ]
          refine wpAnyH_take (i := 13) (oi := { dst := some 196, op := Go.Op.binOp Go.BinOp.sub 2 (Go.Operand.const (Go.Value.int Go.IntKind.i64 10000)) (Go.Operand.tmp 195) 2, type := 2, pos := "outright.go:148", after := #[{ on := 12, ground := Go.Ground.data }], guard := none }) (v := .int .i64 (10000 - hi)) rfl (by kernel_rfl) (by kernel_rfl) (by kernel_rfl) (fun _ _ _ h => h) (Or.inl ⟨by rfl, by intro w2 hSw; (try dsimp only at hSw); have z0 := (hSw.cell (p := ⟨b1, o1 + r * 2, none⟩) (lt_of_cell a0)).trans a0; have z1 := (hSw.cell (p := ⟨b1, o1 + r * 2 + 1, none⟩) (lt_of_cell a1)).trans a1; have z2 := (hSw.cell (p := ⟨b2, o2 + q * 2, none⟩) (lt_of_cell c0)).trans c0; have z3 := (hSw.cell (p := ⟨b2, o2 + q * 2 + 1, none⟩) (lt_of_cell c1)).trans c1; go_simp⟩) hS0 ?_
          try simp only [Act.put, List.setIfInBounds_toArray, List.set_cons_zero, List.set_cons_succ]
          refine wpAnyH_take (i := 14) (oi := { dst := some 197, op := Go.Op.move (Go.Operand.tmp 15), type := 22, pos := "outright.go:148", after := #[], guard := none }) (v := .slice (some ⟨b1, o1, none⟩) m3 cp0) rfl (by kernel_rfl) (by kernel_rfl) (by kernel_rfl) (fun _ _ _ h => h) (Or.inl ⟨by rfl, by intro w2 hSw; (try dsimp only at hSw); have z0 := (hSw.cell (p := ⟨b1, o1 + r * 2, none⟩) (lt_of_cell a0)).trans a0; have z1 := (hSw.cell (p := ⟨b1, o1 + r * 2 + 1, none⟩) (lt_of_cell a1)).trans a1; have z2 := (hSw.cell (p := ⟨b2, o2 + q * 2, none⟩) (lt_of_cell c0)).trans c0; have z3 := (hSw.cell (p := ⟨b2, o2 + q * 2 + 1, none⟩) (lt_of_cell c1)).trans c1; go_simp⟩) hS0 ?_
          try simp only [Act.put, List.setIfInBounds_toArray, List.set_cons_zero, List.set_cons_succ]
          refine wpAnyH_take (i := 15) (oi := { dst := some 198, op := Go.Op.move (Go.Operand.tmp 15), type := 22, pos := "outright.go:148", after := #[], guard := none }) (v := .slice (some ⟨b1, o1, none⟩) m3 cp0) rfl (by kernel_rfl) (by kernel_rfl) (by kernel_rfl) (fun _ _ _ h => h) (Or.inl ⟨by rfl, by intro w2 hSw; (try dsimp only at hSw); have z0 := (hSw.cell (p := ⟨b1, o1 + r * 2, none⟩) (lt_of_cell a0)).trans a0; have z1 := (hSw.cell (p := ⟨b1, o1 + r * 2 + 1, none⟩) (lt_of_cell a1)).trans a1; have z2 := (hSw.cell (p := ⟨b2, o2 + q * 2, none⟩) (lt_of_cell c0)).trans c0; have z3 := (hSw.cell (p := ⟨b2, o2 + q * 2 + 1, none⟩) (lt_of_cell c1)).trans c1; go_simp⟩) hS0 ?_
          try simp only [Act.put, List.setIfInBounds_toArray, List.set_cons_zero, List.set_cons_succ]
          refine wpAnyH_take (i := 16) (oi := { dst := some 199, op := Go.Op.call { callee := Go.Callee.builtin Go.Builtin.len, args := #[Go.Operand.tmp 198], argTypes := #[22] }, type := 3, pos := "outright.go:148", after := #[{ on := 15, ground := Go.Ground.data }], guard := none }) (v := .int .i64 ((m3 : Int))) rfl (by kernel_rfl) (by kernel_rfl) (by kernel_rfl) (fun _ _ _ h => h) (Or.inl ⟨by rfl, by intro w2 hSw; (try dsimp only at hSw); have z0 := (hSw.cell (p := ⟨b1, o1 + r * 2, none⟩) (lt_of_cell a0)).trans a0; have z1 := (hSw.cell (p := ⟨b1, o1 + r * 2 + 1, none⟩) (lt_of_cell a1)).trans a1; have z2 := (hSw.cell (p := ⟨b2, o2 + q * 2, none⟩) (lt_of_cell c0)).trans c0; have z3 := (hSw.cell (p := ⟨b2, o2 + q * 2 + 1, none⟩) (lt_of_cell c1)).trans c1; go_simp⟩) hS0 ?_
          try simp only [Act.put, List.setIfInBounds_toArray, List.set_cons_zero, List.set_cons_succ]
          refine wpAnyH_take (i := 17) (oi := { dst := some 200, op := Go.Op.binOp Go.BinOp.sub 3 (Go.Operand.tmp 199) (Go.Operand.const (Go.Value.int Go.IntKind.i64 1)) 3, type := 3, pos := "outright.go:148", after := #[{ on := 16, ground := Go.Ground.data }], guard := none }) (v := .int .i64 ((m3 : Int) - 1)) rfl (by kernel_rfl) (by kernel_rfl) (by kernel_rfl) (fun _ _ _ h => h) (Or.inl ⟨by rfl, by intro w2 hSw; (try dsimp only at hSw); have z0 := (hSw.cell (p := ⟨b1, o1 + r * 2, none⟩) (lt_of_cell a0)).trans a0; have z1 := (hSw.cell (p := ⟨b1, o1 + r * 2 + 1, none⟩) (lt_of_cell a1)).trans a1; have z2 := (hSw.cell (p := ⟨b2, o2 + q * 2, none⟩) (lt_of_cell c0)).trans c0; have z3 := (hSw.cell (p := ⟨b2, o2 + q * 2 + 1, none⟩) (lt_of_cell c1)).trans c1; go_simp⟩) hS0 ?_
          try simp only [Act.put, List.setIfInBounds_toArray, List.set_cons_zero, List.set_cons_succ]
          refine wpAnyH_take (i := 18) (oi := { dst := some 201, op := Go.Op.move (Go.Operand.tmp 27), type := 3, pos := "outright.go:148", after := #[], guard := none }) (v := .int .i64 ((q : Int))) rfl (by kernel_rfl) (by kernel_rfl) (by kernel_rfl) (fun _ _ _ h => h) (Or.inl ⟨by rfl, by intro w2 hSw; (try dsimp only at hSw); have z0 := (hSw.cell (p := ⟨b1, o1 + r * 2, none⟩) (lt_of_cell a0)).trans a0; have z1 := (hSw.cell (p := ⟨b1, o1 + r * 2 + 1, none⟩) (lt_of_cell a1)).trans a1; have z2 := (hSw.cell (p := ⟨b2, o2 + q * 2, none⟩) (lt_of_cell c0)).trans c0; have z3 := (hSw.cell (p := ⟨b2, o2 + q * 2 + 1, none⟩) (lt_of_cell c1)).trans c1; go_simp⟩) hS0 ?_
          try simp only [Act.put, List.setIfInBounds_toArray, List.set_cons_zero, List.set_cons_succ]
          refine wpAnyH_take (i := 19) (oi := { dst := some 202, op := Go.Op.binOp Go.BinOp.sub 3 (Go.Operand.tmp 200) (Go.Operand.tmp 201) 3, type := 3, pos := "outright.go:148", after := #[{ on := 17, ground := Go.Ground.data }, { on := 18, ground := Go.Ground.data }], guard := none }) (v := .int .i64 ((m3 : Int) - 1 - (q : Int))) rfl (by kernel_rfl) (by kernel_rfl) (by kernel_rfl) (fun _ _ _ h => h) (Or.inl ⟨by rfl, by intro w2 hSw; (try dsimp only at hSw); have z0 := (hSw.cell (p := ⟨b1, o1 + r * 2, none⟩) (lt_of_cell a0)).trans a0; have z1 := (hSw.cell (p := ⟨b1, o1 + r * 2 + 1, none⟩) (lt_of_cell a1)).trans a1; have z2 := (hSw.cell (p := ⟨b2, o2 + q * 2, none⟩) (lt_of_cell c0)).trans c0; have z3 := (hSw.cell (p := ⟨b2, o2 + q * 2 + 1, none⟩) (lt_of_cell c1)).trans c1; go_simp⟩) hS0 ?_
          try simp only [Act.put, List.setIfInBounds_toArray, List.set_cons_zero, List.set_cons_succ]
          refine wpAnyH_take (i := 20) (oi := { dst := some 203, op := Go.Op.indexAddr 22 (Go.Operand.tmp 197) (Go.Operand.tmp 202), type := 0, pos := "outright.go:148", after := #[{ on := 14, ground := Go.Ground.data }, { on := 19, ground := Go.Ground.data }], guard := none }) (v := .pointer (some ⟨b1, o1 + r * 2, none⟩)) rfl (by kernel_rfl) (by kernel_rfl) (by kernel_rfl) (fun _ _ _ h => h) (Or.inl ⟨by rfl, by intro w2 hSw; (try dsimp only at hSw); have z0 := (hSw.cell (p := ⟨b1, o1 + r * 2, none⟩) (lt_of_cell a0)).trans a0; have z1 := (hSw.cell (p := ⟨b1, o1 + r * 2 + 1, none⟩) (lt_of_cell a1)).trans a1; have z2 := (hSw.cell (p := ⟨b2, o2 + q * 2, none⟩) (lt_of_cell c0)).trans c0; have z3 := (hSw.cell (p := ⟨b2, o2 + q * 2 + 1, none⟩) (lt_of_cell c1)).trans c1; go_simp⟩) hS0 ?_
          try simp only [Act.put, List.setIfInBounds_toArray, List.set_cons_zero, List.set_cons_succ]
          refine wpAnyH_take (i := 21) (oi := { dst := some 204, op := Go.Op.fieldAddr 56 (Go.Operand.tmp 203) 0, type := 0, pos := "outright.go:148", after := #[{ on := 20, ground := Go.Ground.data }], guard := none }) (v := .pointer (some ⟨b1, o1 + r * 2, none⟩)) rfl (by kernel_rfl) (by kernel_rfl) (by kernel_rfl) (fun _ _ _ h => h) (Or.inl ⟨by rfl, by intro w2 hSw; (try dsimp only at hSw); have z0 := (hSw.cell (p := ⟨b1, o1 + r * 2, none⟩) (lt_of_cell a0)).trans a0; have z1 := (hSw.cell (p := ⟨b1, o1 + r * 2 + 1, none⟩) (lt_of_cell a1)).trans a1; have z2 := (hSw.cell (p := ⟨b2, o2 + q * 2, none⟩) (lt_of_cell c0)).trans c0; have z3 := (hSw.cell (p := ⟨b2, o2 + q * 2 + 1, none⟩) (lt_of_cell c1)).trans c1; go_simp⟩) hS0 ?_
          try simp only [Act.put, List.setIfInBounds_toArray, List.set_cons_zero, List.set_cons_succ]
          refine wpAnyH_take (i := 22) (oi := { dst := some 205, op := Go.Op.load 2 (Go.Operand.tmp 204), type := 2, pos := "outright.go:148", after := #[{ on := 21, ground := Go.Ground.data }], guard := none }) (v := .int .i64 (lo)) rfl (by kernel_rfl) (by kernel_rfl) (by kernel_rfl) (fun _ _ _ h => h) (Or.inl ⟨by rfl, by intro w2 hSw; (try dsimp only at hSw); have z0 := (hSw.cell (p := ⟨b1, o1 + r * 2, none⟩) (lt_of_cell a0)).trans a0; have z1 := (hSw.cell (p := ⟨b1, o1 + r * 2 + 1, none⟩) (lt_of_cell a1)).trans a1; have z2 := (hSw.cell (p := ⟨b2, o2 + q * 2, none⟩) (lt_of_cell c0)).trans c0; have z3 := (hSw.cell (p := ⟨b2, o2 + q * 2 + 1, none⟩) (lt_of_cell c1)).trans c1; go_simp⟩) hS0 ?_
          try simp only [Act.put, List.setIfInBounds_toArray, List.set_cons_zero, List.set_cons_succ]
          refine wpAnyH_take (i := 23) (oi := { dst := some 206, op := Go.Op.binOp Go.BinOp.sub 2 (Go.Operand.const (Go.Value.int Go.IntKind.i64 10000)) (Go.Operand.tmp 205) 2, type := 2, pos := "outright.go:148", after := #[{ on := 22, ground := Go.Ground.data }], guard := none }) (v := .int .i64 (10000 - lo)) rfl (by kernel_rfl) (by kernel_rfl) (by kernel_rfl) (fun _ _ _ h => h) (Or.inl ⟨by rfl, by intro w2 hSw; (try dsimp only at hSw); have z0 := (hSw.cell (p := ⟨b1, o1 + r * 2, none⟩) (lt_of_cell a0)).trans a0; have z1 := (hSw.cell (p := ⟨b1, o1 + r * 2 + 1, none⟩) (lt_of_cell a1)).trans a1; have z2 := (hSw.cell (p := ⟨b2, o2 + q * 2, none⟩) (lt_of_cell c0)).trans c0; have z3 := (hSw.cell (p := ⟨b2, o2 + q * 2 + 1, none⟩) (lt_of_cell c1)).trans c1; go_simp⟩) hS0 ?_
          try simp only [Act.put, List.setIfInBounds_toArray, List.set_cons_zero, List.set_cons_succ]
          refine wpAnyH_ready (rs := [24]) (by kernel_rfl) (by simp) ?_
          refine AllReadyH.cons (o := { dst := some 207, op := Go.Op.call { callee := Go.Callee.value (Go.Operand.func 37), args := #[Go.Operand.tmp 196, Go.Operand.tmp 206], argTypes := #[2, 2] }, type := 56, pos := "outright.go:148", after := #[{ on := 13, ground := Go.Ground.data }, { on := 23, ground := Go.Ground.data }], guard := none }) rfl (fun K2 hK => ?_) AllReadyH.nil
          go_simp
          refine (hrg _).mono ?_
          rintro e9 V1 ⟨rfl, hb6⟩
          try go_simp
          refine hK.out _ _ (hS0.trans (hb6.mono hS0.size)) (fun hS1 => ?_)
          clear hK K2 hb6
          try simp only [Act.put, List.setIfInBounds_toArray, List.set_cons_zero, List.set_cons_succ]
          refine wpAnyH_take (i := 25) (oi := { dst := some 208, op := Go.Op.binOp Go.BinOp.neq 56 (Go.Operand.tmp 186) (Go.Operand.tmp 207) 56, type := 4, pos := "outright.go:148", after := #[{ on := 3, ground := Go.Ground.data }, { on := 24, ground := Go.Ground.data }], guard := none }) (v := .bool false) rfl (by kernel_rfl) (by kernel_rfl) (by kernel_rfl) (fun _ _ _ h => h) (Or.inl ⟨by rfl, by intro w2 hSw; (try dsimp only at hSw); have z0 := (hSw.cell (p := ⟨b1, o1 + r * 2, none⟩) (lt_of_cell a0)).trans a0; have z1 := (hSw.cell (p := ⟨b1, o1 + r * 2 + 1, none⟩) (lt_of_cell a1)).trans a1; have z2 := (hSw.cell (p := ⟨b2, o2 + q * 2, none⟩) (lt_of_cell c0)).trans c0; have z3 := (hSw.cell (p := ⟨b2, o2 + q * 2 + 1, none⟩) (lt_of_cell c1)).trans c1; go_simp⟩) hS1 ?_
          try simp only [Act.put, List.setIfInBounds_toArray, List.set_cons_zero, List.set_cons_succ]
          refine wpAnyH_done (by kernel_rfl) ?_ _
          have B8 := Lib.hid (B7.out.trans (hS1.mono B7.out.size))
          clear hS1 hS0 hrg qn a0 a1 c0 c1
          go_wp2_with fail
          go_roundw
          case rel => exact ⟨q + 1, by omega, by go_num, B8.out⟩
          case measure => simp [intOf]; omega
        · have hb := B7.out
          replace B1 := Lib.hid (B1.out.trans (hb.mono B1.out.size))
          replace Rx := Lib.hid (Rx.out.below hb (Nat.le_refl _))
          replace Ry := Lib.hid (Ry.out.below hb (Nat.le_refl _))
          replace S0r := Lib.hid (S0r.out.below hb (Nat.le_refl _))
          replace S1r := Lib.hid (S1r.out.below hb (Nat.le_refl _))
          replace X0 := Lib.hid ((hb.block _ (lt_of_block X0.out)).trans X0.out)
          clear hb B7 hB
          go_wp2_with fail
          obtain ⟨fy, hfy⟩ : ∃ fy, decide (chkS (zs.map (upR (up : Int))) = 0) = fy := ⟨_, rfl⟩
          have hc := fine35 Cy n cy (zs.map (upR (up : Int))) wq Ry.out hn
          rw [hfy] at hc
          refine hc.mono ?_
          clear hc
          rintro en w14 ⟨rfl, hb⟩
          replace B1 := Lib.hid (B1.out.trans (hb.mono B1.out.size))
          replace Rx := Lib.hid (Rx.out.below hb (Nat.le_refl _))
          replace Ry := Lib.hid (Ry.out.below hb (Nat.le_refl _))
          replace S0r := Lib.hid (S0r.out.below hb (Nat.le_refl _))
          replace S1r := Lib.hid (S1r.out.below hb (Nat.le_refl _))
          replace X0 := Lib.hid ((hb.block _ (lt_of_block X0.out)).trans X0.out)
          clear hb
          cases fy with
          | false =>
            clear hfy
            go_wp2_with fail
            refine (works15 _).mono ?_
            rintro en wz ⟨rfl, hb9⟩
            replace B1 := Lib.hid (B1.out.trans (hb9.mono B1.out.size))
            clear hb9
            go_wp2_with fail
            go_ret
            exact ⟨rfl, B0.out.trans (B1.out.mono B0.out.size)⟩
          | true =>
            have HZU := Lib.hid (of_decide_eq_true hfy)
            clear hfy
            go_wp2_with fail
            refine (spans28 Cy n cy (zs.map (upR (up : Int))) w14 Ry.out).mono ?_
            rintro en w15 ⟨hb, hor⟩
            replace B1 := Lib.hid (B1.out.trans (hb.mono B1.out.size))
            replace Rx := Lib.hid (Rx.out.below hb (Nat.le_refl _))
            replace Ry := Lib.hid (Ry.out.below hb (Nat.le_refl _))
            replace S0r := Lib.hid (S0r.out.below hb (Nat.le_refl _))
            replace S1r := Lib.hid (S1r.out.below hb (Nat.le_refl _))
            replace X0 := Lib.hid ((hb.block _ (lt_of_block X0.out)).trans X0.out)
            clear hb
            obtain ⟨hz, x3, y3, D3, cp3, hx, hy, rfl, hi, -⟩ | ⟨h0, rfl⟩ := hor
            rotate_left
            · exact absurd (HZU.out) h0
            have HX3 := Lib.hid (hx.dn (chkS_ok hz).1)
            have HY3 := Lib.hid (hy.up (ok_of hz))
            have ex : x3 = upS (up : Int) x0 := IsDn.eq (ok_of hz) HX3.out (dn_up _ HX0.out)
            have ey : y3 = upS (up : Int) y0 := IsUp.eq (ok_of hz) HY3.out (up_up _ HY0.out)
            have hl : x3.length = m3 := by rw [ex]; have := Hlx.out; have := Hly.out; first | omega | (simp [trnS, upS]; omega)
            rw [hl] at hi
            rw [hl]
            have EX3 := Lib.hid ex
            have EY3 := Lib.hid ey
            have S3r := Lib.hid hi
            clear hi hx hy hz hl ex ey HX3 HY3
            go_wp2_with fail
            refine (share30 Cy n cy (zs.map (upR (up : Int))) (ti : Int) (tk : Int) w15 Ry.out).mono ?_
            rintro en w16 ⟨hb, ma3, mu3, er, hs, rfl⟩
            replace B1 := Lib.hid (B1.out.trans (hb.mono B1.out.size))
            replace Rx := Lib.hid (Rx.out.below hb (Nat.le_refl _))
            replace Ry := Lib.hid (Ry.out.below hb (Nat.le_refl _))
            replace S0r := Lib.hid (S0r.out.below hb (Nat.le_refl _))
            replace S1r := Lib.hid (S1r.out.below hb (Nat.le_refl _))
            replace X0 := Lib.hid ((hb.block _ (lt_of_block X0.out)).trans X0.out)
            replace S3r := Lib.hid (S3r.out.below hb (Nat.le_refl _))
            obtain ⟨he1, he2, -, rfl⟩ := sr_up _ HZ.out HZU.out HIK.out.1 HIK.out.2 HS0.out hs
            obtain rfl := he1.symm
            obtain rfl := he2.symm
            clear hb hs
            have hr9 := heap_alloc_new_ w16 (.cells #[.bool ma0, .bool mu0] 43)
            have hb := below_alloc_ w16 (.cells #[.bool ma0, .bool mu0] 43)
            obtain ⟨w17, hV⟩ : ∃ w17, w16.alloc (.cells #[.bool ma0, .bool mu0] 43) = w17 := ⟨_, rfl⟩
            rw [hV] at hr9 hb
            replace B1 := Lib.hid (B1.out.trans (hb.mono B1.out.size))
            replace Rx := Lib.hid (Rx.out.below hb (Nat.le_refl _))
            replace Ry := Lib.hid (Ry.out.below hb (Nat.le_refl _))
            replace S0r := Lib.hid (S0r.out.below hb (Nat.le_refl _))
            replace S1r := Lib.hid (S1r.out.below hb (Nat.le_refl _))
            replace X0 := Lib.hid ((hb.block _ (lt_of_block X0.out)).trans X0.out)
            replace S3r := Lib.hid (S3r.out.below hb (Nat.le_refl _))
            obtain ⟨P3, hP⟩ : ∃ P, w16.heap.size = P := ⟨_, rfl⟩
            rw [hP] at hr9
            have X3 := Lib.hid hr9
            clear hb hr9
            have x00 : w17.cell? ⟨P0, 0, none⟩ = some (.bool ma0) := by rw [cell_row X0.out]; rfl
            have x01 : w17.cell? ⟨P0, 1, none⟩ = some (.bool mu0) := by rw [cell_row X0.out]; rfl
            have x30 : w17.cell? ⟨P3, 0, none⟩ = some (.bool ma0) := by rw [cell_row X3.out]; rfl
            have x31 : w17.cell? ⟨P3, 1, none⟩ = some (.bool mu0) := by rw [cell_row X3.out]; rfl
            have q1 : ∀ W, (binOp .neq 43 (.agg #[.bool ma0, .bool mu0]) (.agg #[.bool ma0, .bool mu0])).run Try.prog W = .ok (.bool false) W := fun W => run_neS2 ma0 mu0 ma0 mu0 ⟨rfl, rfl⟩ W
            go_wp2_with fail
            try rw [hP]
            try clear hV
            try clear hP
            clear x00 x01 x30 x31 q1 X0 X3
            go_loopw [30] (fun i wr => ∃ q : Nat, q ≤ m3 ∧ i = .int .i64 (q : Int) ∧ Below w17.heap.size w17 wr) (fun i _ => m3 - (intOf i).toNat)
            case atStart => exact ⟨0, by omega, rfl, Below.refl _ _⟩
            case round =>
              obtain ⟨q, hq, rfl, hB⟩ := hrel
              obtain ⟨wq, rfl⟩ : ∃ wq, wq = wr := ⟨_, rfl⟩
              have B7 := Lib.hid hB
              by_cases hlt : q < m3
              · obtain ⟨r, hr⟩ : ∃ r, m3 - 1 - q = r := ⟨_, rfl⟩
                obtain ⟨b1, o1, rfl, hc1⟩ := (S0r.out.below hB (Nat.le_refl _)).2 (by omega)
                obtain ⟨b2, o2, rfl, hc2⟩ := (S3r.out.below hB (Nat.le_refl _)).2 (by omega)
                obtain ⟨a0, a1⟩ := hc1 q (by omega)
                obtain ⟨c0, c1⟩ := hc2 q hlt
                rw [spn_up (up : Int) Hlx.out Hly.out EX3.out EY3.out hlt] at c0 c1
                dsimp only at c0 c1
                have hbd : 0 ≤ (gAt (spnL x0 y0 m3) q).lo ∧ (gAt (spnL x0 y0 m3) q).lo ≤ 10000 ∧ 0 ≤ (gAt (spnL x0 y0 m3) q).hi ∧ (gAt (spnL x0 y0 m3) q).hi ≤ 10000 := HBD.out q (by omega)
                obtain ⟨g, hg⟩ : ∃ g, gAt (spnL x0 y0 m3) q = g := ⟨_, rfl⟩
                rw [hg] at a0 a1 c0 c1 hbd
                clear hg hc1 hc2
                obtain ⟨lo, hi⟩ := g
                dsimp only at a0 a1 c0 c1 hbd
                obtain ⟨e1, e2, e3, e4⟩ := hbd
                have i0 : (0 : Int) ≤ (q : Int) := by omega
                have i1 : (q : Int) < (m3 : Int) := by omega
                have i2 : (q : Int) ≤ 24 := by omega
                have d3 : (q : Int).toNat = q := by omega
                clear hr
                have qn : ∀ W, (binOp .neq 56 (.agg #[.int .i64 (lo + (up : Int)), .int .i64 (hi + (up : Int))]) (.agg #[.int .i64 (lo + (up : Int)), .int .i64 (hi + (up : Int))])).run Try.prog W = .ok (.bool false) W := fun W => by have := run_eqR ⟨lo + (up : Int), hi + (up : Int)⟩ ⟨lo + (up : Int), hi + (up : Int)⟩ W; rwa [decide_eq_true rfl] at this
                have s8 : IntKind.i64.wrap (lo + (up : Int)) = lo + (up : Int) := IntWalk.i64_in _ (by omega)
                have s9 : IntKind.i64.wrap (hi + (up : Int)) = hi + (up : Int) := IntWalk.i64_in _ (by omega)
                have s10 : IntKind.i64.wrap (up : Int) = up := IntWalk.i64_in _ (by omega)
                have hrg := fun W => rg37 (lo + (up : Int)) (hi + (up : Int)) W
                clear hB
                go_wp2_with fail
                refine wp_region_held_drew (S := fun w2 => Below wq.heap.size wq w2) (by kernel_rfl) (drew_b _ _) (fun hS0 => ?_)
                refine wpAnyH_take (i := 0) (oi := { dst := some 249, op := Go.Op.move (Go.Operand.tmp 28), type := 22, pos := "outright.go:161", after := #[], guard := none }) (v := .slice (some ⟨b2, o2, none⟩) m3 cp3) rfl (by kernel_rfl) (by kernel_rfl) (by kernel_rfl) (fun _ _ _ h => h) (Or.inl ⟨by rfl, by intro w2 hSw; (try dsimp only at hSw); have z0 := (hSw.cell (p := ⟨b1, o1 + q * 2, none⟩) (lt_of_cell a0)).trans a0; have z1 := (hSw.cell (p := ⟨b1, o1 + q * 2 + 1, none⟩) (lt_of_cell a1)).trans a1; have z2 := (hSw.cell (p := ⟨b2, o2 + q * 2, none⟩) (lt_of_cell c0)).trans c0; have z3 := (hSw.cell (p := ⟨b2, o2 + q * 2 + 1, none⟩) (lt_of_cell c1)).trans c1; go_simp⟩) hS0 ?_
                try simp only [Act.put, List.setIfInBounds_toArray, List.set_cons_zero, List.set_cons_succ]
                refine wpAnyH_take (i := 1) (oi := { dst := some 250, op := Go.Op.move (Go.Operand.tmp 30), type := 3, pos := "outright.go:161", after := #[], guard := none }) (v := .int .i64 ((q : Int))) rfl (by kernel_rfl) (by kernel_rfl) (by kernel_rfl) (fun _ _ _ h => h) (Or.inl ⟨by rfl, by intro w2 hSw; (try dsimp only at hSw); have z0 := (hSw.cell (p := ⟨b1, o1 + q * 2, none⟩) (lt_of_cell a0)).trans a0; have z1 := (hSw.cell (p := ⟨b1, o1 + q * 2 + 1, none⟩) (lt_of_cell a1)).trans a1; have z2 := (hSw.cell (p := ⟨b2, o2 + q * 2, none⟩) (lt_of_cell c0)).trans c0; have z3 := (hSw.cell (p := ⟨b2, o2 + q * 2 + 1, none⟩) (lt_of_cell c1)).trans c1; go_simp⟩) hS0 ?_
                try simp only [Act.put, List.setIfInBounds_toArray, List.set_cons_zero, List.set_cons_succ]
                refine wpAnyH_take (i := 2) (oi := { dst := some 251, op := Go.Op.indexAddr 22 (Go.Operand.tmp 249) (Go.Operand.tmp 250), type := 0, pos := "outright.go:161", after := #[{ on := 0, ground := Go.Ground.data }, { on := 1, ground := Go.Ground.data }], guard := none }) (v := .pointer (some ⟨b2, o2 + q * 2, none⟩)) rfl (by kernel_rfl) (by kernel_rfl) (by kernel_rfl) (fun _ _ _ h => h) (Or.inl ⟨by rfl, by intro w2 hSw; (try dsimp only at hSw); have z0 := (hSw.cell (p := ⟨b1, o1 + q * 2, none⟩) (lt_of_cell a0)).trans a0; have z1 := (hSw.cell (p := ⟨b1, o1 + q * 2 + 1, none⟩) (lt_of_cell a1)).trans a1; have z2 := (hSw.cell (p := ⟨b2, o2 + q * 2, none⟩) (lt_of_cell c0)).trans c0; have z3 := (hSw.cell (p := ⟨b2, o2 + q * 2 + 1, none⟩) (lt_of_cell c1)).trans c1; go_simp⟩) hS0 ?_
                try simp only [Act.put, List.setIfInBounds_toArray, List.set_cons_zero, List.set_cons_succ]
                refine wpAnyH_take (i := 3) (oi := { dst := some 252, op := Go.Op.load 56 (Go.Operand.tmp 251), type := 56, pos := "outright.go:161", after := #[{ on := 2, ground := Go.Ground.data }], guard := none }) (v := .agg #[.int .i64 (lo + (up : Int)), .int .i64 (hi + (up : Int))]) rfl (by kernel_rfl) (by kernel_rfl) (by kernel_rfl) (fun _ _ _ h => h) (Or.inl ⟨by rfl, by intro w2 hSw; (try dsimp only at hSw); have z0 := (hSw.cell (p := ⟨b1, o1 + q * 2, none⟩) (lt_of_cell a0)).trans a0; have z1 := (hSw.cell (p := ⟨b1, o1 + q * 2 + 1, none⟩) (lt_of_cell a1)).trans a1; have z2 := (hSw.cell (p := ⟨b2, o2 + q * 2, none⟩) (lt_of_cell c0)).trans c0; have z3 := (hSw.cell (p := ⟨b2, o2 + q * 2 + 1, none⟩) (lt_of_cell c1)).trans c1; go_simp⟩) hS0 ?_
                try simp only [Act.put, List.setIfInBounds_toArray, List.set_cons_zero, List.set_cons_succ]
                refine wpAnyH_take (i := 4) (oi := { dst := some 253, op := Go.Op.move (Go.Operand.tmp 15), type := 22, pos := "outright.go:161", after := #[], guard := none }) (v := .slice (some ⟨b1, o1, none⟩) m3 cp0) rfl (by kernel_rfl) (by kernel_rfl) (by kernel_rfl) (fun _ _ _ h => h) (Or.inl ⟨by rfl, by intro w2 hSw; (try dsimp only at hSw); have z0 := (hSw.cell (p := ⟨b1, o1 + q * 2, none⟩) (lt_of_cell a0)).trans a0; have z1 := (hSw.cell (p := ⟨b1, o1 + q * 2 + 1, none⟩) (lt_of_cell a1)).trans a1; have z2 := (hSw.cell (p := ⟨b2, o2 + q * 2, none⟩) (lt_of_cell c0)).trans c0; have z3 := (hSw.cell (p := ⟨b2, o2 + q * 2 + 1, none⟩) (lt_of_cell c1)).trans c1; go_simp⟩) hS0 ?_
                try simp only [Act.put, List.setIfInBounds_toArray, List.set_cons_zero, List.set_cons_succ]
                refine wpAnyH_take (i := 5) (oi := { dst := some 254, op := Go.Op.move (Go.Operand.tmp 30), type := 3, pos := "outright.go:161", after := #[], guard := none }) (v := .int .i64 ((q : Int))) rfl (by kernel_rfl) (by kernel_rfl) (by kernel_rfl) (fun _ _ _ h => h) (Or.inl ⟨by rfl, by intro w2 hSw; (try dsimp only at hSw); have z0 := (hSw.cell (p := ⟨b1, o1 + q * 2, none⟩) (lt_of_cell a0)).trans a0; have z1 := (hSw.cell (p := ⟨b1, o1 + q * 2 + 1, none⟩) (lt_of_cell a1)).trans a1; have z2 := (hSw.cell (p := ⟨b2, o2 + q * 2, none⟩) (lt_of_cell c0)).trans c0; have z3 := (hSw.cell (p := ⟨b2, o2 + q * 2 + 1, none⟩) (lt_of_cell c1)).trans c1; go_simp⟩) hS0 ?_
                try simp only [Act.put, List.setIfInBounds_toArray, List.set_cons_zero, List.set_cons_succ]
                refine wpAnyH_take (i := 6) (oi := { dst := some 255, op := Go.Op.indexAddr 22 (Go.Operand.tmp 253) (Go.Operand.tmp 254), type := 0, pos := "outright.go:161", after := #[{ on := 4, ground := Go.Ground.data }, { on := 5, ground := Go.Ground.data }], guard := none }) (v := .pointer (some ⟨b1, o1 + q * 2, none⟩)) rfl (by kernel_rfl) (by kernel_rfl) (by kernel_rfl) (fun _ _ _ h => h) (Or.inl ⟨by rfl, by intro w2 hSw; (try dsimp only at hSw); have z0 := (hSw.cell (p := ⟨b1, o1 + q * 2, none⟩) (lt_of_cell a0)).trans a0; have z1 := (hSw.cell (p := ⟨b1, o1 + q * 2 + 1, none⟩) (lt_of_cell a1)).trans a1; have z2 := (hSw.cell (p := ⟨b2, o2 + q * 2, none⟩) (lt_of_cell c0)).trans c0; have z3 := (hSw.cell (p := ⟨b2, o2 + q * 2 + 1, none⟩) (lt_of_cell c1)).trans c1; go_simp⟩) hS0 ?_
                try simp only [Act.put, List.setIfInBounds_toArray, List.set_cons_zero, List.set_cons_succ]
                refine wpAnyH_take (i := 7) (oi := { dst := some 256, op := Go.Op.fieldAddr 56 (Go.Operand.tmp 255) 0, type := 0, pos := "outright.go:161", after := #[{ on := 6, ground := Go.Ground.data }], guard := none }) (v := .pointer (some ⟨b1, o1 + q * 2, none⟩)) rfl (by kernel_rfl) (by kernel_rfl) (by kernel_rfl) (fun _ _ _ h => h) (Or.inl ⟨by rfl, by intro w2 hSw; (try dsimp only at hSw); have z0 := (hSw.cell (p := ⟨b1, o1 + q * 2, none⟩) (lt_of_cell a0)).trans a0; have z1 := (hSw.cell (p := ⟨b1, o1 + q * 2 + 1, none⟩) (lt_of_cell a1)).trans a1; have z2 := (hSw.cell (p := ⟨b2, o2 + q * 2, none⟩) (lt_of_cell c0)).trans c0; have z3 := (hSw.cell (p := ⟨b2, o2 + q * 2 + 1, none⟩) (lt_of_cell c1)).trans c1; go_simp⟩) hS0 ?_
                try simp only [Act.put, List.setIfInBounds_toArray, List.set_cons_zero, List.set_cons_succ]
                refine wpAnyH_take (i := 8) (oi := { dst := some 257, op := Go.Op.load 2 (Go.Operand.tmp 256), type := 2, pos := "outright.go:161", after := #[{ on := 7, ground := Go.Ground.data }], guard := none }) (v := .int .i64 (lo)) rfl (by kernel_rfl) (by kernel_rfl) (by kernel_rfl) (fun _ _ _ h => h) (Or.inl ⟨by rfl, by intro w2 hSw; (try dsimp only at hSw); have z0 := (hSw.cell (p := ⟨b1, o1 + q * 2, none⟩) (lt_of_cell a0)).trans a0; have z1 := (hSw.cell (p := ⟨b1, o1 + q * 2 + 1, none⟩) (lt_of_cell a1)).trans a1; have z2 := (hSw.cell (p := ⟨b2, o2 + q * 2, none⟩) (lt_of_cell c0)).trans c0; have z3 := (hSw.cell (p := ⟨b2, o2 + q * 2 + 1, none⟩) (lt_of_cell c1)).trans c1; go_simp⟩) hS0 ?_
                try simp only [Act.put, List.setIfInBounds_toArray, List.set_cons_zero, List.set_cons_succ]
                refine wpAnyH_take (i := 9) (oi := { dst := some 258, op := Go.Op.move (Go.Operand.tmp 2), type := 59, pos := "outright.go:161", after := #[], guard := none }) (v := .int .u16 (up : Int)) rfl (by kernel_rfl) (by kernel_rfl) (by kernel_rfl) (fun _ _ _ h => h) (Or.inl ⟨by rfl, by intro w2 hSw; (try dsimp only at hSw); have z0 := (hSw.cell (p := ⟨b1, o1 + q * 2, none⟩) (lt_of_cell a0)).trans a0; have z1 := (hSw.cell (p := ⟨b1, o1 + q * 2 + 1, none⟩) (lt_of_cell a1)).trans a1; have z2 := (hSw.cell (p := ⟨b2, o2 + q * 2, none⟩) (lt_of_cell c0)).trans c0; have z3 := (hSw.cell (p := ⟨b2, o2 + q * 2 + 1, none⟩) (lt_of_cell c1)).trans c1; go_simp⟩) hS0 ?_
                try simp only [Act.put, List.setIfInBounds_toArray, List.set_cons_zero, List.set_cons_succ]
                refine wpAnyH_take (i := 10) (oi := { dst := some 259, op := Go.Op.convert 59 2 (Go.Operand.tmp 258), type := 2, pos := "outright.go:161", after := #[{ on := 9, ground := Go.Ground.data }], guard := none }) (v := .int .i64 ((up : Int))) rfl (by kernel_rfl) (by kernel_rfl) (by kernel_rfl) (fun _ _ _ h => h) (Or.inl ⟨by rfl, by intro w2 hSw; (try dsimp only at hSw); have z0 := (hSw.cell (p := ⟨b1, o1 + q * 2, none⟩) (lt_of_cell a0)).trans a0; have z1 := (hSw.cell (p := ⟨b1, o1 + q * 2 + 1, none⟩) (lt_of_cell a1)).trans a1; have z2 := (hSw.cell (p := ⟨b2, o2 + q * 2, none⟩) (lt_of_cell c0)).trans c0; have z3 := (hSw.cell (p := ⟨b2, o2 + q * 2 + 1, none⟩) (lt_of_cell c1)).trans c1; go_simp⟩) hS0 ?_
                try simp only [Act.put, List.setIfInBounds_toArray, List.set_cons_zero, List.set_cons_succ]
                refine wpAnyH_take (i := 11) (oi := { dst := some 260, op := Go.Op.binOp Go.BinOp.add 2 (Go.Operand.tmp 257) (Go.Operand.tmp 259) 2, type := 2, pos := "outright.go:161", after := #[{ on := 8, ground := Go.Ground.data }, { on := 10, ground := Go.Ground.data }], guard := none }) (v := .int .i64 (lo + (up : Int))) rfl (by kernel_rfl) (by kernel_rfl) (by kernel_rfl) (fun _ _ _ h => h) (Or.inl ⟨by rfl, by intro w2 hSw; (try dsimp only at hSw); have z0 := (hSw.cell (p := ⟨b1, o1 + q * 2, none⟩) (lt_of_cell a0)).trans a0; have z1 := (hSw.cell (p := ⟨b1, o1 + q * 2 + 1, none⟩) (lt_of_cell a1)).trans a1; have z2 := (hSw.cell (p := ⟨b2, o2 + q * 2, none⟩) (lt_of_cell c0)).trans c0; have z3 := (hSw.cell (p := ⟨b2, o2 + q * 2 + 1, none⟩) (lt_of_cell c1)).trans c1; go_simp⟩) hS0 ?_
                try simp only [Act.put, List.setIfInBounds_toArray, List.set_cons_zero, List.set_cons_succ]
                refine wpAnyH_take (i := 12) (oi := { dst := some 261, op := Go.Op.move (Go.Operand.tmp 15), type := 22, pos := "outright.go:161", after := #[], guard := none }) (v := .slice (some ⟨b1, o1, none⟩) m3 cp0) rfl (by kernel_rfl) (by kernel_rfl) (by kernel_rfl) (fun _ _ _ h => h) (Or.inl ⟨by rfl, by intro w2 hSw; (try dsimp only at hSw); have z0 := (hSw.cell (p := ⟨b1, o1 + q * 2, none⟩) (lt_of_cell a0)).trans a0; have z1 := (hSw.cell (p := ⟨b1, o1 + q * 2 + 1, none⟩) (lt_of_cell a1)).trans a1; have z2 := (hSw.cell (p := ⟨b2, o2 + q * 2, none⟩) (lt_of_cell c0)).trans c0; have z3 := (hSw.cell (p := ⟨b2, o2 + q * 2 + 1, none⟩) (lt_of_cell c1)).trans c1; go_simp⟩) hS0 ?_
                try simp only [Act.put, List.setIfInBounds_toArray, List.set_cons_zero, List.set_cons_succ]
                refine wpAnyH_take (i := 13) (oi := { dst := some 262, op := Go.Op.move (Go.Operand.tmp 30), type := 3, pos := "outright.go:161", after := #[], guard := none }) (v := .int .i64 ((q : Int))) rfl (by kernel_rfl) (by kernel_rfl) (by kernel_rfl) (fun _ _ _ h => h) (Or.inl ⟨by rfl, by intro w2 hSw; (try dsimp only at hSw); have z0 := (hSw.cell (p := ⟨b1, o1 + q * 2, none⟩) (lt_of_cell a0)).trans a0; have z1 := (hSw.cell (p := ⟨b1, o1 + q * 2 + 1, none⟩) (lt_of_cell a1)).trans a1; have z2 := (hSw.cell (p := ⟨b2, o2 + q * 2, none⟩) (lt_of_cell c0)).trans c0; have z3 := (hSw.cell (p := ⟨b2, o2 + q * 2 + 1, none⟩) (lt_of_cell c1)).trans c1; go_simp⟩) hS0 ?_
                try simp only [Act.put, List.setIfInBounds_toArray, List.set_cons_zero, List.set_cons_succ]
                refine wpAnyH_take (i := 14) (oi := { dst := some 263, op := Go.Op.indexAddr 22 (Go.Operand.tmp 261) (Go.Operand.tmp 262), type := 0, pos := "outright.go:161", after := #[{ on := 12, ground := Go.Ground.data }, { on := 13, ground := Go.Ground.data }], guard := none }) (v := .pointer (some ⟨b1, o1 + q * 2, none⟩)) rfl (by kernel_rfl) (by kernel_rfl) (by kernel_rfl) (fun _ _ _ h => h) (Or.inl ⟨by rfl, by intro w2 hSw; (try dsimp only at hSw); have z0 := (hSw.cell (p := ⟨b1, o1 + q * 2, none⟩) (lt_of_cell a0)).trans a0; have z1 := (hSw.cell (p := ⟨b1, o1 + q * 2 + 1, none⟩) (lt_of_cell a1)).trans a1; have z2 := (hSw.cell (p := ⟨b2, o2 + q * 2, none⟩) (lt_of_cell c0)).trans c0; have z3 := (hSw.cell (p := ⟨b2, o2 + q * 2 + 1, none⟩) (lt_of_cell c1)).trans c1; go_simp⟩) hS0 ?_
                try simp only [Act.put, List.setIfInBounds_toArray, List.set_cons_zero, List.set_cons_succ]
                refine wpAnyH_take (i := 15) (oi := { dst := some 264, op := Go.Op.fieldAddr 56 (Go.Operand.tmp 263) 1, type := 0, pos := "outright.go:161", after := #[{ on := 14, ground := Go.Ground.data }], guard := none }) (v := .pointer (some ⟨b1, o1 + q * 2 + 1, none⟩)) rfl (by kernel_rfl) (by kernel_rfl) (by kernel_rfl) (fun _ _ _ h => h) (Or.inl ⟨by rfl, by intro w2 hSw; (try dsimp only at hSw); have z0 := (hSw.cell (p := ⟨b1, o1 + q * 2, none⟩) (lt_of_cell a0)).trans a0; have z1 := (hSw.cell (p := ⟨b1, o1 + q * 2 + 1, none⟩) (lt_of_cell a1)).trans a1; have z2 := (hSw.cell (p := ⟨b2, o2 + q * 2, none⟩) (lt_of_cell c0)).trans c0; have z3 := (hSw.cell (p := ⟨b2, o2 + q * 2 + 1, none⟩) (lt_of_cell c1)).trans c1; go_simp⟩) hS0 ?_
                try simp only [Act.put, List.setIfInBounds_toArray, List.set_cons_zero, List.set_cons_succ]
                refine wpAnyH_take (i := 16) (oi := { dst := some 265, op := Go.Op.load 2 (Go.Operand.tmp 264), type := 2, pos := "outright.go:161", after := #[{ on := 15, ground := Go.Ground.data }], guard := none }) (v := .int .i64 (hi)) rfl (by kernel_rfl) (by kernel_rfl) (by kernel_rfl) (fun _ _ _ h => h) (Or.inl ⟨by rfl, by intro w2 hSw; (try dsimp only at hSw); have z0 := (hSw.cell (p := ⟨b1, o1 + q * 2, none⟩) (lt_of_cell a0)).trans a0; have z1 := (hSw.cell (p := ⟨b1, o1 + q * 2 + 1, none⟩) (lt_of_cell a1)).trans a1; have z2 := (hSw.cell (p := ⟨b2, o2 + q * 2, none⟩) (lt_of_cell c0)).trans c0; have z3 := (hSw.cell (p := ⟨b2, o2 + q * 2 + 1, none⟩) (lt_of_cell c1)).trans c1; go_simp⟩) hS0 ?_
                try simp only [Act.put, List.setIfInBounds_toArray, List.set_cons_zero, List.set_cons_succ]
                refine wpAnyH_take (i := 17) (oi := { dst := some 266, op := Go.Op.move (Go.Operand.tmp 2), type := 59, pos := "outright.go:161", after := #[], guard := none }) (v := .int .u16 (up : Int)) rfl (by kernel_rfl) (by kernel_rfl) (by kernel_rfl) (fun _ _ _ h => h) (Or.inl ⟨by rfl, by intro w2 hSw; (try dsimp only at hSw); have z0 := (hSw.cell (p := ⟨b1, o1 + q * 2, none⟩) (lt_of_cell a0)).trans a0; have z1 := (hSw.cell (p := ⟨b1, o1 + q * 2 + 1, none⟩) (lt_of_cell a1)).trans a1; have z2 := (hSw.cell (p := ⟨b2, o2 + q * 2, none⟩) (lt_of_cell c0)).trans c0; have z3 := (hSw.cell (p := ⟨b2, o2 + q * 2 + 1, none⟩) (lt_of_cell c1)).trans c1; go_simp⟩) hS0 ?_
                try simp only [Act.put, List.setIfInBounds_toArray, List.set_cons_zero, List.set_cons_succ]
                refine wpAnyH_take (i := 18) (oi := { dst := some 267, op := Go.Op.convert 59 2 (Go.Operand.tmp 266), type := 2, pos := "outright.go:161", after := #[{ on := 17, ground := Go.Ground.data }], guard := none }) (v := .int .i64 ((up : Int))) rfl (by kernel_rfl) (by kernel_rfl) (by kernel_rfl) (fun _ _ _ h => h) (Or.inl ⟨by rfl, by intro w2 hSw; (try dsimp only at hSw); have z0 := (hSw.cell (p := ⟨b1, o1 + q * 2, none⟩) (lt_of_cell a0)).trans a0; have z1 := (hSw.cell (p := ⟨b1, o1 + q * 2 + 1, none⟩) (lt_of_cell a1)).trans a1; have z2 := (hSw.cell (p := ⟨b2, o2 + q * 2, none⟩) (lt_of_cell c0)).trans c0; have z3 := (hSw.cell (p := ⟨b2, o2 + q * 2 + 1, none⟩) (lt_of_cell c1)).trans c1; go_simp⟩) hS0 ?_
                try simp only [Act.put, List.setIfInBounds_toArray, List.set_cons_zero, List.set_cons_succ]
                refine wpAnyH_take (i := 19) (oi := { dst := some 268, op := Go.Op.binOp Go.BinOp.add 2 (Go.Operand.tmp 265) (Go.Operand.tmp 267) 2, type := 2, pos := "outright.go:161", after := #[{ on := 16, ground := Go.Ground.data }, { on := 18, ground := Go.Ground.data }], guard := none }) (v := .int .i64 (hi + (up : Int))) rfl (by kernel_rfl) (by kernel_rfl) (by kernel_rfl) (fun _ _ _ h => h) (Or.inl ⟨by rfl, by intro w2 hSw; (try dsimp only at hSw); have z0 := (hSw.cell (p := ⟨b1, o1 + q * 2, none⟩) (lt_of_cell a0)).trans a0; have z1 := (hSw.cell (p := ⟨b1, o1 + q * 2 + 1, none⟩) (lt_of_cell a1)).trans a1; have z2 := (hSw.cell (p := ⟨b2, o2 + q * 2, none⟩) (lt_of_cell c0)).trans c0; have z3 := (hSw.cell (p := ⟨b2, o2 + q * 2 + 1, none⟩) (lt_of_cell c1)).trans c1; go_simp⟩) hS0 ?_
                try simp only [Act.put, List.setIfInBounds_toArray, List.set_cons_zero, List.set_cons_succ]
                refine wpAnyH_ready (rs := [20]) (by kernel_rfl) (by simp) ?_
                refine AllReadyH.cons (o := { dst := some 269, op := Go.Op.call { callee := Go.Callee.value (Go.Operand.func 37), args := #[Go.Operand.tmp 260, Go.Operand.tmp 268], argTypes := #[2, 2] }, type := 56, pos := "outright.go:161", after := #[{ on := 11, ground := Go.Ground.data }, { on := 19, ground := Go.Ground.data }], guard := none }) rfl (fun K2 hK => ?_) AllReadyH.nil
                go_simp
                refine (hrg _).mono ?_
                rintro e9 V1 ⟨rfl, hb6⟩
                try go_simp
                refine hK.out _ _ (hS0.trans (hb6.mono hS0.size)) (fun hS1 => ?_)
                clear hK K2 hb6
                try simp only [Act.put, List.setIfInBounds_toArray, List.set_cons_zero, List.set_cons_succ]
                refine wpAnyH_take (i := 21) (oi := { dst := some 270, op := Go.Op.binOp Go.BinOp.neq 56 (Go.Operand.tmp 252) (Go.Operand.tmp 269) 56, type := 4, pos := "outright.go:161", after := #[{ on := 3, ground := Go.Ground.data }, { on := 20, ground := Go.Ground.data }], guard := none }) (v := .bool false) rfl (by kernel_rfl) (by kernel_rfl) (by kernel_rfl) (fun _ _ _ h => h) (Or.inl ⟨by rfl, by intro w2 hSw; (try dsimp only at hSw); have z0 := (hSw.cell (p := ⟨b1, o1 + q * 2, none⟩) (lt_of_cell a0)).trans a0; have z1 := (hSw.cell (p := ⟨b1, o1 + q * 2 + 1, none⟩) (lt_of_cell a1)).trans a1; have z2 := (hSw.cell (p := ⟨b2, o2 + q * 2, none⟩) (lt_of_cell c0)).trans c0; have z3 := (hSw.cell (p := ⟨b2, o2 + q * 2 + 1, none⟩) (lt_of_cell c1)).trans c1; go_simp⟩) hS1 ?_
                try simp only [Act.put, List.setIfInBounds_toArray, List.set_cons_zero, List.set_cons_succ]
                refine wpAnyH_done (by kernel_rfl) ?_ _
                have B8 := Lib.hid (B7.out.trans (hS1.mono B7.out.size))
                clear hS1 hS0 hrg qn a0 a1 c0 c1
                go_wp2_with fail
                go_roundw
                case rel => exact ⟨q + 1, by omega, by go_num, B8.out⟩
                case measure => simp [intOf]; omega
              · have hb := B7.out
                replace B1 := Lib.hid (B1.out.trans (hb.mono B1.out.size))
                replace S0r := Lib.hid (S0r.out.below hb (Nat.le_refl _))
                replace S1r := Lib.hid (S1r.out.below hb (Nat.le_refl _))
                replace S3r := Lib.hid (S3r.out.below hb (Nat.le_refl _))
                clear hb B7 hB
                go_wp2_with fail
                refine (works15 _).mono ?_
                rintro en wz ⟨rfl, hb9⟩
                replace B1 := Lib.hid (B1.out.trans (hb9.mono B1.out.size))
                clear hb9
                go_wp2_with fail
                go_ret
                exact ⟨rfl, B0.out.trans (B1.out.mono B0.out.size)⟩
end Go.Proofs.Ytdfdlklglbefiaa
