/- Stage 4: whether matches are a passage, in the program. -/
import Derived.Test.YthdjbapidodlfaaM17
namespace Go.Proofs.Ythdjbapidodlfaa
set_option linter.unusedSimpArgs false
set_option linter.unusedVariables false
open Go.RowKit Go.Shelf
attribute [local go_sem ↓] exec_app at_app
attribute [local go_sem] Oper.semAt_some

/-- Each of the first k numbers is below that of the other list. -/
def befB (a b : List Int) (k : Nat) : Bool := (List.range k).all fun i => decide (iAt a i < iAt b i)
theorem befB_succ (a b : List Int) (k : Nat) : befB a b (k + 1) = (befB a b k && decide (iAt a k < iAt b k)) := by
  simp [befB, List.range_succ]
theorem befB_stop (a b : List Int) {k n : Nat} (h : ¬ iAt a k < iAt b k) (hk : k < n) : befB a b n = false := by
  unfold befB
  rw [List.all_eq_false]
  exact ⟨k, List.mem_range.2 hk, by simpa using h⟩
def eqB (a b : List Int) (k : Nat) : Bool := (List.range k).all fun i => decide (iAt a i = iAt b i)
theorem eqB_succ (a b : List Int) (k : Nat) : eqB a b (k + 1) = (eqB a b k && decide (iAt a k = iAt b k)) := by
  simp [eqB, List.range_succ]
theorem eqB_iff {a b : List Int} {n : Nat} (ha : a.length = n) (hb : b.length = n) : eqB a b n = true ↔ a = b := by
  unfold eqB
  rw [List.all_eq_true]
  constructor
  · intro h
    apply List.ext_getElem (by omega)
    intro i h1 h2
    have := h i (List.mem_range.2 (by omega))
    rw [decide_eq_true_iff, iAt_eq h1, iAt_eq h2] at this
    exact this
  · rintro rfl i _
    simp
set_option maxRecDepth 100000 in
set_option maxHeartbeats 8000000 in
theorem before63 (A : Option Addr) (n c : Nat) (a : List Int) (A2 : Option Addr) (n2 c2 : Nat) (b : List Int) (w : World) (h : Ints w A n a) (h2 : Ints w A2 n2 b) (hn : n ≤ n2) (hn8 : n ≤ 1000) :
    Calls Try.prog 63 #[.slice A n c, .slice A2 n2 c2] w fun e w' => e = .returned (.bool (befB a b n)) ∧ Below w.heap.size w w' := by
  have HA := Lib.hid h
  have HB := Lib.hid h2
  clear h h2
  go_enter Try.func63, Try.ntmps63
  go_wp2_with fail
  go_loopw [5] (fun i wr => ∃ k : Nat, k ≤ n ∧ i = .int .i64 (k : Int) ∧ Hid (befB a b k = true) ∧ Below w.heap.size w wr) (fun i _ => n - (intOf i).toNat)
  case atStart => exact ⟨0, Nat.zero_le _, rfl, Lib.hid rfl, Below.refl _ _⟩
  case round =>
    obtain ⟨k, hk, rfl, HT, hb⟩ := hrel
    by_cases hlt : k < n
    · obtain ⟨ab, ao, rfl, ac⟩ := HA.out.2 (by omega)
      obtain ⟨bb, bo, rfl, bc⟩ := HB.out.2 (by omega)
      have x0 := (hb.cell (p := ⟨ab, ao + k, none⟩) (lt_of_cell (ac k hlt))).trans (ac k hlt)
      have y0 := (hb.cell (p := ⟨bb, bo + k, none⟩) (lt_of_cell (bc k (by omega)))).trans (bc k (by omega))
      have Hs := Lib.hid (befB_succ a b k)
      have Hst := Lib.hid (fun q => befB_stop a b (k := k) (n := n) q hlt)
      rw [HT.out, Bool.true_and] at Hs
      obtain ⟨x, hx⟩ : ∃ x, iAt a k = x := ⟨_, rfl⟩
      obtain ⟨y, hy⟩ : ∃ y, iAt b k = y := ⟨_, rfl⟩
      rw [hx] at x0 Hs Hst
      rw [hy] at y0 Hs Hst
      have HB0 := Lib.hid hb
      have i0 : (0 : Int) ≤ (k : Int) := by omega
      have i1 : (k : Int) < (n : Int) := by omega
      have i2 : (k : Int) < (n2 : Int) := by omega
      clear ac bc hx hy hb HT
      by_cases hxy : x < y
      · rw [decide_eq_true hxy] at Hs
        have d1 : ¬ y ≤ x := by omega
        clear hxy Hst
        go_wp2_with fail
        go_quiet (fail)
        have HN := Lib.hid (HB0.out.trans ((drew_b wr nq).mono HB0.out.size))
        go_wp2_with fail
        go_roundw
        case rel => exact ⟨k + 1, by omega, by go_num, Lib.hid Hs.out, HN.out⟩
        case measure => simp [intOf]; omega
      · have HF := Lib.hid (Hst.out hxy)
        have d1 : y ≤ x := by omega
        clear hxy Hst Hs
        go_wp2_with fail
        go_quiet (fail)
        have HN := Lib.hid (HB0.out.trans ((drew_b wr nq).mono HB0.out.size))
        go_wp2_with fail
        go_ret
        exact ⟨by rw [HF.out]; rfl, HN.out⟩
    · obtain rfl : k = n := by omega
      have HB0 := Lib.hid hb
      clear hb
      go_wp2_with fail
      go_ret
      exact ⟨by rw [HT.out]; rfl, HB0.out⟩
set_option maxRecDepth 100000 in
set_option maxHeartbeats 8000000 in
theorem same57 (A : Option Addr) (n c : Nat) (a : List Int) (A2 : Option Addr) (n2 c2 : Nat) (b : List Int) (w : World) (h : Ints w A n a) (h2 : Ints w A2 n2 b) (hn8 : n ≤ 1000) :
    Calls Try.prog 57 #[.slice A n c, .slice A2 n2 c2] w fun e w' => e = .returned (.bool (decide (a = b))) ∧ Below w.heap.size w w' := by
  have HA := Lib.hid h
  have HB := Lib.hid h2
  clear h h2
  by_cases hnn : n = n2
  rotate_left
  · have d0 : ((n : Int) != (n2 : Int)) = true := by rw [bne_iff_ne]; omega
    have HF := Lib.hid (show decide (a = b) = false from decide_eq_false (fun e => hnn (by rw [← HA.out.1, ← HB.out.1, e])))
    clear hnn
    go_enter Try.func57, Try.ntmps57
    go_wp2_with fail
    go_ret
    exact ⟨by rw [HF.out]; rfl, Below.refl _ _⟩
  subst hnn
  have Heq := Lib.hid (eqB_iff HA.out.1 HB.out.1)
  go_enter Try.func57, Try.ntmps57
  go_wp2_with fail
  go_loopw [5] (fun i wr => ∃ k : Nat, k ≤ n ∧ i = .int .i64 (k : Int) ∧ Hid (eqB a b k = true) ∧ Below w.heap.size w wr) (fun i _ => n - (intOf i).toNat)
  case atStart => exact ⟨0, Nat.zero_le _, rfl, Lib.hid rfl, Below.refl _ _⟩
  case round =>
    obtain ⟨k, hk, rfl, HT, hb⟩ := hrel
    by_cases hlt : k < n
    · obtain ⟨ab, ao, rfl, ac⟩ := HA.out.2 (by omega)
      obtain ⟨bb, bo, rfl, bc⟩ := HB.out.2 (by omega)
      have x0 := (hb.cell (p := ⟨ab, ao + k, none⟩) (lt_of_cell (ac k hlt))).trans (ac k hlt)
      have y0 := (hb.cell (p := ⟨bb, bo + k, none⟩) (lt_of_cell (bc k hlt))).trans (bc k hlt)
      have Hs := Lib.hid (eqB_succ a b k)
      rw [HT.out, Bool.true_and] at Hs
      obtain ⟨x, hx⟩ : ∃ x, iAt a k = x := ⟨_, rfl⟩
      obtain ⟨y, hy⟩ : ∃ y, iAt b k = y := ⟨_, rfl⟩
      have Hf := Lib.hid (show x ≠ y → a ≠ b from fun e e2 => e (by rw [← hx, ← hy, e2]))
      rw [hx] at x0 Hs
      rw [hy] at y0 Hs
      have HB0 := Lib.hid hb
      have i0 : (0 : Int) ≤ (k : Int) := by omega
      have i1 : (k : Int) < (n : Int) := by omega
      clear ac bc hx hy hb HT
      by_cases hxy : x = y
      · rw [decide_eq_true hxy] at Hs
        subst hxy
        clear Hf
        go_wp2_with fail
        go_quiet (fail)
        have HN := Lib.hid (HB0.out.trans ((drew_b wr nq).mono HB0.out.size))
        go_wp2_with fail
        go_roundw
        case rel => exact ⟨k + 1, by omega, by go_num, Lib.hid Hs.out, HN.out⟩
        case measure => simp [intOf]; omega
      · have HF := Lib.hid (show decide (a = b) = false from decide_eq_false (Hf.out hxy))
        have d1 : (x != y) = true := by rw [bne_iff_ne]; exact hxy
        clear Hf Hs
        go_wp2_with fail
        go_quiet (fail)
        have HN := Lib.hid (HB0.out.trans ((drew_b wr nq).mono HB0.out.size))
        go_wp2_with fail
        go_ret
        exact ⟨by rw [HF.out]; rfl, HN.out⟩
    · obtain rfl : k = n := by omega
      have HB0 := Lib.hid hb
      clear hb
      go_wp2_with fail
      go_ret
      exact ⟨by rw [decide_eq_true (Heq.out.1 HT.out)]; rfl, HB0.out⟩
end Go.Proofs.Ythdjbapidodlfaa

namespace Go.Proofs.Ythdjbapidodlfaa
set_option linter.unusedSimpArgs false
set_option linter.unusedVariables false
open Go.RowKit Go.Shelf
attribute [local go_sem ↓] exec_app at_app
attribute [local go_sem] Oper.semAt_some

def risK (p : List (List Int)) (m k : Nat) : Bool := (List.range k).all fun i => befB (lAt p i) (lAt p (i + 1)) m
theorem risK_succ (p : List (List Int)) (m k : Nat) : risK p m (k + 1) = (risK p m k && befB (lAt p k) (lAt p (k + 1)) m) := by
  simp [risK, List.range_succ]
theorem risK_stop (p : List (List Int)) {m k n : Nat} (h : befB (lAt p k) (lAt p (k + 1)) m = false) (hk : k < n) : risK p m n = false := by
  unfold risK
  rw [List.all_eq_false]
  exact ⟨k, List.mem_range.2 hk, by rw [h]; simp⟩
set_option maxRecDepth 100000 in
set_option maxHeartbeats 8000000 in
theorem rising82 (A : Option Addr) (N c : Nat) (p : List (List Int)) (m : Nat) (w : World) (h : Lns w A N p) (hp : ∀ j, j < N → (lAt p j).length = m) (hN : N ≤ 1000) (hm : m ≤ 1000) :
    Calls Try.prog 82 #[.slice A N c] w fun e w' => e = .returned (.bool (risK p m (N - 1))) ∧ w' = w := by
  have H := Lib.hid h
  have Hp := Lib.hid hp
  clear h hp
  go_enter Try.func82, Try.ntmps82
  go_wp2_with fail
  refine wp_scope_straight ?_
  go_wp2_with fail
  refine wp_label ?_
  go_wp2_with fail
  go_loopw [3, 4, 5, 6, 18] (fun g i x y t wr => ∃ k : Nat, 1 ≤ k ∧ (k ≤ N ∨ k = 1) ∧ g = .bool true ∧ i = .int .i64 (k : Int) ∧ Hid (risK p m (k - 1) = true) ∧ wr = w) (fun g i x y t _ => N - (intOf i).toNat)
  case atStart => exact ⟨1, Nat.le_refl _, .inr rfl, rfl, rfl, Lib.hid rfl, rfl⟩
  case round =>
    obtain ⟨k, hk1, hkN, rfl, rfl, HT, hwr⟩ := hrel
    obtain rfl : wr = w := hwr
    by_cases hlt : k < N
    · obtain ⟨b, o, rfl, hc⟩ := H.out.2 (by omega)
      obtain ⟨t, ht⟩ : ∃ t, k = t + 1 := ⟨k - 1, by omega⟩
      obtain ⟨C1, c1, u0, uI, uc⟩ := hc k hlt
      obtain ⟨C0, c0, v0, vI, vc⟩ := hc t (by omega)
      rw [Hp.out k hlt] at u0 uI uc
      rw [Hp.out t (by omega)] at v0 vI vc
      have hsub : (k : Int) - 1 = (t : Int) := by omega
      have Hs := Lib.hid (show risK p m k = befB (lAt p t) (lAt p k) m by
        have := risK_succ p m t
        rw [show k = t + 1 from ht, this, show risK p m t = true by have := HT.out; rwa [show k - 1 = t by omega] at this, Bool.true_and])
      have Hf := Lib.hid (show befB (lAt p t) (lAt p k) m = false → risK p m (N - 1) = false from fun e => risK_stop p (k := t) (by rw [← ht]; exact e) (by omega))
      have HU := Lib.hid uI
      have HV := Lib.hid vI
      obtain ⟨la, hla⟩ : ∃ la, lAt p t = la := ⟨_, rfl⟩
      obtain ⟨lb, hlb⟩ : ∃ lb, lAt p k = lb := ⟨_, rfl⟩
      rw [hla] at HV Hs Hf
      rw [hlb] at HU Hs Hf
      have i0 : (0 : Int) ≤ (k : Int) := by omega
      have i1 : (k : Int) < (N : Int) := by omega
      have k0 : (0 : Int) ≤ (t : Int) := by omega
      have k1 : (t : Int) < (N : Int) := by omega
      clear hc uI vI hla hlb ht HT
      go_wp2_with fail
      go_loopw [3, 5, 6, 18] (fun g x y i wr' => ∃ j : Nat, j ≤ m ∧ g = .bool true ∧ i = .int .i64 (j : Int) ∧ Hid (befB la lb j = true) ∧ wr' = wr) (fun g x y i _ => m - (intOf i).toNat)
      case atStart => exact ⟨0, Nat.zero_le _, rfl, rfl, Lib.hid rfl, rfl⟩
      case round =>
        obtain ⟨j, hj, rfl, rfl, HB, hwr'⟩ := hrel
        subst hwr'
        by_cases hjl : j < m
        · obtain ⟨b1, o1, rfl, hc1⟩ := HU.out.2 (by omega)
          obtain ⟨b0, o0, rfl, hc0⟩ := HV.out.2 (by omega)
          have y0 := hc1 j hjl
          have x0 := hc0 j hjl
          have Ks := Lib.hid (befB_succ la lb j)
          have Kf := Lib.hid (fun q => befB_stop la lb (k := j) (n := m) q hjl)
          rw [HB.out, Bool.true_and] at Ks
          obtain ⟨x, hx⟩ : ∃ x, iAt la j = x := ⟨_, rfl⟩
          obtain ⟨y, hy⟩ : ∃ y, iAt lb j = y := ⟨_, rfl⟩
          rw [hx] at x0 Ks Kf
          rw [hy] at y0 Ks Kf
          have j0 : (0 : Int) ≤ (j : Int) := by omega
          have j1 : (j : Int) < (m : Int) := by omega
          clear hc1 hc0 hx hy HB
          by_cases hxy : x < y
          · rw [decide_eq_true hxy] at Ks
            have d1 : ¬ y ≤ x := by omega
            clear hxy Kf
            go_wp2_with fail
            go_roundw
            case rel => exact ⟨j + 1, by omega, rfl, by go_num, Lib.hid Ks.out, trivial⟩
            case measure => simp [intOf]; omega
          · have HF := Lib.hid (Hf.out (Kf.out hxy))
            have d1 : y ≤ x := by omega
            clear hxy Kf Ks
            go_wp2_with fail
            simp only [Exit.noGoto]
            go_ret
            exact ⟨by rw [HF.out]; rfl, rfl⟩
        · obtain rfl : j = m := by omega
          have HN := Lib.hid (show risK p j (k + 1 - 1) = true by rw [Nat.add_sub_cancel, Hs.out]; exact HB.out)
          clear HB
          go_wp2_with fail
          go_roundw
          case rel => exact ⟨k + 1, by omega, .inl (by omega), rfl, by go_num, HN, trivial⟩
          case measure => simp [intOf]; omega
    · have HF := Lib.hid (show risK p m (N - 1) = true by
        rcases hkN with e | e
        · have e2 : k = N := by omega
          rw [← e2]; exact HT.out
        · have e2 : N - 1 = 0 := by omega
          rw [e2]; rfl)
      have d1 : ¬ (k : Int) < (N : Int) := by omega
      clear HT
      go_wp2_with fail
      go_ret
      exact ⟨by rw [HF.out]; rfl, rfl⟩
end Go.Proofs.Ythdjbapidodlfaa

namespace Go.Proofs.Ythdjbapidodlfaa
set_option linter.unusedSimpArgs false
set_option linter.unusedVariables false
open Go.RowKit Go.Shelf
attribute [local go_sem ↓] exec_app at_app
attribute [local go_sem] Oper.semAt_some

/-- The words at the indexes of a match, of the first k hearers. -/
def wdsK (L : List (List Int)) (q : List Int) (k : Nat) : List Int := (List.range k).map fun h => iAt (lAt L h) (iAt q h).toNat
theorem wdsK_succ (L : List (List Int)) (q : List Int) (k : Nat) : wdsK L q (k + 1) = wdsK L q k ++ [iAt (lAt L k) (iAt q k).toNat] := by simp [wdsK, List.range_succ]
theorem wdsK_len (L : List (List Int)) (q : List Int) (k : Nat) : (wdsK L q k).length = k := by simp [wdsK]
set_option maxRecDepth 100000 in
set_option maxHeartbeats 8000000 in
theorem words81 (B D : Nat) (A : Option Addr) (n cap : Nat) (nm : List Int) (M : Nat) (A2 : Option Addr) (m cap2 : Nat) (L : List (List Int)) (C : Option Addr) (c : Nat) (q : List Int) (w : World)
    (h : Bo w B D A n cap nm M A2 m cap2 L) (hm : m ≤ 4) (hq : Ints w C m q) (hr : ∀ k, k < m → 0 ≤ iAt q k ∧ iAt q k < ((lAt L k).length : Int)) :
    Calls Try.prog 81 #[.pointer (some ⟨B, 0, none⟩), .slice C m c] w fun e w' => ∃ C' c', e = .returned (.slice C' m c') ∧ Ints w' C' m (wdsK L q m) ∧ m ≤ c' ∧ Below w.heap.size w w' := by
  have HB := Lib.hid h
  have HQ := Lib.hid hq
  have HR := Lib.hid hr
  clear h hq hr
  go_enter Try.func81, Try.ntmps81
  go_wp2_with fail
  go_loopw [5, 6, 7, 10] (fun v x y i wr => ∃ k : Nat, k ≤ m ∧ i = .int .i64 (k : Int) ∧ Hid (wr.ownsRow 0 3 1 v k (flatI (wdsK L q k)) ∧ (∀ g, v.ownBlock = some g → w.heap.size ≤ g) ∧ Below w.heap.size w wr)) (fun v x y i _ => m - (intOf i).toNat)
  case atStart => exact ⟨0, Nat.zero_le _, rfl, Lib.hid ⟨⟨rfl, .inl ⟨rfl, rfl⟩⟩, fun g e => (by cases e), Below.refl _ _⟩⟩
  case round =>
    obtain ⟨k, hk, rfl, HI⟩ := hrel
    by_cases hlt : k < m
    · obtain ⟨bC, oC, rfl, cC⟩ := HQ.out.2 (by omega)
      obtain ⟨ho, hob, hbl⟩ := HI.out
      have x0 := (hbl.cell (p := ⟨bC, oC + k, none⟩) (lt_of_cell (cC k hlt))).trans (cC k hlt)
      obtain ⟨b, o, rfl, hc⟩ := HB.out.lns.2 (by omega)
      obtain ⟨C1, c1, u0, uI, uc⟩ := hc k hlt
      obtain ⟨t, ht⟩ : ∃ t : Nat, iAt q k = (t : Int) := ⟨(iAt q k).toNat, by have := (HR.out k hlt).1; omega⟩
      have hr1 := (HR.out k hlt).2
      rw [ht] at hr1 x0
      have Hs := Lib.hid (wdsK_succ L q k)
      rw [ht, Int.toNat_natCast] at Hs
      have z0 := (hbl.cell (p := ⟨b, o + k, none⟩) (lt_of_cell u0)).trans u0
      obtain ⟨ll, hll⟩ : ∃ ll, (lAt L k).length = ll := ⟨_, rfl⟩
      rw [hll] at hr1 z0 uI uc
      obtain ⟨b1, o1, rfl, hc1⟩ := uI.2 (by omega)
      have t0 := (hbl.cell (p := ⟨b1, o1 + t, none⟩) (lt_of_cell (hc1 t (by omega)))).trans (hc1 t (by omega))
      have c1x := (HB.out.below hbl (Nat.le_refl _)).c1
      obtain ⟨x, hx⟩ : ∃ x, iAt (lAt L k) t = x := ⟨_, rfl⟩
      rw [hx] at t0 Hs
      have i0 : (0 : Int) ≤ (k : Int) := by omega
      have i1 : (k : Int) < (m : Int) := by omega
      have j0 : (0 : Int) ≤ (t : Int) := by omega
      have hbz := below_alloc_ wr (.cells #[.int .i64 x] 3)
      have hz := heap_alloc_new_ wr (.cells #[.int .i64 x] 3)
      have ho2 := own_keep (Mut := fun _ => False) ho (Keeps.of_new hbz) (fun _ _ e => e)
      obtain ⟨v', W3, hrun, hown3, hK3, hv3⟩ := app_one (n := k) Try.underlying38 info3_ rfl (by omega) (by omega) ho2 (vals := [.int .i64 x]) rfl hz (by simp [Value.oneCell']) (by omega)
      have HN := Lib.hid (show W3.ownsRow 0 3 1 v' (k + 1) (flatI (wdsK L q (k + 1))) ∧ (∀ g, v'.ownBlock = some g → w.heap.size ≤ g) ∧ Below w.heap.size w W3 from ⟨by rw [Hs.out, flatI_snoc]; exact hown3, fun g e => by
        rcases hv3 with e' | ⟨e', _⟩
        · rw [e'] at e; exact hob g e
        · rw [e'] at e; have := hbz.size; have := hbl.size; have := Option.some.inj e; omega,
        hbl.trans ((((Keeps.of_new (Mut := fun _ => False) hbz).none (Mut := fun k => w.heap.size ≤ k)).trans (hK3.mono (fun k _ e => hob k e))).below hbl.size (fun k hk e => by omega))⟩)
      replace hrun : runA Try.prog 38 u5 (.slice (some ⟨wr.heap.size, 0, none⟩) 1 1) (wr.alloc (.cells #[.int .i64 x] 3)) = .ok (.value v') W3 := run_app hrun
      clear cC hc hc1 hx ht ho hob hbl uI hll hbz hz ho2 hown3 hK3 hv3 HI Hs u0
      go_wp2_with fail
      try rw [hrun]
      try go_wp2_with fail
      go_roundw
      case rel => exact ⟨k + 1, by omega, by go_num, HN⟩
      case measure => simp [intOf]; omega
    · obtain rfl : k = m := by omega
      obtain ⟨ho, hob, hbl⟩ := HI.out
      obtain ⟨C', c', rfl, hc', hi, hC⟩ := ints_own (wdsK_len L q k) ho
      have HI2 := Lib.hid hi
      have HBl := Lib.hid hbl
      clear ho hob hbl hi hC HI
      go_wp2_with fail
      go_ret
      exact ⟨C', c', rfl, HI2.out, hc', HBl.out⟩
end Go.Proofs.Ythdjbapidodlfaa

namespace Go.Proofs.Ythdjbapidodlfaa
set_option linter.unusedSimpArgs false
set_option linter.unusedVariables false
open Go.RowKit Go.Shelf
attribute [local go_sem ↓] exec_app at_app
attribute [local go_sem] Oper.semAt_some

def f1 (m : Nat) (q : List Int) : Bool := decide (q.length = m)
def rngK (L : List (List Int)) (q : List Int) (k : Nat) : Bool := (List.range k).all fun h => inB 0 (((lAt L h).length : Int) - 1) (iAt q h)
theorem rngK_succ (L : List (List Int)) (q : List Int) (k : Nat) : rngK L q (k + 1) = (rngK L q k && inB 0 (((lAt L k).length : Int) - 1) (iAt q k)) := by simp [rngK, List.range_succ]
theorem rngK_stop (L : List (List Int)) (q : List Int) {k m : Nat} (h : inB 0 (((lAt L k).length : Int) - 1) (iAt q k) = false) (hk : k < m) : rngK L q m = false := by
  unfold rngK
  rw [List.all_eq_false]
  exact ⟨k, List.mem_range.2 hk, by rw [h]; simp⟩
theorem rngK_at {L : List (List Int)} {q : List Int} {m : Nat} (h : rngK L q m = true) {k : Nat} (hk : k < m) : 0 ≤ iAt q k ∧ iAt q k < ((lAt L k).length : Int) := by
  have := List.all_eq_true.1 h k (List.mem_range.2 hk)
  rw [inB_iff] at this
  omega
def f3 (nm : List Int) (L : List (List Int)) (m : Nat) (q : List Int) : Bool := sameB nm (wdsK L q m)
/-- What is wrong with matches that are no passage. -/
def chkP (nm : List Int) (L : List (List Int)) (m : Nat) (p : List (List Int)) : Int :=
  if 8 < p.length then 6 else if p.all (f1 m) = false then 15 else if p.all (fun q => rngK L q m) = false then 3 else if p.all (f3 nm L m) = false then 20 else if risK p m (p.length - 1) = false then 24 else 0
theorem wds_in {L : List (List Int)} {m : Nat} (hL : LV L m) {q : List Int} (h : rngK L q m = true) : inL (wdsK L q m) := by
  intro x hx
  obtain ⟨k, hk, rfl⟩ := List.mem_map.1 hx
  have hk2 := List.mem_range.1 hk
  obtain ⟨h1, h2⟩ := rngK_at h hk2
  have h3 : (iAt q k).toNat < (lAt L k).length := by omega
  obtain ⟨u, e, _, h4⟩ := hL.wd k hk2 (iAt (lAt L k) (iAt q k).toNat) (by rw [iAt_eq h3]; exact List.getElem_mem _)
  exact ⟨u, e, h4⟩
set_option maxRecDepth 100000 in
set_option maxHeartbeats 16000000 in
theorem check64 (B D : Nat) (A : Option Addr) (n cap : Nat) (nm : List Int) (M : Nat) (A2 : Option Addr) (m cap2 : Nat) (L : List (List Int)) (A3 : Option Addr) (N c : Nat) (p : List (List Int)) (w : World)
    (h : Bo w B D A n cap nm M A2 m cap2 L) (hL : LV L m) (hP : Lns w A3 N p) :
    Calls Try.prog 64 #[.pointer (some ⟨B, 0, none⟩), .slice A3 N c] w fun e w' => e = .returned (.int .i64 (chkP nm L m p)) ∧ Below w.heap.size w w' := by
  have HB := Lib.hid h
  have HP := Lib.hid hP
  have HL := Lib.hid hL
  have HPl := Lib.hid hP.1
  have hm := hL.hi
  have hm1 := hL.lo
  have c1x := h.c1
  clear h hP hL
  by_cases h8 : 8 < N
  · have HC := Lib.hid (show chkP nm L m p = 6 by unfold chkP; rw [if_pos (by rw [HPl.out]; exact h8)])
    have d1 : (8 : Int) < (N : Int) := by omega
    clear c1x
    go_enter Try.func64, Try.ntmps64
    go_wp2_with fail
    go_ret
    exact ⟨by rw [HC.out]; rfl, Below.refl _ _⟩
  have HN8 := Lib.hid (show ¬ 8 < p.length by rw [HPl.out]; exact h8)
  have d1 : ¬ (8 : Int) < (N : Int) := by omega
  go_enter Try.func64, Try.ntmps64
  go_wp2_with fail
  clear d1 c1x
  go_loopw [6, 18] (fun x i wr => ∃ k : Nat, k ≤ N ∧ i = .int .i64 (k : Int) ∧ Hid ((p.take k).all (f1 m) = true) ∧ wr = w) (fun x i _ => N - (intOf i).toNat)
  case atStart => exact ⟨0, Nat.zero_le _, rfl, Lib.hid rfl, rfl⟩
  case round =>
    obtain ⟨k, hk, rfl, HT, hwr⟩ := hrel
    subst hwr
    by_cases hlt : k < N
    · obtain ⟨b, o, rfl, hc⟩ := HP.out.2 (by omega)
      obtain ⟨C, cq, x0, -, -⟩ := hc k hlt
      have Hs := Lib.hid (all_take (f1 m) p k [] (by rw [HPl.out]; exact hlt))
      have Hf := Lib.hid (fun q => all_stop (f1 m) p k [] (by rw [HPl.out]; exact hlt) q)
      rw [HT.out, Bool.true_and] at Hs
      have c1x := HB.out.c1
      obtain ⟨ll, hll⟩ : ∃ ll, (lAt p k).length = ll := ⟨_, rfl⟩
      have Hfe := Lib.hid (show f1 m (p.getD k []) = decide (ll = m) by unfold f1; rw [← hll]; rfl)
      rw [hll] at x0
      have i0 : (0 : Int) ≤ (k : Int) := by omega
      have i1 : (k : Int) < (N : Int) := by omega
      clear hc hll HT
      by_cases hq : ll = m
      · rw [Hfe.out, decide_eq_true hq] at Hs
        subst hq
        clear Hf Hfe
        go_wp2_with fail
        go_roundw
        case rel => exact ⟨k + 1, by omega, by go_num, Lib.hid Hs.out, by first | rfl | trivial⟩
        case measure => simp [intOf]; omega
      · have HC := Lib.hid (show chkP nm L m p = 15 by
          unfold chkP
          rw [if_neg HN8.out, if_pos (Hf.out (by rw [Hfe.out, decide_eq_false hq]))])
        have d1 : ((ll : Int) != (m : Int)) = true := by rw [bne_iff_ne]; omega
        clear Hf Hfe Hs hq
        go_wp2_with fail
        go_ret
        exact ⟨by rw [HC.out]; rfl, Below.refl _ _⟩
    · have HA1 := Lib.hid (show p.all (f1 m) = true by
        have := HT.out
        rwa [List.take_of_length_le (by have := HPl.out; omega)] at this)
      clear HT
      have HLen := Lib.hid (show ∀ j, j < N → (lAt p j).length = m from fun j hj => by
        have hjl : j < p.length := by have := HPl.out; omega
        have := List.all_eq_true.1 HA1.out (p[j]) (List.getElem_mem hjl)
        rw [lAt_eq hjl]
        simpa [f1] using this)
      obtain ⟨w, hwe⟩ : ∃ w, w = wr := ⟨_, rfl⟩
      rw [← hwe] at HB HP ⊢
      have HWE := Lib.hid hwe
      clear hwe
      go_wp2_with fail
      go_loopw [8, 9, 10, 33, 39] (fun x y z i t wr => ∃ k : Nat, k ≤ N ∧ i = .int .i64 (k : Int) ∧ Hid ((p.take k).all (fun q => rngK L q m) = true) ∧ Hid (Below w.heap.size w wr)) (fun x y z i t _ => N - (intOf i).toNat)
      case atStart => exact ⟨0, Nat.zero_le _, rfl, Lib.hid rfl, Lib.hid (Below.refl _ _)⟩
      case round =>
        obtain ⟨k, hk, rfl, HT, HBl⟩ := hrel
        by_cases hlt : k < N
        · obtain ⟨b, o, rfl, hc⟩ := HP.out.2 (by omega)
          obtain ⟨C, cq, x0, xI, -⟩ := hc k hlt
          rw [HLen.out k hlt] at x0 xI
          replace x0 := (HBl.out.cell (p := ⟨b, o + k, none⟩) (lt_of_cell x0)).trans x0
          have HI := Lib.hid xI
          have Hs := Lib.hid (all_take (fun q => rngK L q m) p k [] (by rw [HPl.out]; exact hlt))
          have Hf := Lib.hid (fun q => all_stop (fun q => rngK L q m) p k [] (by rw [HPl.out]; exact hlt) q)
          rw [HT.out, Bool.true_and] at Hs
          obtain ⟨q, hq⟩ : ∃ q, lAt p k = q := ⟨_, rfl⟩
          have hq' : p.getD k [] = q := hq
          rw [hq'] at Hs Hf
          rw [hq] at HI
          have i0 : (0 : Int) ≤ (k : Int) := by omega
          have i1 : (k : Int) < (N : Int) := by omega
          clear hc xI hq hq' HT
          go_wp2_with fail
          go_loopw [9, 10, 39] (fun x y i wr' => ∃ j : Nat, j ≤ m ∧ i = .int .i64 (j : Int) ∧ Hid (rngK L q j = true) ∧ Hid (Below w.heap.size w wr')) (fun x y i _ => m - (intOf i).toNat)
          case atStart => exact ⟨0, Nat.zero_le _, rfl, Lib.hid rfl, HBl⟩
          case round =>
            obtain ⟨j, hj, rfl, HU, HBj⟩ := hrel
            by_cases hjl : j < m
            · obtain ⟨bq, oq, rfl, cqq⟩ := HI.out.2 (by omega)
              have y0 := (HBj.out.cell (p := ⟨bq, oq + j, none⟩) (lt_of_cell (cqq j hjl))).trans (cqq j hjl)
              obtain ⟨bL, oL, hA2, hcL⟩ := HB.out.lns.2 (by omega)
              obtain ⟨CL, cL, u0, -, -⟩ := hcL j hjl
              have z0 := (HBj.out.cell (p := ⟨bL, oL + j, none⟩) (lt_of_cell u0)).trans u0
              have c1x := (HB.out.below HBj.out (Nat.le_refl _)).c1
              rw [hA2] at c1x
              have l8 := HL.out.le8 j hjl
              obtain ⟨ll, hll⟩ : ∃ ll, (lAt L j).length = ll := ⟨_, rfl⟩
              obtain ⟨x, hx⟩ : ∃ x, iAt q j = x := ⟨_, rfl⟩
              have Ks := Lib.hid (rngK_succ L q j)
              have Kf := Lib.hid (fun e => rngK_stop L q (k := j) (m := m) e hjl)
              rw [HU.out, Bool.true_and] at Ks
              rw [hll] at z0 l8 Ks Kf
              rw [hx] at y0 Ks Kf
              have hints : Ints (wr.alloc (.cells #[.int .i64 x] 3)) (some ⟨wr.heap.size, 0, none⟩) 1 [x] := ⟨rfl, fun _ => ⟨_, 0, rfl, fun i hi => by
                obtain rfl : i = 0 := by omega
                rw [Nat.zero_add, cell_row (heap_alloc_new_ _ _)]; rfl⟩⟩
              have hin := within47 (some ⟨wr.heap.size, 0, none⟩) 1 1 [x] 0 ((ll : Int) - 1) _ hints (by omega)
              have HBn := Lib.hid (HBj.out.trans ((below_alloc_ wr (.cells #[.int .i64 x] 3)).mono HBj.out.size))
              have j0 : (0 : Int) ≤ (j : Int) := by omega
              have j1 : (j : Int) < (m : Int) := by omega
              have q0 : (0 : Int) ≤ (ll : Int) := by omega
              have q8 : (ll : Int) ≤ 8 := by omega
              have hW : withI 0 ((ll : Int) - 1) [x] = inB 0 ((ll : Int) - 1) x := by simp [withI]
              rw [hW] at hin
              clear cqq hcL u0 hll hx HU hints hA2 hW
              cases hok : inB 0 ((ll : Int) - 1) x with
              | true =>
                rw [hok] at hin Ks
                clear hok Kf
                go_wp2_with fail
                refine hin.mono ?_
                rintro e V3 ⟨rfl, hV3⟩
                subst hV3
                clear hin
                go_wp2_with fail
                go_roundw
                case rel => exact ⟨j + 1, by omega, by go_num, Lib.hid Ks.out, HBn⟩
                case measure => simp [intOf]; omega
              | false =>
                rw [hok] at hin
                have HC := Lib.hid (show chkP nm L m p = 3 by
                  unfold chkP
                  rw [if_neg HN8.out, if_neg (by rw [HA1.out]; simp), if_pos (Hf.out (Kf.out hok))])
                clear hok Kf Ks
                go_wp2_with fail
                refine hin.mono ?_
                rintro e V3 ⟨rfl, hV3⟩
                subst hV3
                clear hin
                go_wp2_with fail
                go_ret
                exact ⟨by rw [HC.out]; rfl, by rw [← HWE.out]; exact HBn.out⟩
            · obtain rfl : j = m := by omega
              have HN := Lib.hid (show (p.take (k + 1)).all (fun q => rngK L q j) = true by rw [Hs.out]; exact HU.out)
              clear HU
              go_wp2_with fail
              go_roundw
              case rel => exact ⟨k + 1, by omega, by go_num, HN, HBj⟩
              case measure => simp [intOf]; omega
        · have HA2 := Lib.hid (show p.all (fun q => rngK L q m) = true by
            have := HT.out
            rwa [List.take_of_length_le (by have := HPl.out; omega)] at this)
          clear HT
          go_wp2_with fail
          go_loopw [12, 61] (fun x i wr => ∃ k : Nat, k ≤ N ∧ i = .int .i64 (k : Int) ∧ Hid ((p.take k).all (f3 nm L m) = true) ∧ Hid (Below w.heap.size w wr)) (fun x i _ => N - (intOf i).toNat)
          case atStart => exact ⟨0, Nat.zero_le _, rfl, Lib.hid rfl, HBl⟩
          clear HBl
          case round =>
            obtain ⟨k, hk, rfl, HT, HBl⟩ := hrel
            by_cases hlt : k < N
            · obtain ⟨b, o, rfl, hc⟩ := HP.out.2 (by omega)
              obtain ⟨C1, c1, x0, xI, -⟩ := hc k hlt
              rw [HLen.out k hlt] at x0 xI
              replace x0 := (HBl.out.cell (p := ⟨b, o + k, none⟩) (lt_of_cell x0)).trans x0
              have HQ := Lib.hid (xI.below HBl.out (Nat.le_refl _))
              have Hs := Lib.hid (all_take (f3 nm L m) p k [] (by rw [HPl.out]; exact hlt))
              have Hf := Lib.hid (fun q => all_stop (f3 nm L m) p k [] (by rw [HPl.out]; exact hlt) q)
              rw [HT.out, Bool.true_and] at Hs
              obtain ⟨q, hq⟩ : ∃ q, lAt p k = q := ⟨_, rfl⟩
              have hq' : p.getD k [] = q := hq
              have hrq : rngK L q m = true := by
                have hkl : k < p.length := by have := HPl.out; omega
                rw [← hq, lAt_eq hkl]; exact List.all_eq_true.1 HA2.out _ (List.getElem_mem hkl)
              have HR1 := Lib.hid (fun k (hk : k < m) => rngK_at hrq hk)
              have HIn := Lib.hid (wds_in HL.out hrq)
              rw [hq'] at Hs Hf
              rw [hq] at HQ
              have i0 : (0 : Int) ≤ (k : Int) := by omega
              have i1 : (k : Int) < (N : Int) := by omega
              clear hc xI hq hq' hrq HT
              cases hsb : sameB nm (wdsK L q m) with
              | true =>
                have HSame := Lib.hid hsb
                rw [show f3 nm L m q = true from hsb] at Hs
                clear hsb Hf
                go_wp2_with fail
                refine wp_region_held_drew (S := fun w2 => Below wr.heap.size wr w2) (by kernel_rfl) (drew_b _ _) (fun hS0 => ?_)
                refine wpAnyH_take (i := 0) (oi := { dst := some 65, op := Go.Op.move (Go.Operand.tmp 0), type := 72, pos := "board.go:86", after := #[], guard := none }) (v := .pointer (some ⟨B, 0, none⟩)) rfl (by kernel_rfl) (by kernel_rfl) (by kernel_rfl) (fun _ _ _ h => h) (Or.inl ⟨by rfl, by intro w2 hSw; (try dsimp only at hSw); go_simp⟩) hS0 ?_
                try simp only [Act.put, List.setIfInBounds_toArray, List.set_cons_zero, List.set_cons_succ]
                refine wpAnyH_take (i := 1) (oi := { dst := some 66, op := Go.Op.nilCheck (Go.Operand.tmp 65), type := 0, pos := "board.go:86", after := #[{ on := 0, ground := Go.Ground.data }], guard := none }) (v := .pointer (some ⟨B, 0, none⟩)) rfl (by kernel_rfl) (by kernel_rfl) (by kernel_rfl) (fun _ _ _ h => h) (Or.inl ⟨by rfl, by intro w2 hSw; (try dsimp only at hSw); go_simp⟩) hS0 ?_
                try simp only [Act.put, List.setIfInBounds_toArray, List.set_cons_zero, List.set_cons_succ]
                refine wpAnyH_take (i := 2) (oi := { dst := some 67, op := Go.Op.fieldAddr 112 (Go.Operand.tmp 66) 0, type := 0, pos := "board.go:86", after := #[{ on := 1, ground := Go.Ground.data }], guard := none }) (v := .pointer (some ⟨B, 0, none⟩)) rfl (by kernel_rfl) (by kernel_rfl) (by kernel_rfl) (fun _ _ _ h => h) (Or.inl ⟨by rfl, by intro w2 hSw; (try dsimp only at hSw); go_simp⟩) hS0 ?_
                try simp only [Act.put, List.setIfInBounds_toArray, List.set_cons_zero, List.set_cons_succ]
                refine wpAnyH_take (i := 3) (oi := { dst := some 68, op := Go.Op.load 67 (Go.Operand.tmp 67), type := 67, pos := "board.go:86", after := #[{ on := 2, ground := Go.Ground.data }], guard := none }) (v := .pointer (some ⟨D, 0, none⟩)) rfl (by kernel_rfl) (by kernel_rfl) (by kernel_rfl) (fun _ _ _ h => h) (Or.inl ⟨by rfl, by intro w2 hSw; (try dsimp only at hSw); have y0 := (HB.out.below (HBl.out.trans (hSw.mono HBl.out.size)) (Nat.le_refl _)).c0; go_simp⟩) hS0 ?_
                try simp only [Act.put, List.setIfInBounds_toArray, List.set_cons_zero, List.set_cons_succ]
                refine wpAnyH_take (i := 4) (oi := { dst := some 69, op := Go.Op.move (Go.Operand.tmp 0), type := 72, pos := "board.go:86", after := #[], guard := none }) (v := .pointer (some ⟨B, 0, none⟩)) rfl (by kernel_rfl) (by kernel_rfl) (by kernel_rfl) (fun _ _ _ h => h) (Or.inl ⟨by rfl, by intro w2 hSw; (try dsimp only at hSw); go_simp⟩) hS0 ?_
                try simp only [Act.put, List.setIfInBounds_toArray, List.set_cons_zero, List.set_cons_succ]
                refine wpAnyH_take (i := 5) (oi := { dst := some 70, op := Go.Op.move (Go.Operand.tmp 12), type := 40, pos := "board.go:86", after := #[], guard := none }) (v := .slice C1 m c1) rfl (by kernel_rfl) (by kernel_rfl) (by kernel_rfl) (fun _ _ _ h => h) (Or.inl ⟨by rfl, by intro w2 hSw; (try dsimp only at hSw); go_simp⟩) hS0 ?_
                try simp only [Act.put, List.setIfInBounds_toArray, List.set_cons_zero, List.set_cons_succ]
                refine wpAnyH_ready (rs := [6]) (by kernel_rfl) (by simp) ?_
                refine AllReadyH.cons (o := { dst := some 71, op := Go.Op.call { callee := Go.Callee.value (Go.Operand.func 81), args := #[Go.Operand.tmp 69, Go.Operand.tmp 70], argTypes := #[72, 40] }, type := 38, pos := "board.go:86", after := #[{ on := 4, ground := Go.Ground.data }, { on := 5, ground := Go.Ground.data }], guard := none }) rfl (fun K hK => ?_) AllReadyH.nil
                go_simp
                refine (words81 B D A n cap nm M A2 m cap2 L C1 c1 q _ (HB.out.below (HBl.out.trans (hS0.mono HBl.out.size)) (Nat.le_refl _)) hm (HQ.out.below hS0 (Nat.le_refl _)) HR1.out).mono ?_
                rintro e9 V1 ⟨C', c', rfl, hi9, hc9, hV1⟩
                try go_simp
                refine hK.out _ _ (hS0.trans (hV1.mono hS0.size)) (fun hS1 => ?_)
                clear hK
                try simp only [Act.put, List.setIfInBounds_toArray, List.set_cons_zero, List.set_cons_succ]
                refine wpAnyH_ready (rs := [7]) (by kernel_rfl) (by simp) ?_
                refine AllReadyH.cons (o := { dst := some 72, op := Go.Op.call { callee := Go.Callee.value (Go.Operand.func 49), args := #[Go.Operand.tmp 68, Go.Operand.tmp 71], argTypes := #[67, 38] }, type := 4, pos := "board.go:86", after := #[{ on := 3, ground := Go.Ground.data }, { on := 6, ground := Go.Ground.data }, { on := 6, ground := Go.Ground.chain }], guard := none }) rfl (fun K hK => ?_) AllReadyH.nil
                go_simp
                have key := alike49 D A n cap nm M C' m c' (wdsK L q m) V1 (HB.out.below (HBl.out.trans (hS1.mono HBl.out.size)) (Nat.le_refl _)).dic hi9 HIn.out (by omega)
                rw [HSame.out] at key
                refine key.mono ?_
                rintro e9 V2 ⟨rfl, hV2⟩
                try go_simp
                refine hK.out _ _ (hS1.trans (hV2.mono hS1.size)) (fun hS2 => ?_)
                clear hK
                try simp only [Act.put, List.setIfInBounds_toArray, List.set_cons_zero, List.set_cons_succ]
                refine wpAnyH_take (i := 8) (oi := { dst := some 73, op := Go.Op.unOp Go.UnOp.not 4 (Go.Operand.tmp 72), type := 4, pos := "board.go:86", after := #[{ on := 7, ground := Go.Ground.data }], guard := none }) (v := .bool false) rfl (by kernel_rfl) (by kernel_rfl) (by kernel_rfl) (fun _ _ _ h => h) (Or.inl ⟨by rfl, by intro w2 hSw; (try dsimp only at hSw); go_simp⟩) hS2 ?_
                try simp only [Act.put, List.setIfInBounds_toArray, List.set_cons_zero, List.set_cons_succ]
                refine wpAnyH_done (by kernel_rfl) ?_ _
                go_wp2_with fail
                go_roundw
                case rel => exact ⟨k + 1, by omega, by go_num, Lib.hid Hs.out, Lib.hid (HBl.out.trans (hS2.mono HBl.out.size))⟩
                case measure => simp [intOf]; omega
              | false =>
                have HSame := Lib.hid hsb
                have HC := Lib.hid (show chkP nm L m p = 20 by
                  unfold chkP
                  rw [if_neg HN8.out, if_neg (by rw [HA1.out]; simp), if_neg (by rw [HA2.out]; simp), if_pos (Hf.out hsb)])
                clear hsb Hf Hs
                go_wp2_with fail
                refine wp_region_held_drew (S := fun w2 => Below wr.heap.size wr w2) (by kernel_rfl) (drew_b _ _) (fun hS0 => ?_)
                refine wpAnyH_take (i := 0) (oi := { dst := some 65, op := Go.Op.move (Go.Operand.tmp 0), type := 72, pos := "board.go:86", after := #[], guard := none }) (v := .pointer (some ⟨B, 0, none⟩)) rfl (by kernel_rfl) (by kernel_rfl) (by kernel_rfl) (fun _ _ _ h => h) (Or.inl ⟨by rfl, by intro w2 hSw; (try dsimp only at hSw); go_simp⟩) hS0 ?_
                try simp only [Act.put, List.setIfInBounds_toArray, List.set_cons_zero, List.set_cons_succ]
                refine wpAnyH_take (i := 1) (oi := { dst := some 66, op := Go.Op.nilCheck (Go.Operand.tmp 65), type := 0, pos := "board.go:86", after := #[{ on := 0, ground := Go.Ground.data }], guard := none }) (v := .pointer (some ⟨B, 0, none⟩)) rfl (by kernel_rfl) (by kernel_rfl) (by kernel_rfl) (fun _ _ _ h => h) (Or.inl ⟨by rfl, by intro w2 hSw; (try dsimp only at hSw); go_simp⟩) hS0 ?_
                try simp only [Act.put, List.setIfInBounds_toArray, List.set_cons_zero, List.set_cons_succ]
                refine wpAnyH_take (i := 2) (oi := { dst := some 67, op := Go.Op.fieldAddr 112 (Go.Operand.tmp 66) 0, type := 0, pos := "board.go:86", after := #[{ on := 1, ground := Go.Ground.data }], guard := none }) (v := .pointer (some ⟨B, 0, none⟩)) rfl (by kernel_rfl) (by kernel_rfl) (by kernel_rfl) (fun _ _ _ h => h) (Or.inl ⟨by rfl, by intro w2 hSw; (try dsimp only at hSw); go_simp⟩) hS0 ?_
                try simp only [Act.put, List.setIfInBounds_toArray, List.set_cons_zero, List.set_cons_succ]
                refine wpAnyH_take (i := 3) (oi := { dst := some 68, op := Go.Op.load 67 (Go.Operand.tmp 67), type := 67, pos := "board.go:86", after := #[{ on := 2, ground := Go.Ground.data }], guard := none }) (v := .pointer (some ⟨D, 0, none⟩)) rfl (by kernel_rfl) (by kernel_rfl) (by kernel_rfl) (fun _ _ _ h => h) (Or.inl ⟨by rfl, by intro w2 hSw; (try dsimp only at hSw); have y0 := (HB.out.below (HBl.out.trans (hSw.mono HBl.out.size)) (Nat.le_refl _)).c0; go_simp⟩) hS0 ?_
                try simp only [Act.put, List.setIfInBounds_toArray, List.set_cons_zero, List.set_cons_succ]
                refine wpAnyH_take (i := 4) (oi := { dst := some 69, op := Go.Op.move (Go.Operand.tmp 0), type := 72, pos := "board.go:86", after := #[], guard := none }) (v := .pointer (some ⟨B, 0, none⟩)) rfl (by kernel_rfl) (by kernel_rfl) (by kernel_rfl) (fun _ _ _ h => h) (Or.inl ⟨by rfl, by intro w2 hSw; (try dsimp only at hSw); go_simp⟩) hS0 ?_
                try simp only [Act.put, List.setIfInBounds_toArray, List.set_cons_zero, List.set_cons_succ]
                refine wpAnyH_take (i := 5) (oi := { dst := some 70, op := Go.Op.move (Go.Operand.tmp 12), type := 40, pos := "board.go:86", after := #[], guard := none }) (v := .slice C1 m c1) rfl (by kernel_rfl) (by kernel_rfl) (by kernel_rfl) (fun _ _ _ h => h) (Or.inl ⟨by rfl, by intro w2 hSw; (try dsimp only at hSw); go_simp⟩) hS0 ?_
                try simp only [Act.put, List.setIfInBounds_toArray, List.set_cons_zero, List.set_cons_succ]
                refine wpAnyH_ready (rs := [6]) (by kernel_rfl) (by simp) ?_
                refine AllReadyH.cons (o := { dst := some 71, op := Go.Op.call { callee := Go.Callee.value (Go.Operand.func 81), args := #[Go.Operand.tmp 69, Go.Operand.tmp 70], argTypes := #[72, 40] }, type := 38, pos := "board.go:86", after := #[{ on := 4, ground := Go.Ground.data }, { on := 5, ground := Go.Ground.data }], guard := none }) rfl (fun K hK => ?_) AllReadyH.nil
                go_simp
                refine (words81 B D A n cap nm M A2 m cap2 L C1 c1 q _ (HB.out.below (HBl.out.trans (hS0.mono HBl.out.size)) (Nat.le_refl _)) hm (HQ.out.below hS0 (Nat.le_refl _)) HR1.out).mono ?_
                rintro e9 V1 ⟨C', c', rfl, hi9, hc9, hV1⟩
                try go_simp
                refine hK.out _ _ (hS0.trans (hV1.mono hS0.size)) (fun hS1 => ?_)
                clear hK
                try simp only [Act.put, List.setIfInBounds_toArray, List.set_cons_zero, List.set_cons_succ]
                refine wpAnyH_ready (rs := [7]) (by kernel_rfl) (by simp) ?_
                refine AllReadyH.cons (o := { dst := some 72, op := Go.Op.call { callee := Go.Callee.value (Go.Operand.func 49), args := #[Go.Operand.tmp 68, Go.Operand.tmp 71], argTypes := #[67, 38] }, type := 4, pos := "board.go:86", after := #[{ on := 3, ground := Go.Ground.data }, { on := 6, ground := Go.Ground.data }, { on := 6, ground := Go.Ground.chain }], guard := none }) rfl (fun K hK => ?_) AllReadyH.nil
                go_simp
                have key := alike49 D A n cap nm M C' m c' (wdsK L q m) V1 (HB.out.below (HBl.out.trans (hS1.mono HBl.out.size)) (Nat.le_refl _)).dic hi9 HIn.out (by omega)
                rw [HSame.out] at key
                refine key.mono ?_
                rintro e9 V2 ⟨rfl, hV2⟩
                try go_simp
                refine hK.out _ _ (hS1.trans (hV2.mono hS1.size)) (fun hS2 => ?_)
                clear hK
                try simp only [Act.put, List.setIfInBounds_toArray, List.set_cons_zero, List.set_cons_succ]
                refine wpAnyH_take (i := 8) (oi := { dst := some 73, op := Go.Op.unOp Go.UnOp.not 4 (Go.Operand.tmp 72), type := 4, pos := "board.go:86", after := #[{ on := 7, ground := Go.Ground.data }], guard := none }) (v := .bool true) rfl (by kernel_rfl) (by kernel_rfl) (by kernel_rfl) (fun _ _ _ h => h) (Or.inl ⟨by rfl, by intro w2 hSw; (try dsimp only at hSw); go_simp⟩) hS2 ?_
                try simp only [Act.put, List.setIfInBounds_toArray, List.set_cons_zero, List.set_cons_succ]
                refine wpAnyH_done (by kernel_rfl) ?_ _
                go_wp2_with fail
                go_ret
                exact ⟨by rw [HC.out]; rfl, by rw [← HWE.out]; exact HBl.out.trans (hS2.mono HBl.out.size)⟩
            · have HA3 := Lib.hid (show p.all (f3 nm L m) = true by
                have := HT.out
                rwa [List.take_of_length_le (by have := HPl.out; omega)] at this)
              have hris := rising82 A3 N c p m wr (HP.out.below HBl.out (Nat.le_refl _)) HLen.out (by omega) (by omega)
              have HPN := Lib.hid (show p.length - 1 = N - 1 by rw [HPl.out])
              clear HT
              cases hr : risK p m (N - 1) with
              | true =>
                rw [hr] at hris
                have HC := Lib.hid (show chkP nm L m p = 0 by
                  unfold chkP
                  rw [if_neg HN8.out, if_neg (by rw [HA1.out]; simp), if_neg (by rw [HA2.out]; simp), if_neg (by rw [HA3.out]; simp), HPN.out, hr]; rfl)
                clear hr
                go_wp2_with fail
                refine hris.mono ?_
                rintro e V3 ⟨rfl, hV3⟩
                subst hV3
                clear hris
                go_wp2_with fail
                go_ret
                exact ⟨by rw [HC.out]; rfl, by rw [← HWE.out]; exact HBl.out⟩
              | false =>
                rw [hr] at hris
                have HC := Lib.hid (show chkP nm L m p = 24 by
                  unfold chkP
                  rw [if_neg HN8.out, if_neg (by rw [HA1.out]; simp), if_neg (by rw [HA2.out]; simp), if_neg (by rw [HA3.out]; simp), HPN.out, hr]; rfl)
                clear hr
                go_wp2_with fail
                refine hris.mono ?_
                rintro e V3 ⟨rfl, hV3⟩
                subst hV3
                clear hris
                go_wp2_with fail
                go_ret
                exact ⟨by rw [HC.out]; rfl, by rw [← HWE.out]; exact HBl.out⟩
end Go.Proofs.Ythdjbapidodlfaa
