/- Stage 5: rows of numbers that grow; apart. -/
import Derived.Test.YtnodkgejggnehaaBase
import Derived.Deep.RegionHeld3
import Derived.BigQuiet
import Derived.Deep.QuietTactic
namespace Go.Proofs.Ytnodkgejggnehaa
set_option linter.unusedSimpArgs false
set_option linter.unusedVariables false
open Go.RowKit Go.Shelf
def inB (lo hi x : Int) : Bool := decide (lo ≤ x) && decide (x ≤ hi)
theorem inB_iff {lo hi x : Int} : inB lo hi x = true ↔ lo ≤ x ∧ x ≤ hi := by simp [inB]
def withI (lo hi : Int) (zs : List Int) : Bool := zs.all (inB lo hi)
theorem withI_take (lo hi : Int) (zs : List Int) (k : Nat) (hk : k < zs.length) : withI lo hi (zs.take (k + 1)) = (withI lo hi (zs.take k) && inB lo hi (iAt zs k)) := all_take _ zs k 0 hk
theorem withI_stop (lo hi : Int) (zs : List Int) (k : Nat) (hk : k < zs.length) (h : ¬ (lo ≤ iAt zs k ∧ iAt zs k ≤ hi)) : withI lo hi zs = false := all_stop _ zs k 0 hk (by
  cases h2 : inB lo hi (zs.getD k 0)
  · rfl
  · exact absurd (inB_iff.1 h2) h)
set_option maxRecDepth 100000 in
set_option maxHeartbeats 1000000 in
theorem within45 (A : Option Addr) (n cap : Nat) (zs : List Int) (lo hi : Int) (w : World) (h : Ints w A n zs) (hn : n ≤ 1000000) :
    Calls Try.prog 45 #[.int .i64 lo, .int .i64 hi, .slice A n cap] w fun e w' => e = .returned (.bool (withI lo hi zs)) ∧ w' = w := by
  go_enter Try.func45, Try.ntmps45
  go_wp2_with fail
  go_loopw [11] (fun i wr => ∃ k : Nat, k ≤ n ∧ i = .int .i64 k ∧ withI lo hi (zs.take k) = true ∧ wr = w) (fun i _ => n - (intOf i).toNat)
  case atStart => exact ⟨0, Nat.zero_le _, rfl, rfl, rfl⟩
  case round =>
    obtain ⟨k, hk, rfl, hw, rfl⟩ := hrel
    by_cases hlt : k < n
    · obtain ⟨hl, hc⟩ := h
      obtain ⟨b, o, rfl, hc2⟩ := hc (by omega)
      have c0 := hc2 k hlt
      have Hs := Lib.hid (withI_take lo hi zs k (by omega))
      have Hf := Lib.hid (withI_stop lo hi zs k (by omega))
      have Hw := Lib.hid hw
      obtain ⟨g, hg⟩ : ∃ g, iAt zs k = g := ⟨_, rfl⟩
      rw [hg] at c0 Hs Hf
      have i0 : (0 : Int) ≤ (k : Int) := by omega
      have i1 : (k : Int) < (n : Int) := by omega
      clear hc hc2 hw hl hg
      by_cases h1 : g < lo
      · have d1 : decide (g < lo) = true := decide_eq_true h1
        go_wp2_with fail
        go_ret
        exact ⟨ret_bool (Hf.out (by omega)).symm, rfl⟩
      · have d1 : decide (g < lo) = false := decide_eq_false h1
        by_cases h3 : hi < g
        · have d3 : decide (hi < g) = true := decide_eq_true h3
          go_wp2_with fail
          go_ret
          exact ⟨ret_bool (Hf.out (by omega)).symm, rfl⟩
        · have d3 : decide (hi < g) = false := decide_eq_false h3
          go_wp2_with fail
          go_roundw
          case rel => exact ⟨k + 1, by omega, by go_num, by rw [Hs.out, Hw.out, inB_iff.2 ⟨by omega, by omega⟩]; rfl, by first | trivial | rfl⟩
          case measure => simp [intOf]; omega
    · go_wp2_with fail
      go_ret
      exact ⟨ret_bool (by rw [← hw, List.take_of_length_le (by have := h.1; omega)]), rfl⟩
/-- Strictly increasing numbers from 0 to one less than c: each is greater than the one before it (the first one than -1). -/
def prvI (zs : List Int) (k : Nat) : Int := if k = 0 then -1 else iAt zs (k - 1)
def risK (c : Int) (zs : List Int) (k : Nat) : Bool := (List.range k).all fun j => decide (prvI zs j < iAt zs j) && decide (iAt zs j < c)
def risI (c : Int) (zs : List Int) : Bool := risK c zs zs.length
theorem risK_succ (c : Int) (zs : List Int) (k : Nat) : risK c zs (k + 1) = (risK c zs k && (decide (prvI zs k < iAt zs k) && decide (iAt zs k < c))) := by simp [risK, List.range_succ]
theorem risK_stop {c : Int} {zs : List Int} {k n : Nat} (h : (decide (prvI zs k < iAt zs k) && decide (iAt zs k < c)) = false) (hk : k < n) : risK c zs n = false := by
  unfold risK
  rw [List.all_eq_false]
  exact ⟨k, List.mem_range.2 hk, by rw [h]; simp⟩
set_option maxRecDepth 100000 in
set_option maxHeartbeats 1000000 in
theorem indexes41 (A : Option Addr) (n cap : Nat) (zs : List Int) (c : Int) (w : World) (h : Ints w A n zs) (hn : n ≤ 1000000) :
    Calls Try.prog 41 #[.int .i64 c, .slice A n cap] w fun e w' => e = .returned (.bool (risI c zs)) ∧ w' = w := by
  have HN := Lib.hid h.1
  go_enter Try.func41, Try.ntmps41
  go_wp2_with fail
  go_loopw [5, 7, 10] (fun p x i wr => ∃ k : Nat, k ≤ n ∧ i = .int .i64 k ∧ p = .int .i64 (prvI zs k) ∧ risK c zs k = true ∧ wr = w) (fun p x i _ => n - (intOf i).toNat)
  case atStart => exact ⟨0, Nat.zero_le _, rfl, rfl, rfl, rfl⟩
  case round =>
    obtain ⟨k, hk, rfl, rfl, hw, rfl⟩ := hrel
    by_cases hlt : k < n
    · obtain ⟨hl, hc⟩ := h
      obtain ⟨b, o, rfl, hc2⟩ := hc (by omega)
      have c0 := hc2 k hlt
      have Hs := Lib.hid (risK_succ c zs k)
      have Hf := Lib.hid (fun h => risK_stop (c := c) (zs := zs) (k := k) (n := n) h hlt)
      have Hw := Lib.hid hw
      have Hp := Lib.hid (show prvI zs (k + 1) = iAt zs k by unfold prvI; rw [if_neg (by omega), Nat.add_sub_cancel])
      obtain ⟨p, hp⟩ : ∃ p, prvI zs k = p := ⟨_, rfl⟩
      obtain ⟨g, hg⟩ : ∃ g, iAt zs k = g := ⟨_, rfl⟩
      rw [hg] at c0 Hs Hf Hp
      rw [hp] at Hs Hf
      rw [hp]
      have i0 : (0 : Int) ≤ (k : Int) := by omega
      have i1 : (k : Int) < (n : Int) := by omega
      clear hc hc2 hw hl hg hp
      by_cases h1 : g ≤ p
      · go_wp2_with fail
        go_ret
        exact ⟨ret_bool (by unfold risI; rw [HN.out]; exact (Hf.out (by rw [decide_eq_false (show ¬ p < g by omega)]; rfl)).symm), rfl⟩
      · by_cases h3 : c ≤ g
        · go_wp2_with fail
          go_ret
          exact ⟨ret_bool (by unfold risI; rw [HN.out]; exact (Hf.out (by rw [decide_eq_false (show ¬ g < c by omega), Bool.and_false])).symm), rfl⟩
        · go_wp2_with fail
          go_roundw
          case rel => exact ⟨k + 1, by omega, by go_num, by rw [Hp.out], by rw [Hs.out, Hw.out, decide_eq_true (show p < g by omega), decide_eq_true (show g < c by omega)]; rfl, by first | trivial | rfl⟩
          case measure => simp [intOf]; omega
    · go_wp2_with fail
      go_ret
      exact ⟨ret_bool (by unfold risI; rw [HN.out, ← hw]; congr 1; omega), rfl⟩
/-- The index of a number, or -1. -/
def nonK (zs : List Int) (x : Int) (k : Nat) : Bool := (List.range k).all fun j => !decide (x = iAt zs j)
theorem nonK_succ (zs : List Int) (x : Int) (k : Nat) : nonK zs x (k + 1) = (nonK zs x k && !decide (x = iAt zs k)) := by simp [nonK, List.range_succ]
theorem nonK_all {zs : List Int} {x : Int} (h : nonK zs x zs.length = true) : x ∉ zs := by
  intro hx
  unfold nonK at h
  rw [List.all_eq_true] at h
  obtain ⟨j, hj, e⟩ := List.getElem_of_mem hx
  have := h j (List.mem_range.2 hj)
  rw [iAt_eq hj, e] at this
  simp at this
theorem mem_iAt {zs : List Int} {x : Int} {k : Nat} (hk : k < zs.length) (h : x = iAt zs k) : x ∈ zs := by
  rw [h, iAt_eq hk]; exact List.getElem_mem _
set_option maxRecDepth 100000 in
set_option maxHeartbeats 1000000 in
theorem index86 (A : Option Addr) (n cap : Nat) (zs : List Int) (x : Int) (w : World) (h : Ints w A n zs) (hn : n ≤ 1000000) :
    Calls Try.prog 86 #[.slice A n cap, .int .i64 x] w fun e w' => (∃ r : Int, e = .returned (.int .i64 r) ∧ decide (0 ≤ r) = decide (x ∈ zs)) ∧ w' = w := by
  have HN := Lib.hid h.1
  go_enter Try.func86, Try.ntmps86
  go_wp2_with fail
  go_loopw [5, 8] (fun y i wr => ∃ k : Nat, k ≤ n ∧ i = .int .i64 k ∧ nonK zs x k = true ∧ wr = w) (fun y i _ => n - (intOf i).toNat)
  case atStart => exact ⟨0, Nat.zero_le _, rfl, rfl, rfl⟩
  case round =>
    obtain ⟨k, hk, rfl, hw, rfl⟩ := hrel
    by_cases hlt : k < n
    · obtain ⟨hl, hc⟩ := h
      obtain ⟨b, o, rfl, hc2⟩ := hc (by omega)
      have c0 := hc2 k hlt
      have Hs := Lib.hid (nonK_succ zs x k)
      have Hm := Lib.hid (fun e => mem_iAt (x := x) (show k < zs.length by omega) e)
      have Hw := Lib.hid hw
      obtain ⟨g, hg⟩ : ∃ g, iAt zs k = g := ⟨_, rfl⟩
      rw [hg] at c0 Hs Hm
      have i0 : (0 : Int) ≤ (k : Int) := by omega
      have i1 : (k : Int) < (n : Int) := by omega
      clear hc hc2 hw hl hg
      by_cases h1 : x = g
      · have HX := Lib.hid (Hm.out h1)
        have d1 : (x == g) = true := by rw [beq_iff_eq]; exact h1
        clear h1
        go_wp2_with fail
        go_ret
        exact ⟨⟨_, rfl, by rw [decide_eq_true HX.out]; exact decide_eq_true (by omega)⟩, rfl⟩
      · have HX := Lib.hid h1
        have d1 : (x == g) = false := by rw [beq_eq_false_iff_ne]; exact h1
        clear h1
        go_wp2_with fail
        go_roundw
        case rel => exact ⟨k + 1, by omega, by go_num, by rw [Hs.out, Hw.out, decide_eq_false HX.out]; rfl, by first | trivial | rfl⟩
        case measure => simp [intOf]; omega
    · have HX := Lib.hid (nonK_all (zs := zs) (x := x) (by rw [HN.out, ← hw]; congr 1; omega))
      go_wp2_with fail
      go_ret
      exact ⟨⟨_, rfl, by rw [decide_eq_false HX.out]; rfl⟩, rfl⟩
set_option maxRecDepth 100000 in
set_option maxHeartbeats 1000000 in
theorem contains62 (A : Option Addr) (n cap : Nat) (zs : List Int) (x : Int) (w : World) (h : Ints w A n zs) (hn : n ≤ 1000000) :
    Calls Try.prog 62 #[.slice A n cap, .int .i64 x] w fun e w' => e = .returned (.bool (decide (x ∈ zs))) ∧ w' = w := by
  have key := index86 A n cap zs x w h hn
  go_enter Try.func62, Try.ntmps62
  go_wp2_with fail
  refine key.mono ?_
  rintro en w1 ⟨⟨r, rfl, hr⟩, rfl⟩
  have Hr := Lib.hid hr
  clear hr key
  by_cases h0 : 0 ≤ r
  · have H0 := Lib.hid h0
    go_wp2_with fail
    go_ret
    exact ⟨ret_bool (by rw [← Hr.out]; exact (decide_eq_true H0.out).symm), rfl⟩
  · have H0 := Lib.hid h0
    go_wp2_with fail
    go_ret
    exact ⟨ret_bool (by rw [← Hr.out]), rfl⟩
/-- The list has all of several numbers. -/
def subI (a b : List Int) : Bool := b.all fun x => decide (x ∈ a)
theorem subI_take {a b : List Int} {k : Nat} (hk : k < b.length) : subI a (b.take (k + 1)) = (subI a (b.take k) && decide (iAt b k ∈ a)) := all_take _ b k 0 hk
theorem subI_stop {a b : List Int} {k : Nat} (hk : k < b.length) (h : iAt b k ∉ a) : subI a b = false := all_stop _ b k 0 hk (decide_eq_false h)
set_option maxRecDepth 100000 in
set_option maxHeartbeats 1000000 in
theorem contains49 (A : Option Addr) (n cap : Nat) (a : List Int) (A2 : Option Addr) (n2 cap2 : Nat) (b : List Int) (w : World) (h : Ints w A n a) (h2 : Ints w A2 n2 b) (hn : n ≤ 1000000) (hn2 : n2 ≤ 1000000) :
    Calls Try.prog 49 #[.slice A n cap, .slice A2 n2 cap2] w fun e w' => e = .returned (.bool (subI a b)) ∧ w' = w := by
  have HA := Lib.hid (fun x => contains62 A n cap a x w h hn)
  go_enter Try.func49, Try.ntmps49
  go_wp2_with fail
  go_loopw [6, 9] (fun y i wr => ∃ k : Nat, k ≤ n2 ∧ i = .int .i64 k ∧ Hid (subI a (b.take k) = true) ∧ wr = w) (fun y i _ => n2 - (intOf i).toNat)
  case atStart => exact ⟨0, Nat.zero_le _, rfl, Lib.hid rfl, rfl⟩
  case round =>
    obtain ⟨k, hk, rfl, Hw, rfl⟩ := hrel
    by_cases hlt : k < n2
    · obtain ⟨hl, hc⟩ := h2
      obtain ⟨b1, o, rfl, hc2⟩ := hc (by omega)
      have c0 := hc2 k hlt
      have Hs := Lib.hid (subI_take (a := a) (b := b) (k := k) (by omega))
      have Hf := Lib.hid (subI_stop (a := a) (b := b) (k := k) (by omega))
      obtain ⟨g, hg⟩ : ∃ g, iAt b k = g := ⟨_, rfl⟩
      rw [hg] at c0 Hs Hf
      have i0 : (0 : Int) ≤ (k : Int) := by omega
      have i1 : (k : Int) < (n2 : Int) := by omega
      clear hc hc2 hl hg
      go_wp2_with fail
      refine (HA.out g).mono ?_
      rintro en w1 ⟨rfl, rfl⟩
      by_cases hm : g ∈ a
      · have HM := Lib.hid hm
        rw [decide_eq_true hm]
        clear hm
        go_wp2_with fail
        go_roundw
        case rel => exact ⟨k + 1, by omega, by go_num, Lib.hid (by rw [Hs.out, Hw.out, decide_eq_true HM.out]; rfl), by first | trivial | rfl⟩
        case measure => simp [intOf]; omega
      · have HM := Lib.hid hm
        rw [decide_eq_false hm]
        clear hm
        go_wp2_with fail
        go_ret
        exact ⟨ret_bool (Hf.out HM.out).symm, rfl⟩
    · go_wp2_with fail
      go_ret
      exact ⟨ret_bool (by rw [← Hw.out, List.take_of_length_le (by have := h2.1; omega)]), rfl⟩
set_option maxRecDepth 100000 in
set_option maxHeartbeats 1000000 in
theorem in34 (A : Option Addr) (n cap : Nat) (zs : List Int) (x : Int) (w : World) (h : Ints w A n zs) (hn : n ≤ 1000000) :
    Calls Try.prog 34 #[.slice A n cap, .int .i64 x] w fun e w' => e = .returned (.bool (decide (x ∈ zs))) ∧ w' = w := by
  have HN := Lib.hid h.1
  go_enter Try.func34, Try.ntmps34
  go_wp2_with fail
  go_loopw [5] (fun i wr => ∃ k : Nat, k ≤ n ∧ i = .int .i64 k ∧ nonK zs x k = true ∧ wr = w) (fun i _ => n - (intOf i).toNat)
  case atStart => exact ⟨0, Nat.zero_le _, rfl, rfl, rfl⟩
  case round =>
    obtain ⟨k, hk, rfl, hw, rfl⟩ := hrel
    by_cases hlt : k < n
    · obtain ⟨hl, hc⟩ := h
      obtain ⟨b, o, rfl, hc2⟩ := hc (by omega)
      have c0 := hc2 k hlt
      have Hs := Lib.hid (nonK_succ zs x k)
      have Hm := Lib.hid (fun e => mem_iAt (x := x) (show k < zs.length by omega) e)
      have Hw := Lib.hid hw
      obtain ⟨g, hg⟩ : ∃ g, iAt zs k = g := ⟨_, rfl⟩
      rw [hg] at c0 Hs Hm
      have i0 : (0 : Int) ≤ (k : Int) := by omega
      have i1 : (k : Int) < (n : Int) := by omega
      clear hc hc2 hw hl hg
      by_cases h1 : x = g
      · have HX := Lib.hid (Hm.out h1)
        have d1 : (g == x) = true := by rw [beq_iff_eq]; exact h1.symm
        clear h1
        go_wp2_with fail
        go_ret
        exact ⟨ret_bool (decide_eq_true HX.out).symm, rfl⟩
      · have HX := Lib.hid h1
        have d1 : (g == x) = false := by rw [beq_eq_false_iff_ne]; exact fun e => h1 e.symm
        clear h1
        go_wp2_with fail
        go_roundw
        case rel => exact ⟨k + 1, by omega, by go_num, by rw [Hs.out, Hw.out, decide_eq_false HX.out]; rfl, by first | trivial | rfl⟩
        case measure => simp [intOf]; omega
    · have HX := Lib.hid (nonK_all (zs := zs) (x := x) (by rw [HN.out, ← hw]; congr 1; omega))
      go_wp2_with fail
      go_ret
      exact ⟨ret_bool (decide_eq_false HX.out).symm, rfl⟩
end Go.Proofs.Ytnodkgejggnehaa

namespace Go.Proofs.Ytnodkgejggnehaa
set_option linter.unusedSimpArgs false
set_option linter.unusedVariables false
open Go.RowKit Go.Shelf
theorem cutv {t : TypeId} {s : Nat} (ht : Try.prog.underlying t = some (.slice (Try.prog.elem t))) (hs : ∀ W, (sizeOf (Try.prog.elem t)).run Try.prog W = .ok s W) (C : Option Addr) {ll ch i : Nat} (hi : i ≤ ch) (W : World) :
    (Instr.sliceAt t (.slice C ll ch) none (some (.int .i64 (i : Int))) none).run Try.prog W = .ok (.slice C i ch) W := by
  have e0 : sliced C 0 i ch s = .slice C i ch := by
    unfold sliced
    rcases C with _ | ⟨b, o, f⟩
    · simp
    · simp [Addr.add]
  rw [run_sliceAt_slice _ _ _ _ _ _ ht, run_slice_h (P := Try.prog) W t C ll ch ht .i64 (i : Int) (by omega) (by omega), hs]
  simp only [Result.andThen, Int.toNat_natCast]
  rw [e0]
theorem elem23_ : Try.prog.underlying 23 = some (.slice (Try.prog.elem 23)) := by kernel_rfl
theorem size23_ (W : World) : (sizeOf (Try.prog.elem 23)).run Try.prog W = .ok 1 W := by kernel_rfl
theorem elem22_ : Try.prog.underlying 22 = some (.slice (Try.prog.elem 22)) := by kernel_rfl
theorem size22_ (W : World) : (sizeOf (Try.prog.elem 22)).run Try.prog W = .ok 2 W := by kernel_rfl
theorem Ints.take {w : World} {C : Option Addr} {n k : Nat} {l : List Int} (h : Ints w C n l) (hk : k ≤ n) : Ints w C k (l.take k) := by
  have hl := h.1
  refine ⟨by rw [List.length_take]; omega, fun hp => ?_⟩
  obtain ⟨b, o, e, hcc⟩ := h.2 (by omega)
  refine ⟨b, o, e, fun j hj => ?_⟩
  rw [hcc j (by omega)]
  unfold iAt
  rw [List.getD_eq_getElem?_getD, List.getD_eq_getElem?_getD, List.getElem?_take, if_pos hj]
theorem Rgs.take {w : World} {C : Option Addr} {n k : Nat} {l : List Rg} (h : Rgs w C n l) (hk : k ≤ n) : Rgs w C k (l.take k) := by
  have hl := h.1
  refine ⟨by rw [List.length_take]; omega, fun hp => ?_⟩
  obtain ⟨b, o, e, hcc⟩ := h.2 (by omega)
  refine ⟨b, o, e, fun j hj => ?_⟩
  have e1 : gAt (l.take k) j = gAt l j := by
    unfold gAt
    rw [List.getD_eq_getElem?_getD, List.getD_eq_getElem?_getD, List.getElem?_take, if_pos hj]
  rw [e1]
  exact hcc j (by omega)
/-! Links. -/
def nonG (zs : List Rg) (x : Rg) (k : Nat) : Bool := (List.range k).all fun j => !decide (x = gAt zs j)
theorem nonG_succ (zs : List Rg) (x : Rg) (k : Nat) : nonG zs x (k + 1) = (nonG zs x k && !decide (x = gAt zs k)) := by simp [nonG, List.range_succ]
theorem nonG_all {zs : List Rg} {x : Rg} (h : nonG zs x zs.length = true) : x ∉ zs := by
  intro hx
  unfold nonG at h
  rw [List.all_eq_true] at h
  obtain ⟨j, hj, e⟩ := List.getElem_of_mem hx
  have := h j (List.mem_range.2 hj)
  rw [gAt_eq hj, e] at this
  simp at this
theorem mem_gAt {zs : List Rg} {x : Rg} {k : Nat} (hk : k < zs.length) (h : x = gAt zs k) : x ∈ zs := by
  rw [h, gAt_eq hk]; exact List.getElem_mem _
set_option maxRecDepth 100000 in
set_option maxHeartbeats 2000000 in
theorem index87 (A : Option Addr) (n cap : Nat) (zs : List Rg) (xl xh : Int) (w : World) (h : Rgs w A n zs) (hn : n ≤ 1000000) :
    Calls Try.prog 87 #[.slice A n cap, .agg #[.int .i64 xl, .int .i64 xh]] w fun e w' => (∃ r : Int, e = .returned (.int .i64 r) ∧ decide (0 ≤ r) = decide ((⟨xl, xh⟩ : Rg) ∈ zs)) ∧ Below w.heap.size w w' := by
  have HN := Lib.hid h.1
  have hb0 := below_alloc_ w (.cells #[.int .i64 xl, .int .i64 xh] 55)
  have hr0 := heap_alloc_new_ w (.cells #[.int .i64 xl, .int .i64 xh] 55)
  obtain ⟨w0, hW0⟩ : ∃ w0, w.alloc (.cells #[.int .i64 xl, .int .i64 xh] 55) = w0 := ⟨_, rfl⟩
  obtain ⟨R, hR⟩ : ∃ R, w.heap.size = R := ⟨_, rfl⟩
  rw [hW0] at hb0 hr0
  rw [hR] at hr0
  have S := Lib.hid (h.below hb0 (Nat.le_refl _))
  have B := Lib.hid hb0
  have HW0 := Lib.hid hW0
  have HR := Lib.hid hR
  have hrow := Lib.hid hr0
  clear h hb0 hr0 hW0 hR
  go_enter Try.func87, Try.ntmps87
  go_wp2_with fail
  rw [HW0.out]
  try rw [HR.out]
  try go_wp2_with fail
  go_loopw [5, 8] (fun y i wr => ∃ k : Nat, k ≤ n ∧ i = .int .i64 k ∧ nonG zs ⟨xl, xh⟩ k = true ∧ Hid (Below w0.heap.size w0 wr)) (fun y i _ => n - (intOf i).toNat)
  case atStart => exact ⟨0, Nat.zero_le _, rfl, rfl, Lib.hid (Below.refl _ _)⟩
  case round =>
    obtain ⟨k, hk, rfl, hw, HBl⟩ := hrel
    obtain ⟨wk, rfl⟩ : ∃ wk, wk = wr := ⟨_, rfl⟩
    by_cases hlt : k < n
    · obtain ⟨hl, hc⟩ := S.out.below HBl.out (Nat.le_refl _)
      obtain ⟨b, o, rfl, hc2⟩ := hc (by omega)
      obtain ⟨c0, c1⟩ := hc2 k hlt
      have Hs := Lib.hid (nonG_succ zs ⟨xl, xh⟩ k)
      have Hm := Lib.hid (fun e => mem_gAt (x := ⟨xl, xh⟩) (show k < zs.length by omega) e)
      have Hw := Lib.hid hw
      obtain ⟨gl, hgl⟩ : ∃ gl, (gAt zs k).lo = gl := ⟨_, rfl⟩
      obtain ⟨gh, hgh⟩ : ∃ gh, (gAt zs k).hi = gh := ⟨_, rfl⟩
      have hgg : gAt zs k = ⟨gl, gh⟩ := by rw [← hgl, ← hgh]
      rw [hgl] at c0
      rw [hgh] at c1
      rw [hgg] at Hs Hm
      have hrk := (HBl.out.block R (lt_of_block hrow.out)).trans hrow.out
      have x0 : wk.cell? ⟨R, 0, none⟩ = some (.int .i64 xl) := by rw [cell_row hrk]; rfl
      have x1 : wk.cell? ⟨R, 1, none⟩ = some (.int .i64 xh) := by rw [cell_row hrk]; rfl
      have i0 : (0 : Int) ≤ (k : Int) := by omega
      have i1 : (k : Int) < (n : Int) := by omega
      clear hc hc2 hw hl hgl hgh hgg hrk
      by_cases h1 : xl = gl ∧ xh = gh
      · have HX := Lib.hid (Hm.out (by rw [h1.1, h1.2]))
        have d1 : (xl == gl) = true := by rw [beq_iff_eq]; exact h1.1
        have d2 : (xh == gh) = true := by rw [beq_iff_eq]; exact h1.2
        clear h1
        go_wp2_with fail
        refine wp_region_held_drew (S := fun w2 => Below wk.heap.size wk w2) (by kernel_rfl) (drew_b _ _) (fun hS0 => ?_)
        refine wpAnyH_take (i := 0) (oi := { dst := some 11, op := Go.Op.load 55 (Go.Operand.tmp 3), type := 55, pos := "slices.go:98", after := #[], guard := none }) (v := .agg #[.int .i64 xl, .int .i64 xh]) rfl (by kernel_rfl) (by kernel_rfl) (by kernel_rfl) (fun _ _ _ h => h) (Or.inl ⟨by rfl, by intro w2 hSw; (try dsimp only at hSw); have e0 := (hSw.cell (p := _) (lt_of_cell x0)).trans x0; have e1 := (hSw.cell (p := _) (lt_of_cell x1)).trans x1; go_simp⟩) hS0 ?_
        try simp only [Act.put, List.setIfInBounds_toArray, List.set_cons_zero, List.set_cons_succ]
        refine wpAnyH_take (i := 1) (oi := { dst := some 12, op := Go.Op.move (Go.Operand.tmp 0), type := 22, pos := "slices.go:98", after := #[], guard := none }) (v := .slice (some ⟨b, o, none⟩) n cap) rfl (by kernel_rfl) (by kernel_rfl) (by kernel_rfl) (fun _ _ _ h => h) (Or.inl ⟨by rfl, by intro w2 hSw; (try dsimp only at hSw); go_simp⟩) hS0 ?_
        try simp only [Act.put, List.setIfInBounds_toArray, List.set_cons_zero, List.set_cons_succ]
        refine wpAnyH_take (i := 2) (oi := { dst := some 13, op := Go.Op.move (Go.Operand.tmp 5), type := 3, pos := "slices.go:98", after := #[], guard := none }) (v := .int .i64 (k : Int)) rfl (by kernel_rfl) (by kernel_rfl) (by kernel_rfl) (fun _ _ _ h => h) (Or.inl ⟨by rfl, by intro w2 hSw; (try dsimp only at hSw); go_simp⟩) hS0 ?_
        try simp only [Act.put, List.setIfInBounds_toArray, List.set_cons_zero, List.set_cons_succ]
        refine wpAnyH_take (i := 3) (oi := { dst := some 14, op := Go.Op.indexAddr 22 (Go.Operand.tmp 12) (Go.Operand.tmp 13), type := 0, pos := "slices.go:98", after := #[{ on := 1, ground := Go.Ground.data }, { on := 2, ground := Go.Ground.data }], guard := none }) (v := .pointer (some ⟨b, o + k * 2, none⟩)) rfl (by kernel_rfl) (by kernel_rfl) (by kernel_rfl) (fun _ _ _ h => h) (Or.inl ⟨by rfl, by intro w2 hSw; (try dsimp only at hSw); go_simp⟩) hS0 ?_
        try simp only [Act.put, List.setIfInBounds_toArray, List.set_cons_zero, List.set_cons_succ]
        refine wpAnyH_take (i := 4) (oi := { dst := some 15, op := Go.Op.load 55 (Go.Operand.tmp 14), type := 55, pos := "slices.go:98", after := #[{ on := 3, ground := Go.Ground.data }], guard := none }) (v := .agg #[.int .i64 gl, .int .i64 gh]) rfl (by kernel_rfl) (by kernel_rfl) (by kernel_rfl) (fun _ _ _ h => h) (Or.inl ⟨by rfl, by intro w2 hSw; (try dsimp only at hSw); have e0 := (hSw.cell (p := _) (lt_of_cell c0)).trans c0; have e1 := (hSw.cell (p := _) (lt_of_cell c1)).trans c1; go_simp⟩) hS0 ?_
        try simp only [Act.put, List.setIfInBounds_toArray, List.set_cons_zero, List.set_cons_succ]
        refine wpAnyH_take (i := 5) (oi := { dst := some 16, op := Go.Op.binOp Go.BinOp.eql 55 (Go.Operand.tmp 11) (Go.Operand.tmp 15) 55, type := 4, pos := "slices.go:98", after := #[{ on := 0, ground := Go.Ground.data }, { on := 4, ground := Go.Ground.data }], guard := none }) (v := .bool true) rfl (by kernel_rfl) (by kernel_rfl) (by kernel_rfl) (fun _ _ _ h => h) (Or.inl ⟨by rfl, by intro w2 hSw; (try dsimp only at hSw); go_simp⟩) hS0 ?_
        try simp only [Act.put, List.setIfInBounds_toArray, List.set_cons_zero, List.set_cons_succ]
        refine wpAnyH_done (by kernel_rfl) ?_ _
        have HN2 := Lib.hid (B.out.trans ((HBl.out.trans (hS0.mono HBl.out.size)).mono B.out.size))
        clear hS0
        go_wp2_with fail
        go_ret
        exact ⟨⟨_, rfl, by rw [decide_eq_true HX.out]; exact decide_eq_true (by omega)⟩, HN2.out⟩
      · have HX := Lib.hid (show ¬ ((⟨xl, xh⟩ : Rg) = ⟨gl, gh⟩) from fun e => h1 ⟨by injection e, by injection e⟩)
        have d1 : xl = gl → ¬ xh = gh := fun e e2 => h1 ⟨e, e2⟩
        clear h1
        go_wp2_with fail
        refine wp_region_held_drew (S := fun w2 => Below wk.heap.size wk w2) (by kernel_rfl) (drew_b _ _) (fun hS0 => ?_)
        refine wpAnyH_take (i := 0) (oi := { dst := some 11, op := Go.Op.load 55 (Go.Operand.tmp 3), type := 55, pos := "slices.go:98", after := #[], guard := none }) (v := .agg #[.int .i64 xl, .int .i64 xh]) rfl (by kernel_rfl) (by kernel_rfl) (by kernel_rfl) (fun _ _ _ h => h) (Or.inl ⟨by rfl, by intro w2 hSw; (try dsimp only at hSw); have e0 := (hSw.cell (p := _) (lt_of_cell x0)).trans x0; have e1 := (hSw.cell (p := _) (lt_of_cell x1)).trans x1; go_simp⟩) hS0 ?_
        try simp only [Act.put, List.setIfInBounds_toArray, List.set_cons_zero, List.set_cons_succ]
        refine wpAnyH_take (i := 1) (oi := { dst := some 12, op := Go.Op.move (Go.Operand.tmp 0), type := 22, pos := "slices.go:98", after := #[], guard := none }) (v := .slice (some ⟨b, o, none⟩) n cap) rfl (by kernel_rfl) (by kernel_rfl) (by kernel_rfl) (fun _ _ _ h => h) (Or.inl ⟨by rfl, by intro w2 hSw; (try dsimp only at hSw); go_simp⟩) hS0 ?_
        try simp only [Act.put, List.setIfInBounds_toArray, List.set_cons_zero, List.set_cons_succ]
        refine wpAnyH_take (i := 2) (oi := { dst := some 13, op := Go.Op.move (Go.Operand.tmp 5), type := 3, pos := "slices.go:98", after := #[], guard := none }) (v := .int .i64 (k : Int)) rfl (by kernel_rfl) (by kernel_rfl) (by kernel_rfl) (fun _ _ _ h => h) (Or.inl ⟨by rfl, by intro w2 hSw; (try dsimp only at hSw); go_simp⟩) hS0 ?_
        try simp only [Act.put, List.setIfInBounds_toArray, List.set_cons_zero, List.set_cons_succ]
        refine wpAnyH_take (i := 3) (oi := { dst := some 14, op := Go.Op.indexAddr 22 (Go.Operand.tmp 12) (Go.Operand.tmp 13), type := 0, pos := "slices.go:98", after := #[{ on := 1, ground := Go.Ground.data }, { on := 2, ground := Go.Ground.data }], guard := none }) (v := .pointer (some ⟨b, o + k * 2, none⟩)) rfl (by kernel_rfl) (by kernel_rfl) (by kernel_rfl) (fun _ _ _ h => h) (Or.inl ⟨by rfl, by intro w2 hSw; (try dsimp only at hSw); go_simp⟩) hS0 ?_
        try simp only [Act.put, List.setIfInBounds_toArray, List.set_cons_zero, List.set_cons_succ]
        refine wpAnyH_take (i := 4) (oi := { dst := some 15, op := Go.Op.load 55 (Go.Operand.tmp 14), type := 55, pos := "slices.go:98", after := #[{ on := 3, ground := Go.Ground.data }], guard := none }) (v := .agg #[.int .i64 gl, .int .i64 gh]) rfl (by kernel_rfl) (by kernel_rfl) (by kernel_rfl) (fun _ _ _ h => h) (Or.inl ⟨by rfl, by intro w2 hSw; (try dsimp only at hSw); have e0 := (hSw.cell (p := _) (lt_of_cell c0)).trans c0; have e1 := (hSw.cell (p := _) (lt_of_cell c1)).trans c1; go_simp⟩) hS0 ?_
        try simp only [Act.put, List.setIfInBounds_toArray, List.set_cons_zero, List.set_cons_succ]
        refine wpAnyH_take (i := 5) (oi := { dst := some 16, op := Go.Op.binOp Go.BinOp.eql 55 (Go.Operand.tmp 11) (Go.Operand.tmp 15) 55, type := 4, pos := "slices.go:98", after := #[{ on := 0, ground := Go.Ground.data }, { on := 4, ground := Go.Ground.data }], guard := none }) (v := .bool false) rfl (by kernel_rfl) (by kernel_rfl) (by kernel_rfl) (fun _ _ _ h => h) (Or.inl ⟨by rfl, by intro w2 hSw; (try dsimp only at hSw); go_simp; exact d1⟩) hS0 ?_
        try simp only [Act.put, List.setIfInBounds_toArray, List.set_cons_zero, List.set_cons_succ]
        refine wpAnyH_done (by kernel_rfl) ?_ _
        have HN2 := Lib.hid (HBl.out.trans (hS0.mono HBl.out.size))
        clear hS0
        go_wp2_with fail
        go_roundw
        case rel => exact ⟨k + 1, by omega, by go_num, by rw [Hs.out, Hw.out, decide_eq_false HX.out]; rfl, HN2⟩
        case measure => simp [intOf]; omega
    · have HX := Lib.hid (nonG_all (zs := zs) (x := ⟨xl, xh⟩) (by rw [HN.out, ← hw]; congr 1; omega))
      have HB2 := Lib.hid (B.out.trans (HBl.out.mono B.out.size))
      go_wp2_with fail
      go_ret
      exact ⟨⟨_, rfl, by rw [decide_eq_false HX.out]; rfl⟩, HB2.out⟩
set_option maxRecDepth 100000 in
set_option maxHeartbeats 2000000 in
theorem contains64 (A : Option Addr) (n cap : Nat) (zs : List Rg) (xl xh : Int) (w : World) (h : Rgs w A n zs) (hn : n ≤ 1000000) :
    Calls Try.prog 64 #[.slice A n cap, .agg #[.int .i64 xl, .int .i64 xh]] w fun e w' => e = .returned (.bool (decide ((⟨xl, xh⟩ : Rg) ∈ zs))) ∧ Below w.heap.size w w' := by
  have hb0 := below_alloc_ w (.cells #[.int .i64 xl, .int .i64 xh] 55)
  have hr0 := heap_alloc_new_ w (.cells #[.int .i64 xl, .int .i64 xh] 55)
  obtain ⟨w0, hW0⟩ : ∃ w0, w.alloc (.cells #[.int .i64 xl, .int .i64 xh] 55) = w0 := ⟨_, rfl⟩
  obtain ⟨R, hR⟩ : ∃ R, w.heap.size = R := ⟨_, rfl⟩
  rw [hW0] at hb0 hr0
  rw [hR] at hr0
  have key := index87 A n cap zs xl xh w0 (h.below hb0 (Nat.le_refl _)) hn
  have B := Lib.hid hb0
  have HW0 := Lib.hid hW0
  have HR := Lib.hid hR
  have x0 : w0.cell? ⟨R, 0, none⟩ = some (.int .i64 xl) := by rw [cell_row hr0]; rfl
  have x1 : w0.cell? ⟨R, 1, none⟩ = some (.int .i64 xh) := by rw [cell_row hr0]; rfl
  clear h hb0 hr0 hW0 hR
  go_enter Try.func64, Try.ntmps64
  go_wp2_with fail
  rw [HW0.out]
  try rw [HR.out]
  try go_wp2_with fail
  refine key.mono ?_
  rintro en w1 ⟨⟨r, rfl, hr⟩, hb⟩
  have Hr := Lib.hid hr
  have HB := Lib.hid (B.out.trans (hb.mono B.out.size))
  clear hr key hb x0 x1
  by_cases h0 : 0 ≤ r
  · have H0 := Lib.hid h0
    go_wp2_with fail
    go_ret
    exact ⟨ret_bool (by rw [← Hr.out]; exact (decide_eq_true H0.out).symm), HB.out⟩
  · have H0 := Lib.hid h0
    go_wp2_with fail
    go_ret
    exact ⟨ret_bool (by rw [← Hr.out]), HB.out⟩
/-- No two elements are the same. -/
theorem nod_take {α : Type} {l : List α} {k : Nat} (hk : k < l.length) : (l.take (k + 1)).Nodup ↔ (l.take k).Nodup ∧ l[k] ∉ l.take k := by
  rw [List.take_succ_eq_append_getElem hk, List.nodup_append]
  constructor
  · rintro ⟨h1, _, h3⟩
    exact ⟨h1, fun h => h3 _ h _ (List.mem_singleton.2 rfl) rfl⟩
  · rintro ⟨h1, h2⟩
    refine ⟨h1, List.nodup_cons.2 ⟨by simp, List.nodup_nil⟩, fun a ha b hb e => ?_⟩
    rw [List.mem_singleton.1 hb] at e
    exact h2 (e ▸ ha)
theorem nod_stop {α : Type} {l : List α} {k : Nat} (hk : k < l.length) (h : l[k] ∈ l.take k) : ¬ l.Nodup := fun hn =>
  ((nod_take hk).1 (hn.sublist (List.take_sublist _ _))).2 h
set_option maxRecDepth 100000 in
set_option maxHeartbeats 2000000 in
theorem different65 (A : Option Addr) (n cap : Nat) (zs : List Int) (w : World) (h : Ints w A n zs) (hc9 : n ≤ cap) (hn : n ≤ 1000000) :
    Calls Try.prog 65 #[.slice A n cap] w fun e w' => e = .returned (.bool (decide zs.Nodup)) ∧ w' = w := by
  have HN := Lib.hid h.1
  have HI := Lib.hid h
  go_enter Try.func65, Try.ntmps65
  go_wp2_with fail
  go_loopw [3, 4, 7] (fun y x i wr => ∃ k : Nat, k ≤ n ∧ i = .int .i64 k ∧ Hid ((zs.take k).Nodup) ∧ wr = w) (fun y x i _ => n - (intOf i).toNat)
  case atStart => exact ⟨0, Nat.zero_le _, rfl, Lib.hid (by rw [List.take_zero]; exact List.nodup_nil), rfl⟩
  case round =>
    obtain ⟨k, hk, rfl, Hw, rfl⟩ := hrel
    by_cases hlt : k < n
    · obtain ⟨hl, hc⟩ := h
      obtain ⟨b, o, rfl, hc2⟩ := hc (by omega)
      have c0 := hc2 k hlt
      have hkl : k < zs.length := by omega
      have Hs := Lib.hid (nod_take hkl)
      have Hf := Lib.hid (nod_stop hkl)
      rw [iAt_eq hkl] at c0
      obtain ⟨g, hg⟩ : ∃ g, zs[k] = g := ⟨_, rfl⟩
      rw [hg] at c0 Hs Hf
      have key := Lib.hid (contains62 (some ⟨b, o, none⟩) k cap (zs.take k) g wr (HI.out.take (by omega)) (by omega))
      have i0 : (0 : Int) ≤ (k : Int) := by omega
      have i1 : (k : Int) < (n : Int) := by omega
      have sl := cutv elem23_ size23_ (some ⟨b, o, none⟩) (ll := n) (ch := cap) (i := k) (by omega) wr
      clear hc hc2 hl hg hkl
      go_wp2_with fail
      refine key.out.mono ?_
      rintro en w1 ⟨rfl, rfl⟩
      clear key
      by_cases hm : g ∈ zs.take k
      · have HM := Lib.hid hm
        rw [decide_eq_true hm]
        clear hm
        go_wp2_with fail
        go_ret
        exact ⟨ret_bool (decide_eq_false (Hf.out HM.out)).symm, rfl⟩
      · have HM := Lib.hid hm
        rw [decide_eq_false hm]
        clear hm
        go_wp2_with fail
        go_roundw
        case rel => exact ⟨k + 1, by omega, by go_num, Lib.hid (Hs.out.2 ⟨Hw.out, HM.out⟩), by first | trivial | rfl⟩
        case measure => simp [intOf]; omega
    · have HD := Lib.hid (show zs.Nodup by have := Hw.out; rwa [List.take_of_length_le (by have := HN.out; omega)] at this)
      go_wp2_with fail
      go_ret
      exact ⟨ret_bool (decide_eq_true HD.out).symm, rfl⟩
set_option maxRecDepth 100000 in
set_option maxHeartbeats 2000000 in
theorem different46 (A : Option Addr) (n cap : Nat) (zs : List Rg) (w : World) (h : Rgs w A n zs) (hc9 : n ≤ cap) (hn : n ≤ 1000000) :
    Calls Try.prog 46 #[.slice A n cap] w fun e w' => e = .returned (.bool (decide zs.Nodup)) ∧ Below w.heap.size w w' := by
  have HN := Lib.hid h.1
  have HI := Lib.hid h
  clear h
  go_enter Try.func46, Try.ntmps46
  go_wp2_with fail
  go_loopw [3, 4, 7] (fun y x i wr => ∃ k : Nat, k ≤ n ∧ i = .int .i64 k ∧ Hid ((zs.take k).Nodup) ∧ Hid (Below w.heap.size w wr)) (fun y x i _ => n - (intOf i).toNat)
  case atStart => exact ⟨0, Nat.zero_le _, rfl, Lib.hid (by rw [List.take_zero]; exact List.nodup_nil), Lib.hid (Below.refl _ _)⟩
  case round =>
    obtain ⟨k, hk, rfl, Hw, HBl⟩ := hrel
    obtain ⟨wk, rfl⟩ : ∃ wk, wk = wr := ⟨_, rfl⟩
    by_cases hlt : k < n
    · obtain ⟨hl, hc⟩ := HI.out.below HBl.out (Nat.le_refl _)
      obtain ⟨b, o, rfl, hc2⟩ := hc (by omega)
      obtain ⟨c0, c1⟩ := hc2 k hlt
      have hkl : k < zs.length := by omega
      have Hs := Lib.hid (nod_take hkl)
      have Hf := Lib.hid (nod_stop hkl)
      rw [gAt_eq hkl] at c0 c1
      obtain ⟨g, hg⟩ : ∃ g, zs[k] = g := ⟨_, rfl⟩
      rw [hg] at c0 c1 Hs Hf
      obtain ⟨gl, gh⟩ := g
      simp only at c0 c1
      have hb1 := below_alloc_ wk (.cells #[.int .i64 gl, .int .i64 gh] 55)
      have hr1 := heap_alloc_new_ wk (.cells #[.int .i64 gl, .int .i64 gh] 55)
      have SL := Lib.hid (fun W => cutv elem22_ size22_ (some ⟨b, o, none⟩) (ll := n) (ch := cap) (i := k) (by omega) W)
      have i0 : (0 : Int) ≤ (k : Int) := by omega
      have i1 : (k : Int) < (n : Int) := by omega
      clear hc hc2 hl hg hkl
      go_wp2_with fail
      obtain ⟨V, hV⟩ : ∃ V, wk.alloc (.cells #[.int .i64 gl, .int .i64 gh] 55) = V := ⟨_, rfl⟩
      obtain ⟨P, hP⟩ : ∃ P, wk.heap.size = P := ⟨_, rfl⟩
      rw [hV] at hb1 hr1 ⊢
      have HB1 := Lib.hid (HBl.out.trans (hb1.mono HBl.out.size))
      rw [hP] at hr1 ⊢
      have HK := Lib.hid (HI.out.below HB1.out (Nat.le_refl _))
      have x0 : V.cell? ⟨P, 0, none⟩ = some (.int .i64 gl) := by rw [cell_row hr1]; rfl
      have x1 : V.cell? ⟨P, 1, none⟩ = some (.int .i64 gh) := by rw [cell_row hr1]; rfl
      obtain ⟨mm, hmm⟩ : ∃ mm, decide ((⟨gl, gh⟩ : Rg) ∈ zs.take k) = mm := ⟨_, rfl⟩
      have HM := Lib.hid hmm
      clear hb1 hr1 hV hP hmm c0 c1
      refine wp_region_held_drew (S := fun w2 => Below V.heap.size V w2) (by kernel_rfl) (drew_b _ _) (fun hS0 => ?_)
      refine wpAnyH_take (i := 0) (oi := { dst := some 12, op := Go.Op.move (Go.Operand.tmp 0), type := 22, pos := "number.go:35", after := #[], guard := none }) (v := .slice (some ⟨b, o, none⟩) n cap) rfl (by kernel_rfl) (by kernel_rfl) (by kernel_rfl) (fun _ _ _ h => h) (Or.inl ⟨by rfl, by intro w2 hSw; (try dsimp only at hSw); go_simp⟩) hS0 ?_
      try simp only [Act.put, List.setIfInBounds_toArray, List.set_cons_zero, List.set_cons_succ]
      refine wpAnyH_take (i := 1) (oi := { dst := some 13, op := Go.Op.move (Go.Operand.tmp 3), type := 3, pos := "number.go:35", after := #[], guard := none }) (v := .int .i64 (k : Int)) rfl (by kernel_rfl) (by kernel_rfl) (by kernel_rfl) (fun _ _ _ h => h) (Or.inl ⟨by rfl, by intro w2 hSw; (try dsimp only at hSw); go_simp⟩) hS0 ?_
      try simp only [Act.put, List.setIfInBounds_toArray, List.set_cons_zero, List.set_cons_succ]
      refine wpAnyH_take (i := 2) (oi := { dst := some 14, op := Go.Op.slice 22 (Go.Operand.tmp 12) none (some (Go.Operand.tmp 13)) none, type := 22, pos := "number.go:35", after := #[{ on := 0, ground := Go.Ground.data }, { on := 1, ground := Go.Ground.data }], guard := none }) (v := .slice (some ⟨b, o, none⟩) k cap) rfl (by kernel_rfl) (by kernel_rfl) (by kernel_rfl) (fun _ _ _ h => h) (Or.inl ⟨by rfl, by intro w2 hSw; (try dsimp only at hSw); have sl := SL.out w2; go_simp⟩) hS0 ?_
      try simp only [Act.put, List.setIfInBounds_toArray, List.set_cons_zero, List.set_cons_succ]
      refine wpAnyH_take (i := 3) (oi := { dst := some 15, op := Go.Op.load 55 (Go.Operand.tmp 4), type := 55, pos := "number.go:35", after := #[], guard := none }) (v := .agg #[.int .i64 gl, .int .i64 gh]) rfl (by kernel_rfl) (by kernel_rfl) (by kernel_rfl) (fun _ _ _ h => h) (Or.inl ⟨by rfl, by intro w2 hSw; (try dsimp only at hSw); have e0 := (hSw.cell (p := _) (lt_of_cell x0)).trans x0; have e1 := (hSw.cell (p := _) (lt_of_cell x1)).trans x1; go_simp⟩) hS0 ?_
      try simp only [Act.put, List.setIfInBounds_toArray, List.set_cons_zero, List.set_cons_succ]
      refine wpAnyH_ready (rs := [4]) (by kernel_rfl) (by simp) ?_
      refine AllReadyH.cons (o := { dst := some 16, op := Go.Op.call { callee := Go.Callee.value (Go.Operand.func 64), args := #[Go.Operand.tmp 14, Go.Operand.tmp 15], argTypes := #[22, 55] }, type := 4, pos := "number.go:35", after := #[{ on := 2, ground := Go.Ground.data }, { on := 3, ground := Go.Ground.data }], guard := none }) rfl (fun K2 hK => ?_) AllReadyH.nil
      go_simp
      refine (contains64 (some ⟨b, o, none⟩) k cap (zs.take k) gl gh _ ((HK.out.below hS0 (Nat.le_refl _)).take (by omega)) (by omega)).mono ?_
      rintro e9 V1 ⟨rfl, hb9⟩
      rw [HM.out]
      (try go_simp)
      refine hK.out _ _ (hS0.trans (hb9.mono hS0.size)) (fun hS1 => ?_)
      clear hK K2 hb9
      try simp only [Act.put, List.setIfInBounds_toArray, List.set_cons_zero, List.set_cons_succ]
      refine wpAnyH_done (by kernel_rfl) ?_ _
      have HB2 := Lib.hid (HB1.out.trans (hS1.mono HB1.out.size))
      clear hS0 hS1 x0 x1
      cases mm with
      | true =>
        go_wp2_with fail
        go_ret
        exact ⟨ret_bool (decide_eq_false (Hf.out (of_decide_eq_true HM.out))).symm, HB2.out⟩
      | false =>
        go_wp2_with fail
        go_roundw
        case rel => exact ⟨k + 1, by omega, by go_num, Lib.hid (Hs.out.2 ⟨Hw.out, of_decide_eq_false HM.out⟩), HB2⟩
        case measure => simp [intOf]; omega
    · have HD := Lib.hid (show zs.Nodup by have := Hw.out; rwa [List.take_of_length_le (by have := HN.out; omega)] at this)
      go_wp2_with fail
      go_ret
      exact ⟨ret_bool (decide_eq_true HD.out).symm, HBl.out⟩
end Go.Proofs.Ytnodkgejggnehaa

namespace Go.Proofs.Ytnodkgejggnehaa
set_option linter.unusedSimpArgs false
set_option linter.unusedVariables false
open Go.RowKit Go.Shelf
def flatI (l : List Int) : List Value := l.map (Value.int .i64)
theorem flatI_snoc (l : List Int) (x : Int) : flatI (l ++ [x]) = flatI l ++ [.int .i64 x] := by simp [flatI]
theorem flatI_len (l : List Int) : (flatI l).length = l.length := by simp [flatI]
theorem ints_own {W : World} {e : TypeId} {v : Value} {l : List Int} {n : Nat} (hl : l.length = n) (h : W.ownsRow 0 e 1 v n (flatI l)) : ∃ C cap, v = .slice C n cap ∧ n ≤ cap ∧ Ints W C n l ∧ (∀ b o, C = some ⟨b, o, none⟩ → v.ownBlock = some b ∧ o = 0) := by
  subst hl
  rcases h.2 with ⟨rfl, h0⟩ | ⟨g, cap, cur, rfl, hb, hg, hc, _, hsz, htake⟩
  · rw [h0]
    exact ⟨none, 0, rfl, Nat.le_refl _, ⟨h0, by omega⟩, by intro b o e; cases e⟩
  · refine ⟨_, cap, rfl, hc, ⟨rfl, fun _ => ⟨g, 0, rfl, fun j hj => ?_⟩⟩, by rintro b o e; cases e; exact ⟨rfl, rfl⟩⟩
    rw [Nat.zero_add, cell_row hg, ← Array.getElem?_toList, ← List.getElem?_take_of_lt (show j < l.length * 1 by omega), htake]
    simp [flatI, iAt_eq hj, hj]
theorem info3_ : (Try.prog.info? 3).map (fun i => (i.zero, i.size, i.bytes)) = some (some (.int .i64 0), 1, 8) := by kernel_rfl
/-- One number more. -/
theorem app_int {W : World} {v : Value} {n : Nat} {xs : List Int} (h : W.ownsRow 0 3 1 v n (flatI xs)) (x : Int) (hn : n ≤ 100000) :
    ∃ C c W', runA Try.prog 23 v (.slice (some ⟨W.heap.size, 0, none⟩) 1 1) (W.alloc (.cells #[.int .i64 x] 3)) = .ok (.value (.slice C (n + 1) c)) W' ∧ W'.ownsRow 0 3 1 (.slice C (n + 1) c) (n + 1) (flatI (xs ++ [x])) ∧ Keeps (fun k => v.ownBlock = some k) W W' ∧
      ∀ g, (Value.slice C (n + 1) c).ownBlock = some g → v.ownBlock = some g ∨ (W.heap.size ≤ g ∧ g < W'.heap.size) := by
  have hk := keep_alloc (fun _ => False) W (.cells #[.int .i64 x] 3)
  obtain ⟨v', W', a1, a2, a3, a4⟩ := app_one (n := n) Try.underlying23 info3_ rfl (by omega) (by omega) (own_keep h hk (fun _ _ e => e)) (vals := [.int .i64 x]) rfl (heap_alloc_new_ W (.cells #[.int .i64 x] 3)) (by simp [Value.oneCell']) (by omega)
  obtain ⟨C, c, rfl⟩ : ∃ C c, v' = .slice C (n + 1) c := by
    rcases a2.2 with ⟨e, e2⟩ | ⟨g, cp, cur, e, _⟩
    · omega
    · exact ⟨_, _, e⟩
  rw [← flatI_snoc] at a2
  refine ⟨C, c, W', run_app a1, a2, hk.none.trans a3, fun g e => ?_⟩
  have hs := hk.size
  have hlt := own_lt a2 g e
  rcases a4 with e' | ⟨e', _⟩
  · rw [e'] at e; exact .inl e
  · rw [e'] at e; have := Option.some.inj e; exact .inr ⟨by omega, hlt⟩
section
attribute [local go_sem ↓] exec_app at_app
attribute [local go_sem] Oper.semAt_some
/-- The left and the right items of some links. -/
def lfS (zs : List Rg) (ns : List Int) : List Int := ns.map fun nm => (gAt zs nm.toNat).lo
def rtS (zs : List Rg) (ns : List Int) : List Int := ns.map fun nm => (gAt zs nm.toNat).hi
theorem lfS_succ {zs : List Rg} {ns : List Int} {k : Nat} (hk : k < ns.length) : lfS zs (ns.take (k + 1)) = lfS zs (ns.take k) ++ [(gAt zs (iAt ns k).toNat).lo] := by
  unfold lfS
  rw [List.take_succ_eq_append_getElem hk, List.map_append, iAt_eq hk]; rfl
theorem rtS_succ {zs : List Rg} {ns : List Int} {k : Nat} (hk : k < ns.length) : rtS zs (ns.take (k + 1)) = rtS zs (ns.take k) ++ [(gAt zs (iAt ns k).toNat).hi] := by
  unfold rtS
  rw [List.take_succ_eq_append_getElem hk, List.map_append, iAt_eq hk]; rfl
/-- No two of some links have an item in common. -/
def apB (zs : List Rg) (ns : List Int) : Bool := decide (lfS zs ns).Nodup && decide (rtS zs ns).Nodup
/-- Two rows that grow beside each other. -/
def Two (w0 W : World) (a b : Value) (k : Nat) (xs ys : List Int) : Prop := W.ownsRow 0 3 1 a k (flatI xs) ∧ W.ownsRow 0 3 1 b k (flatI ys) ∧ (∀ g, a.ownBlock = some g → w0.heap.size ≤ g ∧ b.ownBlock ≠ some g) ∧ (∀ g, b.ownBlock = some g → w0.heap.size ≤ g) ∧ Below w0.heap.size w0 W
theorem Two.nil (w : World) : Two w w (.slice none 0 0) (.slice none 0 0) 0 [] [] := ⟨⟨rfl, .inl ⟨rfl, rfl⟩⟩, ⟨rfl, .inl ⟨rfl, rfl⟩⟩, fun g e => (by cases e), fun g e => (by cases e), Below.refl _ _⟩
theorem Two.snoc {w0 W : World} {a b : Value} {k : Nat} {xs ys : List Int} (h : Two w0 W a b k xs ys) (x y : Int) (hk : k ≤ 100000) :
    ∃ C c W1 D d W2, runA Try.prog 23 a (.slice (some ⟨W.heap.size, 0, none⟩) 1 1) (W.alloc (.cells #[.int .i64 x] 3)) = .ok (.value (.slice C (k + 1) c)) W1 ∧ Below w0.heap.size w0 W1 ∧
      runA Try.prog 23 b (.slice (some ⟨W1.heap.size, 0, none⟩) 1 1) (W1.alloc (.cells #[.int .i64 y] 3)) = .ok (.value (.slice D (k + 1) d)) W2 ∧ Two w0 W2 (.slice C (k + 1) c) (.slice D (k + 1) d) (k + 1) (xs ++ [x]) (ys ++ [y]) := by
  obtain ⟨h1, h2, h3, h4, h5⟩ := h
  obtain ⟨C, c, W1, r1, o1, k1, d1⟩ := app_int h1 x hk
  have hs := h5.size
  have b1 : Below w0.heap.size w0 W1 := h5.trans (k1.below hs (fun i hi e => by have := (h3 i e).1; omega))
  have o2 := own_keep h2 k1 (fun g e e2 => (h3 g e2).2 e)
  obtain ⟨D, d, W2, r2, o3, k2, d2⟩ := app_int o2 y hk
  have hs1 := k1.size
  have hl2 := own_lt h2
  refine ⟨C, c, W1, D, d, W2, r1, b1, r2, own_keep o1 k2 (fun g e e2 => ?_), o3, fun g e => ⟨?_, fun e2 => ?_⟩, fun g e => ?_, b1.trans (k2.below b1.size (fun i hi e => by have := h4 i e; omega))⟩
  · rcases d1 g e with e3 | e3
    · exact (h3 g e3).2 e2
    · have := hl2 g e2; omega
  · rcases d1 g e with e3 | e3
    · exact (h3 g e3).1
    · omega
  · have hg1 := own_lt o1 g e
    rcases d2 g e2 with e4 | e4
    · rcases d1 g e with e3 | e3
      · exact (h3 g e3).2 e4
      · have := hl2 g e4; omega
    · omega
  · rcases d2 g e with e3 | e3
    · exact h4 g e3
    · have := b1.size; omega
set_option maxRecDepth 100000 in
set_option maxHeartbeats 4000000 in
theorem apart47 (sl sr : Int) (A : Option Addr) (n cap : Nat) (zs : List Rg) (A2 : Option Addr) (kn kc : Nat) (A3 : Option Addr) (m mc : Nat) (ns : List Int) (w : World) (h : Rgs w A n zs) (hI : Ints w A3 m ns) (hin : ∀ j, j < m → 0 ≤ iAt ns j ∧ iAt ns j < (n : Int)) (hn : n ≤ 1000000) (hm : m ≤ 100000) :
    Calls Try.prog 47 #[.agg #[.int .i64 sl, .int .i64 sr, .slice A n cap, .slice A2 kn kc], .slice A3 m mc] w fun e w' => e = .returned (.bool (apB zs ns)) ∧ Below w.heap.size w w' := by
  have hb0 := below_alloc_ w (.cells #[.int .i64 sl, .int .i64 sr, .slice A n cap, .slice A2 kn kc] 25)
  have hr0 := heap_alloc_new_ w (.cells #[.int .i64 sl, .int .i64 sr, .slice A n cap, .slice A2 kn kc] 25)
  obtain ⟨w0, hW0⟩ : ∃ w0, w.alloc (.cells #[.int .i64 sl, .int .i64 sr, .slice A n cap, .slice A2 kn kc] 25) = w0 := ⟨_, rfl⟩
  obtain ⟨R, hR⟩ : ∃ R, w.heap.size = R := ⟨_, rfl⟩
  rw [hW0] at hb0 hr0
  rw [hR] at hr0
  have HZl := Lib.hid h.1
  have S := Lib.hid (h.below hb0 (Nat.le_refl _))
  have HNl := Lib.hid hI.1
  have Y := Lib.hid (hI.below hb0 (Nat.le_refl _))
  have Hin := Lib.hid hin
  have B := Lib.hid hb0
  have HW0 := Lib.hid hW0
  have HR := Lib.hid hR
  have hrow := Lib.hid hr0
  clear h hI hb0 hr0 hW0 hR
  go_enter Try.func47, Try.ntmps47
  go_wp2_with fail
  rw [HW0.out]
  try rw [HR.out]
  try go_wp2_with fail
  clear hin
  go_loopw [5, 6, 8, 11] (fun a b x i wr => ∃ k : Nat, k ≤ m ∧ i = .int .i64 k ∧ Hid (Two w0 wr a b k (lfS zs (ns.take k)) (rtS zs (ns.take k)))) (fun a b x i _ => m - (intOf i).toNat)
  case atStart => exact ⟨0, Nat.zero_le _, rfl, Lib.hid (by rw [List.take_zero]; exact Two.nil _)⟩
  case round =>
    obtain ⟨k, hk, rfl, HT⟩ := hrel
    obtain ⟨wk, rfl⟩ : ∃ wk, wk = wr := ⟨_, rfl⟩
    have HBl := Lib.hid HT.out.2.2.2.2
    by_cases hlt : k < m
    · obtain ⟨b3, o3, rfl, hc3⟩ := (Y.out.below HBl.out (Nat.le_refl _)).2 (by omega)
      have c0 := hc3 k hlt
      obtain ⟨u, hu⟩ : ∃ u : Nat, iAt ns k = (u : Int) := ⟨(iAt ns k).toNat, by have := (Hin.out k hlt).1; omega⟩
      have hun : u < n := by have := (Hin.out k hlt).2; omega
      have ls := lfS_succ (zs := zs) (ns := ns) (k := k) (by rw [HNl.out]; exact hlt)
      have rs := rtS_succ (zs := zs) (ns := ns) (k := k) (by rw [HNl.out]; exact hlt)
      rw [hu, Int.toNat_natCast] at ls rs
      rw [hu] at c0
      obtain ⟨bz, oz, rfl, hcz⟩ := (S.out.below HBl.out (Nat.le_refl _)).2 (by omega)
      obtain ⟨z0, z1⟩ := hcz u hun
      obtain ⟨gl, hgl⟩ : ∃ gl, (gAt zs u).lo = gl := ⟨_, rfl⟩
      obtain ⟨gh, hgh⟩ : ∃ gh, (gAt zs u).hi = gh := ⟨_, rfl⟩
      rw [hgl] at ls z0
      rw [hgh] at rs z1
      obtain ⟨C, c, W1, D, d, W2, r1, hb1, r2, ht⟩ := HT.out.snoc gl gh (by omega)
      rw [← ls, ← rs] at ht
      have HT2 := Lib.hid ht
      have hrk := (HBl.out.block R (lt_of_block hrow.out)).trans hrow.out
      have s2 : wk.cell? ⟨R, 2, none⟩ = some (.slice (some ⟨bz, oz, none⟩) n cap) := by rw [cell_row hrk]; rfl
      have hr1 := (hb1.block R (lt_of_block hrow.out)).trans hrow.out
      have s3 : W1.cell? ⟨R, 2, none⟩ = some (.slice (some ⟨bz, oz, none⟩) n cap) := by rw [cell_row hr1]; rfl
      obtain ⟨bz', oz', e, hcz'⟩ := (S.out.below hb1 (Nat.le_refl _)).2 (by omega)
      cases e
      have z3 := (hcz' u hun).2
      rw [hgh] at z3
      have i0 : (0 : Int) ≤ (k : Int) := by omega
      have i1 : (k : Int) < (m : Int) := by omega
      have i2 : (0 : Int) ≤ (u : Int) := by omega
      have i3 : (u : Int) < (n : Int) := by omega
      clear hc3 hu hcz hcz' hgl hgh ls rs hb1 ht hrk hr1 z1
      go_wp2_with fail
      go_roundw
      case rel => exact ⟨k + 1, by omega, by go_num, HT2⟩
      case measure => simp [intOf]; omega
    · obtain rfl : k = m := by omega
      obtain ⟨o1, o2, -, -, -⟩ := HT.out
      rw [List.take_of_length_le (by rw [HNl.out]; exact Nat.le_refl _)] at o1 o2
      obtain ⟨C, c, rfl, hc, hi, -⟩ := ints_own (by unfold lfS; rw [List.length_map]; exact HNl.out) o1
      obtain ⟨D, d, rfl, hd, hj, -⟩ := ints_own (by unfold rtS; rw [List.length_map]; exact HNl.out) o2
      have K1 := Lib.hid (different65 C k c (lfS zs ns) wk hi hc (by omega))
      have K2 := Lib.hid (different65 D k d (rtS zs ns) wk hj hd (by omega))
      have HB2 := Lib.hid (B.out.trans (HBl.out.mono B.out.size))
      obtain ⟨d1, hd1⟩ : ∃ d1, decide (lfS zs ns).Nodup = d1 := ⟨_, rfl⟩
      obtain ⟨d2, hd2⟩ : ∃ d2, decide (rtS zs ns).Nodup = d2 := ⟨_, rfl⟩
      rw [hd1] at K1
      rw [hd2] at K2
      have HAp := Lib.hid (show apB zs ns = (d1 && d2) by unfold apB; rw [hd1, hd2])
      clear o1 o2 hc hi hd hj hd1 hd2
      go_wp2_with fail
      refine K1.out.mono ?_
      rintro en w1 ⟨rfl, rfl⟩
      cases d1 with
      | false =>
        go_wp2_with fail
        go_ret
        exact ⟨ret_bool (by rw [HAp.out]; rfl), HB2.out⟩
      | true =>
        go_wp2_with fail
        refine K2.out.mono ?_
        rintro en w1 ⟨rfl, rfl⟩
        go_wp2_with fail
        go_ret
        exact ⟨ret_bool (by rw [HAp.out, Bool.true_and]), HB2.out⟩
end
end Go.Proofs.Ytnodkgejggnehaa
