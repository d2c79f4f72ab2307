/- Stage 2: the join with a number (nth53). -/
import Derived.Test.YtfmcfalghbaanaaOps
namespace Go.Proofs.Ytfmcfalghbaanaa
set_option linter.unusedSimpArgs false
set_option linter.unusedVariables false
open Go.RowKit Go.Shelf
attribute [local go_sem] Oper.semAt_some
attribute [local go_sem ↓] exec_load78
attribute [local go_sem ↓] at_load78

/-- Which blocks nth changes. -/
def NtM (B M : Nat) (j : Nat) : Prop := j = B + 1 ∨ j = B + 1 + 1 ∨ j = B + 1 + 1 + 1 ∨ j = B + 1 + 1 + 1 + 1 ∨ j = M
/-- The first cells of a row are these steps. -/
def RowS (R : Array Value) (g : List Nat) : Prop := R.size = 16 ∧ ∀ j (hj : j < g.length), R[j * 2]? = some (.int .i64 ((g[j] / 2 : Nat) : Int)) ∧ R[j * 2 + 1]? = some (.bool (decide (g[j] % 2 = 1)))
/-- What lies in the cells of nth. -/
structure NtC (B M n rem k bud : Nat) (T : Nat → Nat → Bool) (cs g : List Nat) (a : Sta) (W0 W : World) : Prop where
  num : W.heap[B + 1]? = some (.cells #[.int .i64 ((rem : Nat) : Int)] 2 (0, 0))
  row : ∃ R, W.heap[B + 1 + 1]? = some (.cells R 123 (0, 0)) ∧ RowS R g
  grown : W.heap[B + 1 + 1 + 1]? = some (.cells #[.slice (some ⟨B + 1 + 1, 0, none⟩) k n] 29 (0, 0))
  at_ : StaB W (B + 1 + 1 + 1 + 1) a
  memo : Memo W M bud T cs n
  keep : Keeps (NtM B M) W0 W
theorem NtC.keepD {B M n rem k bud B0 : Nat} {T : Nat → Nat → Bool} {cs g : List Nat} {a : Sta} {W0 W W' : World} (h : NtC B M n rem k bud T cs g a W0 W) (hB : B + 5 ≤ B0) (hM : M < B0) (hW : W0.heap.size ≤ B0) (hK : Keeps (fun j => B0 ≤ j) W W') : NtC B M n rem k bud T cs g a W0 W' := by
  obtain ⟨R, r1, r2⟩ := h.row
  exact ⟨(hK.block _ (lt_of_block h.num) (by omega)).trans h.num, ⟨R, (hK.block _ (lt_of_block r1) (by omega)).trans r1, r2⟩, (hK.block _ (lt_of_block h.grown) (by omega)).trans h.grown, h.at_.keep hK (by omega), h.memo.keep hK (by omega), keeps_abides hW _ _ h.keep hK⟩
/-- What steps so far say of a number. -/
structure NtG (n num k base rem : Nat) (T : Nat → Nat → Bool) (cs g : List Nat) (a : Sta) : Prop where
  le : k ≤ n
  len : g.length = k
  way : IsWay T cs ⟨0, 0⟩ g
  st : a = runS ⟨0, 0⟩ g
  at_ : AtJ T cs n g (n - k) a base
  num : num = base + rem
  lt : rem < (ways T cs (n - k) a).length
def NtJ (B M n rem k mm : Nat) (T : Nat → Nat → Bool) (cs g : List Nat) (a : Sta) (W5 : World) (pre : List Sta) (W : World) : Prop :=
  ∃ r, r + (pre.map (cntA T cs n)).sum = rem ∧ NtC B M n r k (mm + pre.length * 17 ^ 9) T cs g a W5 W
def NtX (B M n rem k mm : Nat) (T : Nat → Nat → Bool) (cs g : List Nat) (a : Sta) (W5 : World) (c : Code) (pre : List Sta) (W : World) : Prop :=
  c = .exit 1 ∧ ∃ pre' b r, pre = pre' ++ [b] ∧ r + (pre'.map (cntA T cs n)).sum = rem ∧ r < cntA T cs n b ∧ NtC B M n r (k + 1) (mm + (pre'.length + 1) * 17 ^ 9) T cs (g ++ [b.last]) b W5 W
theorem NtJ.abides {B M n rem k mm B0 : Nat} {T : Nat → Nat → Bool} {cs g : List Nat} {a : Sta} {W5 : World} {pre : List Sta} (h1 : B + 5 ≤ B0) (h3 : M < B0) (h4 : W5.heap.size ≤ B0) : Abides B0 (NtJ B M n rem k mm T cs g a W5 pre) := fun A C h hK => by
  obtain ⟨r, hr, hc⟩ := h
  exact ⟨r, hr, hc.keepD h1 h3 h4 hK⟩
theorem NtX.abides {B M n rem k mm B0 : Nat} {T : Nat → Nat → Bool} {cs g : List Nat} {a : Sta} {W5 : World} {c : Code} {pre : List Sta} (h1 : B + 5 ≤ B0) (h3 : M < B0) (h4 : W5.heap.size ≤ B0) : Abides B0 (NtX B M n rem k mm T cs g a W5 c pre) := fun A C h hK => by
  obtain ⟨hc, pre', b, r, e1, e2, e3, e4⟩ := h
  exact ⟨hc, pre', b, r, e1, e2, e3, e4.keepD h1 h3 h4 hK⟩
/-- A state that is reached: its pieces and its last step are small. -/
theorem way_small {T : Nat → Nat → Bool} {ps : List Pc} {n : Nat} (hps : ps.length = n) (hn : n ≤ 8) {g : List Nat} (h : IsWay T (codesL ps) ⟨0, 0⟩ g) : (runS ⟨0, 0⟩ g).pcs < 2 ^ n ∧ (runS ⟨0, 0⟩ g).last < 16 ∧ left n (runS ⟨0, 0⟩ g) + g.length = n := by
  have hco := codes_ok ps
  rw [hps] at hco
  refine ⟨run_lt hco _ ⟨0, 0⟩ (Nat.two_pow_pos n) h, ?_, ?_⟩
  · rcases List.eq_nil_or_concat g with rfl | ⟨l0, y, rfl⟩
    · show 0 < 16; omega
    · rw [List.concat_eq_append] at h ⊢
      have h1 := (way_append T (codesL ps) l0 [y] _).1 h
      have h2 := hco y h1.2.1
      have h3 : (runS ⟨0, 0⟩ (l0 ++ [y])).last = y := by simp [runS, goS]
      omega
  · have h2 := run_left hco _ _ h
    rw [left_start] at h2
    exact h2
theorem rowS_append {R : Array Value} {g : List Nat} {s p : Nat} {t : Bool} (h : RowS R g) (hg : g.length < 8) (hs : s = if t then 2 * p + 1 else 2 * p) : RowS ((R.setIfInBounds (g.length * 2) (.int .i64 (p : Int))).setIfInBounds (g.length * 2 + 1) (.bool t)) (g ++ [s]) := by
  refine ⟨by simp [h.1], fun j hj => ?_⟩
  have hsz := h.1
  have hp : s / 2 = p ∧ decide (s % 2 = 1) = t := by
    subst hs
    cases t
    · rw [if_neg (by simp)]; exact ⟨by omega, decide_eq_false (by omega)⟩
    · rw [if_pos rfl]; exact ⟨by omega, decide_eq_true (by omega)⟩
  rw [List.length_append, List.length_singleton] at hj
  by_cases hjl : j < g.length
  · obtain ⟨h1, h2⟩ := h.2 j hjl
    rw [List.getElem_append_left hjl]
    refine ⟨?_, ?_⟩
    · rw [Array.getElem?_setIfInBounds_ne (by omega), Array.getElem?_setIfInBounds_ne (by omega)]; exact h1
    · rw [Array.getElem?_setIfInBounds_ne (by omega), Array.getElem?_setIfInBounds_ne (by omega)]; exact h2
  · obtain rfl : j = g.length := by omega
    have h3 : (g ++ [s])[g.length] = s := by simp
    rw [h3, hp.1, hp.2]
    refine ⟨?_, ?_⟩
    · rw [Array.getElem?_setIfInBounds_ne (by omega), Array.getElem?_setIfInBounds_self_of_lt (by omega)]
    · rw [Array.getElem?_setIfInBounds_self_of_lt (by simp; omega)]
theorem store2 (B o : Nat) (p : Int) (t : Bool) (W : World) (hc : ∀ j, j < 2 → (W.cell? ⟨B, o + j, none⟩).isSome = true) (hf : ∀ j, j < 2 → W.frozen? ⟨B, o + j, none⟩ = false) :
    (storeCells ⟨B, o, none⟩ [.int .i64 p, .bool t] 0).run Try.prog W = .ok () ((W.setCell ⟨B, o, none⟩ (.int .i64 p)).setCell ⟨B, o + 1, none⟩ (.bool t)) := by
  have h := run_storeCells_cells (P := Try.prog) B o [.int .i64 p, .bool t] 0 W (by simpa using hc) (by simpa using hf) (by simp [Value.oneCell'])
  rw [h]
  simp [World.setCells]
theorem Marks.keep2 {lo : Nat} {Mut : Nat → Prop} {W W' : World} {ds : List Deferred} (h : Marks lo W ds) (hK : Keeps Mut W W') (hm : ∀ k, Mut k → W.heap[k]? ≠ some (.deferred (some []))) : Marks lo W' ds := by
  induction ds with
  | nil => trivial
  | cons d ds ih =>
    obtain ⟨⟨D, h1, h2, h3, h4, h5⟩, h6⟩ := h
    exact ⟨⟨D, h1, h2, Nat.lt_of_lt_of_le h3 hK.size, (hK.block D h3 (fun e => hm D e h4)).trans h4, h5⟩, ih h6⟩

set_option maxRecDepth 100000 in
set_option maxHeartbeats 4000000 in
theorem nth53 (X : Array Value) (A : Option Addr) (n cap : Nat) (off lo hi : Int) (T : Nat → Nat → Bool) (M : Nat) (ps : List Pc) (hX : Brd X A n cap off lo hi T M) (hn1 : 1 ≤ n) (hn : n ≤ 8) (num nn : Nat) (w : World)
    (hp : Pcs w A n ps) (hm : Memo w M nn T (codesL ps) n) (hnn : nn + 128 * 17 ^ 9 ≤ 1000000000000000000) (ls : List Nat) (hnum : (joins T (codesL ps) n)[num]? = some ls) :
    Calls Try.prog 53 #[.agg X, .int .i64 (num : Int)] w fun e w' => ∃ C, e = .returned (.slice (some ⟨C, 0, none⟩) n n) ∧ w.heap.size ≤ C ∧ Sts w' (some ⟨C, 0, none⟩) n (ls.map stC) ∧ Memo w' M (nn + 128 * 17 ^ 9) T (codesL ps) n ∧ Keeps (fun j => j = M) w w' := by
  have hMw := hm.lt
  have hsz := hX.size
  have hsl := fun W => slice123 (w.heap.size + 1 + 1) n hn W
  have a0 : ((((w.alloc (.cells X 78)).alloc (.cells #[.int .i64 (num : Int)] 2)).alloc (.cells #[.int .i64 0, .bool false, .int .i64 0, .bool false, .int .i64 0, .bool false, .int .i64 0, .bool false, .int .i64 0, .bool false, .int .i64 0, .bool false, .int .i64 0, .bool false, .int .i64 0, .bool false] 123))).cell? ⟨w.heap.size, 0, none⟩ = some (.slice A n cap) := by rw [cell_row (hal_old (hal_old (heap_alloc_new_ _ _)))]; exact hX.c0
  have Hp := Lib.hid hp
  have Hm := Lib.hid hm
  have Hnn := Lib.hid hnn
  have Hnum := Lib.hid hnum
  have HX := Lib.hid hX
  clear hp hm hnn hnum hX
  refine (callsIn_wide (n := 5)).1 ?_
  refine callsIn_of_wp_marks Try.func53 rfl trivial ?_ rfl
  simp only [Try.ntmps53, List.size_toArray, List.length_cons, List.length_nil, Nat.reduceAdd, Nat.reduceSub, Array.replicate_succ, Array.replicate_zero, List.push_toArray, List.append_toArray, List.nil_append, List.cons_append]
  gi_wp2_with fail
  refine wpIn_scope_ ?_
  gi_wp2_with fail
  refine wpIn_label ?_
  gi_wp2_with fail
  have E0 := Lib.hid (show (((((w.alloc (.cells X 78)).alloc (.cells #[.int .i64 (num : Int)] 2)).alloc (.cells #[.int .i64 0, .bool false, .int .i64 0, .bool false, .int .i64 0, .bool false, .int .i64 0, .bool false, .int .i64 0, .bool false, .int .i64 0, .bool false, .int .i64 0, .bool false, .int .i64 0, .bool false] 123)).alloc (.cells #[.slice (some ⟨w.heap.size + 1 + 1, 0, none⟩) 0 n] 29)).alloc (.cells #[.int .i64 0, .bool false, .int .u64 0] 91)).heap[w.heap.size]? = some (.cells X 78 (0, 0)) from hal_old (hal_old (hal_old (hal_old (heap_alloc_new_ _ _)))))
  have E1 := Lib.hid (show (((((w.alloc (.cells X 78)).alloc (.cells #[.int .i64 (num : Int)] 2)).alloc (.cells #[.int .i64 0, .bool false, .int .i64 0, .bool false, .int .i64 0, .bool false, .int .i64 0, .bool false, .int .i64 0, .bool false, .int .i64 0, .bool false, .int .i64 0, .bool false, .int .i64 0, .bool false] 123)).alloc (.cells #[.slice (some ⟨w.heap.size + 1 + 1, 0, none⟩) 0 n] 29)).alloc (.cells #[.int .i64 0, .bool false, .int .u64 0] 91)).heap[w.heap.size + 1]? = some (.cells #[.int .i64 (num : Int)] 2 (0, 0)) from hal_old (hal_old (hal_old (hal_new (by simp)))))
  have E2 := Lib.hid (show (((((w.alloc (.cells X 78)).alloc (.cells #[.int .i64 (num : Int)] 2)).alloc (.cells #[.int .i64 0, .bool false, .int .i64 0, .bool false, .int .i64 0, .bool false, .int .i64 0, .bool false, .int .i64 0, .bool false, .int .i64 0, .bool false, .int .i64 0, .bool false, .int .i64 0, .bool false] 123)).alloc (.cells #[.slice (some ⟨w.heap.size + 1 + 1, 0, none⟩) 0 n] 29)).alloc (.cells #[.int .i64 0, .bool false, .int .u64 0] 91)).heap[w.heap.size + 1 + 1]? = some (.cells #[.int .i64 0, .bool false, .int .i64 0, .bool false, .int .i64 0, .bool false, .int .i64 0, .bool false, .int .i64 0, .bool false, .int .i64 0, .bool false, .int .i64 0, .bool false, .int .i64 0, .bool false] 123 (0, 0)) from hal_old (hal_old (hal_new (by simp))))
  have E3 := Lib.hid (show (((((w.alloc (.cells X 78)).alloc (.cells #[.int .i64 (num : Int)] 2)).alloc (.cells #[.int .i64 0, .bool false, .int .i64 0, .bool false, .int .i64 0, .bool false, .int .i64 0, .bool false, .int .i64 0, .bool false, .int .i64 0, .bool false, .int .i64 0, .bool false, .int .i64 0, .bool false] 123)).alloc (.cells #[.slice (some ⟨w.heap.size + 1 + 1, 0, none⟩) 0 n] 29)).alloc (.cells #[.int .i64 0, .bool false, .int .u64 0] 91)).heap[w.heap.size + 1 + 1 + 1]? = some (.cells #[.slice (some ⟨w.heap.size + 1 + 1, 0, none⟩) 0 n] 29 (0, 0)) from hal_old (hal_new (by simp)))
  have E4 := Lib.hid (show (((((w.alloc (.cells X 78)).alloc (.cells #[.int .i64 (num : Int)] 2)).alloc (.cells #[.int .i64 0, .bool false, .int .i64 0, .bool false, .int .i64 0, .bool false, .int .i64 0, .bool false, .int .i64 0, .bool false, .int .i64 0, .bool false, .int .i64 0, .bool false, .int .i64 0, .bool false] 123)).alloc (.cells #[.slice (some ⟨w.heap.size + 1 + 1, 0, none⟩) 0 n] 29)).alloc (.cells #[.int .i64 0, .bool false, .int .u64 0] 91)).heap[w.heap.size + 1 + 1 + 1 + 1]? = some (.cells (staV 0 false 0) 91 (0, 0)) from hal_new (by simp))
  have K4 := Lib.hid (show Keeps (fun _ => False) w (((((w.alloc (.cells X 78)).alloc (.cells #[.int .i64 (num : Int)] 2)).alloc (.cells #[.int .i64 0, .bool false, .int .i64 0, .bool false, .int .i64 0, .bool false, .int .i64 0, .bool false, .int .i64 0, .bool false, .int .i64 0, .bool false, .int .i64 0, .bool false, .int .i64 0, .bool false] 123)).alloc (.cells #[.slice (some ⟨w.heap.size + 1 + 1, 0, none⟩) 0 n] 29)).alloc (.cells #[.int .i64 0, .bool false, .int .u64 0] 91)) from ((((keep_alloc _ _ _).trans (keep_alloc _ _ _)).trans (keep_alloc _ _ _)).trans (keep_alloc _ _ _)).trans (keep_alloc _ _ _))
  have hs4 := eq_le (show (((((w.alloc (.cells X 78)).alloc (.cells #[.int .i64 (num : Int)] 2)).alloc (.cells #[.int .i64 0, .bool false, .int .i64 0, .bool false, .int .i64 0, .bool false, .int .i64 0, .bool false, .int .i64 0, .bool false, .int .i64 0, .bool false, .int .i64 0, .bool false, .int .i64 0, .bool false] 123)).alloc (.cells #[.slice (some ⟨w.heap.size + 1 + 1, 0, none⟩) 0 n] 29)).alloc (.cells #[.int .i64 0, .bool false, .int .u64 0] 91)).heap.size = w.heap.size + 5 by simp)
  obtain ⟨W4, hW4⟩ : ∃ W4, ((((w.alloc (.cells X 78)).alloc (.cells #[.int .i64 (num : Int)] 2)).alloc (.cells #[.int .i64 0, .bool false, .int .i64 0, .bool false, .int .i64 0, .bool false, .int .i64 0, .bool false, .int .i64 0, .bool false, .int .i64 0, .bool false, .int .i64 0, .bool false, .int .i64 0, .bool false] 123)).alloc (.cells #[.slice (some ⟨w.heap.size + 1 + 1, 0, none⟩) 0 n] 29)).alloc (.cells #[.int .i64 0, .bool false, .int .u64 0] 91) = W4 := ⟨_, rfl⟩
  rw [hW4] at E0 E1 E2 E3 E4 K4 hs4 ⊢
  clear hW4 hsl a0
  have hcl : (codesL ps).length ≤ 16 := Nat.le_trans (codes_len_ ps ps.length) (by have := Hp.out.1; omega)
  have hlen := eq_le Hp.out.1
  have hAk : ∀ j, NtM w.heap.size M j → ∀ o, A ≠ some ⟨j, o, none⟩ := by
    rintro j hj o e
    have h1 := pcs_lt Hp.out (by omega) j ⟨o, e⟩
    have h2 := pcs_not_map Hp.out (by omega) Hm.out o
    rcases hj with rfl | rfl | rfl | rfl | rfl
    · omega
    · omega
    · omega
    · omega
    · exact h2 e
  have HAk := Lib.hid hAk
  clear hAk
  refine wpIn_loop (fun a W => ∃ (k : Nat) (v17 v18 v19 : Value) (ds : List Deferred), a = { tmps := #[.agg X, .int .i64 (num : Int), .pointer (some ⟨w.heap.size, 0, none⟩), .pointer (some ⟨w.heap.size + 1, 0, none⟩), .slice none 0 0, .pointer (some ⟨w.heap.size + 1 + 1, 0, none⟩), .pointer (some ⟨w.heap.size + 1 + 1 + 1, 0, none⟩), .pointer (some ⟨w.heap.size + 1 + 1 + 1 + 1, 0, none⟩), undef, undef, undef, .pointer (some ⟨w.heap.size, 0, none⟩), .pointer (some ⟨w.heap.size, 0, none⟩), .slice A n cap, .int .i64 (n : Int), .slice (some ⟨w.heap.size + 1 + 1, 0, none⟩) 0 n, .agg #[.int .i64 0, .bool false, .int .u64 0], v17, v18, v19, undef, undef, undef, undef, undef, undef, undef, undef, undef, undef, undef, undef, undef, undef, undef, undef, undef, undef, undef, undef, undef, undef, undef], defers := ds } ∧ (∃ g a base rem, NtG n num k base rem T (codesL ps) g a ∧ NtC w.heap.size M n rem k (nn + k * (16 * 17 ^ 9)) T (codesL ps) g a W4 W) ∧ Marks W4.heap.size W ds)
    (fun _ W => match W.heap[w.heap.size + 1 + 1 + 1]? with | some (.cells #[.slice _ k _] _ _) => n - k | _ => n) ?start ?round
  case start =>
    refine ⟨0, _, _, _, [], rfl, ⟨[], ⟨0, 0⟩, 0, num, ⟨Nat.zero_le _, rfl, trivial, rfl, AtJ.start _ _ _, by omega, (List.getElem?_eq_some_iff.1 Hnum.out).1⟩, ⟨E1.out, ⟨_, E2.out, rfl, by simp⟩, E3.out, ⟨0, false, E4.out, rfl⟩, ?_, Keeps.refl _ _⟩⟩, trivial⟩
    rw [Nat.zero_mul, Nat.add_zero]
    exact Hm.out.keep K4.out (fun e => e)
  case round =>
    rintro a W ⟨k, v17, v18, v19, ds, rfl, ⟨g, a, base, rem, hG, hC⟩, hD⟩
    obtain ⟨q, q', hae⟩ : ∃ q q', a = ⟨q', q⟩ := ⟨_, _, rfl⟩
    subst hae
    obtain ⟨p, t, hb6, hx⟩ := hC.at_
    have hwl : W4.heap.size ≤ W.heap.size := hC.keep.size
    have hb3 := (hC.keep.block _ (by omega) (by unfold NtM; omega)).trans E0.out
    have hb3a := hb3
    have c3 : runO Try.prog (ld 78) (.pointer (some ⟨w.heap.size, 0, none⟩)) W = .ok (.value (.agg X)) W := run_ld78 hb3 hsz
    have c60 : W.cell? ⟨w.heap.size + 1 + 1 + 1 + 1, 0, none⟩ = some (.int .i64 (p : Int)) := by rw [cell_row hb6]; rfl
    have c61 : W.cell? ⟨w.heap.size + 1 + 1 + 1 + 1, 1, none⟩ = some (.bool t) := by rw [cell_row hb6]; rfl
    have c62 : W.cell? ⟨w.heap.size + 1 + 1 + 1 + 1, 2, none⟩ = some (.int .u64 (q : Int)) := by rw [cell_row hb6]; rfl
    obtain ⟨hq, hx16, hla⟩ : q < 2 ^ n ∧ q' < 16 ∧ left n ⟨q', q⟩ + k = n := by
      have h1 := way_small Hp.out.1 hn hG.way
      rw [← hG.st, hG.len] at h1
      exact h1
    have hq256 : q < 256 := Nat.lt_of_lt_of_le hq (pow_lt_ ⟨n, by omega⟩)
    have hp8 : p < 8 := by cases t <;> simp at hx <;> omega
    obtain ⟨mm, hmm⟩ : ∃ mm, nn + k * (16 * 17 ^ 9) = mm := ⟨_, rfl⟩
    have hmb : k < n → mm + 16 * 17 ^ 9 ≤ 1000000000000000000 := fun hk => by
      have h1 := Hnn.out
      have h2 : (k + 1) * (16 * 17 ^ 9) ≤ 8 * (16 * 17 ^ 9) := Nat.mul_le_mul_right _ (by omega)
      rw [Nat.add_mul] at h2
      omega
    have HG := Lib.hid hG
    have HC := Lib.hid hC
    have HD := Lib.hid hD
    have Hx := Lib.hid hx
    have Hq := Lib.hid hq
    have Hla := Lib.hid hla
    have Hmm := Lib.hid hmm
    have Hmb := Lib.hid hmb
    have Hb3 := Lib.hid hb3
    have Hwl := Lib.hid hwl
    clear hG hC hD hx hq hla hmm hmb hb3a hb3 hb6
    gi_wp2_with fail
    clear c3 c60 c61 c62
    refine ⟨trivial, (callsIn_wide.2 (behind70 _ _ _)).mono ?_⟩
    rintro e w5 ⟨rfl, rfl⟩
    gi_wp2_with fail
    have hk5 : Keeps (fun _ => False) W ((W.alloc (.cells X 78)).alloc (.cells #[.int .i64 (p : Int), .bool t, .int .u64 (q : Int)] 91)) := (keep_alloc _ _ _).trans (keep_alloc _ _ _)
    have e8 : ((W.alloc (.cells X 78)).alloc (.cells #[.int .i64 (p : Int), .bool t, .int .u64 (q : Int)] 91)).heap[W.heap.size]? = some (.cells X 78 (0, 0)) := hal_old (heap_alloc_new_ _ _)
    have e9 : ((W.alloc (.cells X 78)).alloc (.cells #[.int .i64 (p : Int), .bool t, .int .u64 (q : Int)] 91)).heap[W.heap.size + 1]? = some (.cells (staV p t q) 91 (0, 0)) := hal_new (by simp)
    have hs5 := eq_le (show ((W.alloc (.cells X 78)).alloc (.cells #[.int .i64 (p : Int), .bool t, .int .u64 (q : Int)] 91)).heap.size = W.heap.size + 2 by simp)
    obtain ⟨W5, hW5⟩ : ∃ W5, (W.alloc (.cells X 78)).alloc (.cells #[.int .i64 (p : Int), .bool t, .int .u64 (q : Int)] 91) = W5 := ⟨_, rfl⟩
    rw [hW5] at hk5 e8 e9 hs5 ⊢
    clear hW5
    have hCm : NtC w.heap.size M n rem k mm T (codesL ps) g ⟨q', q⟩ W4 W := by rw [← Hmm.out]; exact HC.out
    have HC5 := Lib.hid (show NtC w.heap.size M n rem k mm T (codesL ps) g ⟨q', q⟩ W5 W5 from
      ⟨(hk5.block _ (lt_of_block hCm.num) (fun e => e)).trans hCm.num, hCm.row.imp (fun R h => ⟨(hk5.block _ (lt_of_block h.1) (fun e => e)).trans h.1, h.2⟩), (hk5.block _ (lt_of_block hCm.grown) (fun e => e)).trans hCm.grown, hCm.at_.keep hk5 (fun e => e), hCm.memo.keep hk5 (fun e => e), Keeps.refl _ _⟩)
    have F3 := Lib.hid ((hk5.block _ (lt_of_block Hb3.out) (fun e => e)).trans Hb3.out)
    have HK5 := Lib.hid hk5
    have hpc5 := ((Hp.out.keep K4.out (fun _ _ e => e.elim)).keep HC.out.keep (fun j o hj => HAk.out j hj o)).keep hk5 (fun _ _ e => e.elim)
    have hneed := pcs_lt Hp.out (by omega)
    clear hCm hk5
    refine wpIn_rangeL (gf := 77) (lb := #[.pointer (some ⟨W.heap.size + 1, 0, none⟩), .pointer (some ⟨W.heap.size, 0, none⟩)]) rfl (enters_of Try.func77 (by kernel_rfl) rfl) (behind_seq X A n cap off lo hi T M W.heap.size (W.heap.size + 1) p q q' t ps W5 e8 HX.out e9 hpc5 hn1 hn hq256 Hx.out hx16)
      (by rintro k (rfl | rfl | h); omega; omega; have := hneed k h; omega) (fun _ => rfl) (NtM w.heap.size M) (by
        intro j hj
        have hj2 : j < W.heap.size := by unfold NtM at hj; omega
        refine ⟨by omega, ?_⟩
        rintro (h | h | ⟨o, h⟩)
        · omega
        · omega
        · exact HAk.out j hj o h)
      (NtJ w.heap.size M n rem k mm T (codesL ps) g ⟨q', q⟩ W5) (NtX w.heap.size M n rem k mm T (codesL ps) g ⟨q', q⟩ W5) (fun pre => NtJ.abides (by omega) (by omega) (Nat.le_refl _)) (fun c pre => NtX.abides (by omega) (by omega) (Nat.le_refl _)) ?start2 ?round2 ?done2 ?stop2
    case start2 => exact ⟨rem, by simp, by simpa using HC5.out⟩
    case done2 =>
      intro D2 W9 hD2 hDW hI9 hKd
      obtain ⟨r, hr, hc9⟩ := hI9
      have hco := codes_ok ps
      rw [Hp.out.1] at hco
      obtain rfl : k = n := by
        have h0 := HG.out.le
        rcases Nat.lt_or_ge k n with h1 | h1
        · exfalso
          have h2 := HG.out.lt
          have h3 : left n ⟨q', q⟩ = (n - k - 1) + 1 := by have := Hla.out; omega
          rw [show n - k = (n - k - 1) + 1 by omega, ways_len_succ, ← cnt_sum hco h3 _ (fun b hb => hb)] at h2
          omega
        · omega
      have hrem : rem = 0 := by
        have h2 := HG.out.lt
        rw [Nat.sub_self] at h2
        simp [ways] at h2
        exact h2
      have hgl : g = ls := by
        have h1 := HG.out.at_
        rw [Nat.sub_self] at h1
        have h2 := h1.nil
        have h3 := HG.out.num
        rw [hrem, Nat.add_zero] at h3
        rw [← h3, Hnum.out] at h2
        exact (Option.some.inj h2).symm
      obtain ⟨R, hR, hRS⟩ := hc9.row
      obtain ⟨R2, hR2, hmk⟩ := make29 k hn W9
      have hg0 := hc9.grown
      have g1 : W9.cell? ⟨w.heap.size + 1 + 1 + 1, 0, none⟩ = some (.slice (some ⟨w.heap.size + 1 + 1, 0, none⟩) k k) := by rw [cell_row hg0]; rfl
      have hb9 : Keeps (fun _ => False) W9 (W9.alloc (.cells R2 28)) := keep_alloc _ _ _
      have hn9 := heap_alloc_new_ W9 (.cells R2 28)
      have hs9 := eq_le (World.size_alloc W9 (.cells R2 28))
      obtain ⟨V, hV⟩ : ∃ V, W9.alloc (.cells R2 28) = V := ⟨_, rfl⟩
      rw [hV] at hmk hb9 hn9 hs9
      clear hV
      have hgV := (hb9.block _ (lt_of_block hg0) (fun e => e)).trans hg0
      have hRV := (hb9.block _ (lt_of_block hR) (fun e => e)).trans hR
      have g2 : V.cell? ⟨w.heap.size + 1 + 1 + 1, 0, none⟩ = some (.slice (some ⟨w.heap.size + 1 + 1, 0, none⟩) k k) := by rw [cell_row hgV]; rfl
      have hwg : W9.heap.size < V.heap.size := lt_of_block hn9
      have hcl2 : (R.toList.take (k * 2)).length = k * 2 := by rw [List.length_take]; have := hRS.1; simp; omega
      have hgk := HG.out.len
      have hcp := copy29 W9.heap.size (w.heap.size + 1 + 1) k k R2 (R.toList.take (k * 2)) V hn9 hcl2 hR2 (fun j v hj => by
        have hj2 : j < k * 2 := by have := (List.getElem?_eq_some_iff.1 hj).1; omega
        rw [List.getElem?_take_of_lt hj2, Array.getElem?_toList] at hj
        rw [cell_row hRV]
        exact hj) (fun v hv => by
          obtain ⟨j, hj, rfl⟩ := List.getElem_of_mem hv
          rw [List.getElem_take]
          have hj2 : j < k * 2 := by omega
          have hj3 := hRS.2 (j / 2) (by omega)
          rcases Nat.mod_two_eq_zero_or_one j with h | h
          · have h1 := hj3.1
            rw [show j / 2 * 2 = j by omega] at h1
            obtain ⟨h2, h3⟩ := Array.getElem?_eq_some_iff.1 h1
            rw [Array.getElem_toList, h3]; rfl
          · have h1 := hj3.2
            rw [show j / 2 * 2 + 1 = j by omega] at h1
            obtain ⟨h2, h3⟩ := Array.getElem?_eq_some_iff.1 h1
            rw [Array.getElem_toList, h3]; rfl)
      have HR := Lib.hid hRS
      have HC9 := Lib.hid hc9
      have HB9 := Lib.hid hb9
      have HN9 := Lib.hid hn9
      have HKd := Lib.hid hKd
      have Hgl := Lib.hid hgl
      obtain ⟨cs, hcs⟩ : ∃ cs, R.toList.take (k * 2) = cs := ⟨_, rfl⟩
      rw [hcs] at hcp hcl2
      have Hcs := Lib.hid hcs
      have Hcl2 := Lib.hid hcl2
      clear hRS hc9 hb9 hn9 hKd hgl hcs hcl2 hR hr hg0 hgV hRV hR2 hgk
      gi_wp2_with fail
      have hnx : nexts T (codesL ps) ⟨q', q⟩ = [] := nexts_full hco ((left_zero Hq.out).1 (by have := Hla.out; omega))
      have hrow := keeps_setRow V W9.heap.size cs.toArray
      have hCr := setRow_same cs.toArray HN9.out
      obtain ⟨V2, hV2⟩ : ∃ V2, V.setRow W9.heap.size cs.toArray = V2 := ⟨_, rfl⟩
      rw [hV2] at hrow hCr ⊢
      have h5s := HK5.out.size
      have h9s := HC9.out.keep.size
      have hK9 : Keeps (NtM w.heap.size M) W W9 := HK5.out.none.trans HC9.out.keep
      have hm9 : Marks W4.heap.size W9 ({ target := .collected D2, args := #[] } :: ds) := Marks.push HD.out (HD.out.keep hK9 (by unfold NtM; intro k hk; omega)) Hwl.out (by omega) hDW HKd.out
      have hm10 : Marks W4.heap.size V2 ({ target := .collected D2, args := #[] } :: ds) := (hm9.keep HB9.out (fun _ e => e.elim)).keep2 hrow (fun j hj e => by subst hj; rw [HN9.out] at e; cases e)
      show LeavesInM Fence.wide 5 Try.prog Try.f53 _ _ _ .returning _
      refine Marks.leaves (lo := W4.heap.size) _ _ hm10 (fun W' hK' => ?_)
      have hC' : W'.heap[W9.heap.size]? = some (.cells cs.toArray 28 (0, 0)) := (hK'.block _ (lt_of_block hCr) (by rintro ⟨_, e⟩; rw [hCr] at e; cases e)).trans hCr
      have hM : M < W4.heap.size := by omega
      refine ⟨_, results_tmp rfl _ _ _, W9.heap.size, rfl, by omega, ⟨by rw [List.length_map, ← Hgl.out, HG.out.len], fun _ => ⟨W9.heap.size, 0, rfl, fun j hj => ?_⟩⟩, ?_, ?_⟩
      · have hjl : j < ls.length := by rw [← Hgl.out, HG.out.len]; exact hj
        have hrs := HR.out.2 j (by rw [HG.out.len]; exact hj)
        rw [sAt_map hjl]
        have e1 : ∀ i, i < k * 2 → W'.cell? ⟨W9.heap.size, i, none⟩ = R[i]? := fun i hi => by
          rw [cell_row hC', ← Hcs.out]
          simp only [List.getElem?_toArray]
          rw [List.getElem?_take_of_lt hi, Array.getElem?_toList]
        have hgj : g[j]'(by rw [HG.out.len]; exact hj) = ls[j] := by
          have := Hgl.out
          subst this
          rfl
        rw [hgj] at hrs
        rw [Nat.zero_add, e1 _ (by omega), e1 _ (by omega)]
        exact hrs
      · have h1 := HC9.out.memo
        rw [hnx, List.length_nil, Nat.zero_mul, Nat.add_zero] at h1
        have h2 := (((h1.keep HB9.out (fun e => e)).keep hrow (by have := HC9.out.memo.lt; omega)).keep hK' (by rintro ⟨e, _⟩; omega))
        refine h2.mono ?_
        rw [← Hmm.out]
        have h3 : k * (16 * 17 ^ 9) ≤ 8 * (16 * 17 ^ 9) := Nat.mul_le_mul_right _ hn
        omega
      · have up : ∀ {U V : World}, Keeps (NtM w.heap.size M) U V → Keeps (fun j => j = M ∨ w.heap.size ≤ j) U V := fun h => h.mono (fun j _ e => by unfold NtM at e; omega)
        have h1 := (((K4.out.none.trans (up HC.out.keep)).trans HK5.out.none).trans (up HC9.out.keep)).trans HB9.out.none
        have h2 := (h1.trans (hrow.mono (fun j _ e => by omega))).trans (hK'.mono (fun j _ e => .inr (by omega)))
        exact h2.mono (fun j hj e => by rcases e with e | e <;> omega)
    case stop2 =>
      intro D2 c pre x post W9 hD2 hDW hxs hI9 hKd
      obtain ⟨rfl, pre', b, r, hpre, hr, hrb, hc9⟩ := hI9
      obtain ⟨rfl, hbx⟩ := List.append_inj' hpre rfl
      obtain rfl : x = b := by simpa using hbx
      have HC9 := Lib.hid hc9
      have HKd := Lib.hid hKd
      have HXS := Lib.hid hxs
      have Hr := Lib.hid hr
      have Hrb := Lib.hid hrb
      clear hc9 hKd hxs hpre hbx hr hrb
      gi_wp2_with fail
      have hco := codes_ok ps
      rw [Hp.out.1] at hco
      have hxm : x ∈ nexts T (codesL ps) ⟨q', q⟩ := by rw [HXS.out]; simp
      obtain ⟨hx1, hx2, hx3⟩ := next_last hxm
      have hkn : k < n := by
        have h1 := left_go (hco _ hx2) hx3
        have := Hla.out
        omega
      have hlk : left n ⟨q', q⟩ = (n - k - 1) + 1 := by have := Hla.out; omega
      have hat := HG.out.at_
      rw [show n - k = (n - k - 1) + 1 by omega] at hat
      have hat2 := AtJ.next hco hlk hat HXS.out
      have hlx := nexts_left hco hlk hxm
      refine ⟨⟨k + 1, _, _, _, _, rfl, ⟨g ++ [x.last], x, base + (pre.map (cntA T (codesL ps) n)).sum, r, ⟨by omega, by rw [List.length_append, HG.out.len]; rfl, (way_append T _ _ _ _).2 ⟨HG.out.way, hx2, by rw [← HG.out.st]; exact hx3, trivial⟩, ?_, by rw [show n - (k + 1) = n - k - 1 by omega]; exact hat2, by have h1 := HG.out.num; have h2 := Hr.out; omega, by rw [show n - (k + 1) = n - k - 1 by omega, ← cnt_at hlx]; exact Hrb.out⟩, ⟨HC9.out.num, HC9.out.row, HC9.out.grown, HC9.out.at_, HC9.out.memo.mono ?_, (HC.out.keep.trans HK5.out.none).trans HC9.out.keep⟩⟩, ?_⟩, ?_⟩
      · rw [hx1, HG.out.st]
        unfold runS
        rw [List.foldl_append]
        rfl
      · rw [← Hmm.out, Nat.add_mul k 1]
        have hpl : pre.length + 1 ≤ 16 := by
          have h1 := congrArg List.length HXS.out
          have h2 := nexts_len (T := T) (a := ⟨q', q⟩) hcl
          rw [List.length_append, List.length_cons] at h1
          omega
        have h3 : (pre.length + 1) * 17 ^ 9 ≤ 16 * 17 ^ 9 := Nat.mul_le_mul_right _ hpl
        omega
      · have hK9 : Keeps (NtM w.heap.size M) W W9 := HK5.out.none.trans HC9.out.keep
        have := HK5.out.size
        exact Marks.push HD.out (HD.out.keep hK9 (by unfold NtM; intro k hk; omega)) Hwl.out (by omega) hDW HKd.out
      · show (match W9.heap[w.heap.size + 1 + 1 + 1]? with | some (.cells #[.slice _ k _] _ _) => n - k | _ => n) < (match W.heap[w.heap.size + 1 + 1 + 1]? with | some (.cells #[.slice _ k _] _ _) => n - k | _ => n)
        rw [HC9.out.grown, HC.out.grown]
        show n - (k + 1) < n - k
        omega
    case round2 =>
      intro l pre b post W6 hxs hl1 hl2 hr hI m
      obtain ⟨p2, t2, hE, hbl⟩ := staE_form b
      rw [hE]
      have hbm : b ∈ nexts T (codesL ps) ⟨q', q⟩ := by rw [hxs]; simp
      obtain ⟨hb1, hb2, hb3⟩ := next_last hbm
      have hs16 := codes_ok ps _ hb2
      have hbq : b.pcs < 2 ^ n := by rw [hb1]; exact go_lt Hq.out (by omega)
      have hlb : left n b + 1 = left n ⟨q', q⟩ := by rw [hb1]; exact left_go (by omega) hb3
      have hp2 : p2 < 8 := by cases t2 <;> simp at hbl <;> omega
      have hb16 : b.last < 16 := by omega
      have hprelen : pre.length + 1 ≤ 16 := by
        have h1 := congrArg List.length hxs
        have h2 := nexts_len (T := T) (a := ⟨q', q⟩) hcl
        rw [List.length_append, List.length_cons] at h1
        omega
      have hkn : k < n := by have := Hla.out; omega
      have Hby := Lib.hid (heap_alloc_new_ W6 (.cells #[.int .i64 (p2 : Int), .bool t2, .int .u64 (b.pcs : Int)] 91))
      have HXS := Lib.hid hxs
      have Hbl := Lib.hid hbl
      have Hlb := Lib.hid hlb
      have Hpl := Lib.hid hprelen
      have Hbq := Lib.hid hbq
      clear hE hxs hbm hb1 hb2 hb3 hbl hlb hprelen hbq hr
      gi_wp2_with fail
      refine ⟨keep_alloc _ _ _, ?_⟩
      intro W9 hB9 hI9
      obtain ⟨r, hr, hC9⟩ := hI9
      have G3 := Lib.hid ((hC9.keep.block _ (lt_of_block F3.out) (by unfold NtM; omega)).trans F3.out)
      have G8 := Lib.hid ((hB9.keeps.block _ (by simp) (by omega)).trans Hby.out)
      have hs9 := hB9.keeps.size
      simp only [World.size_alloc] at hs9
      have HC9 := Lib.hid hC9
      have Hr := Lib.hid hr
      have hr32 : r ≤ 4294967296 := by
        have h1 := HG.out.lt
        have h2 := ways_le T (codesL ps) hcl (n - k) ⟨q', q⟩
        have h3 : 16 ^ (n - k) ≤ 16 ^ 8 := Nat.pow_le_pow_right (by omega) (by omega)
        have h4 : 16 ^ 8 = 4294967296 := by decide
        omega
      clear hI hB9 hr hC9
      have y78 : runO Try.prog (ld 78) (.pointer (some ⟨w.heap.size, 0, none⟩)) W9 = .ok (.value (.agg X)) W9 := run_ld78 G3.out hsz
      have y0 : W9.cell? ⟨W6.heap.size, 0, none⟩ = some (.int .i64 (p2 : Int)) := by rw [cell_row G8.out]; rfl
      have y1 : W9.cell? ⟨W6.heap.size, 1, none⟩ = some (.bool t2) := by rw [cell_row G8.out]; rfl
      have y2 : W9.cell? ⟨W6.heap.size, 2, none⟩ = some (.int .u64 (b.pcs : Int)) := by rw [cell_row G8.out]; rfl
      gi_wp2_with fail
      clear y78 y0 y1 y2
      have hlb8 : left n b ≤ 8 := Nat.le_trans (left_le n b) hn
      have h17 : 17 ^ (left n b + 1) ≤ 17 ^ 9 := Nat.pow_le_pow_right (by omega) (by omega)
      have hbud : mm + pre.length * 17 ^ 9 + 17 ^ (left n b + 1) ≤ 1000000000000000000 := by
        have h1 := Hmb.out hkn
        have h2 : pre.length * 17 ^ 9 ≤ 15 * 17 ^ 9 := Nat.mul_le_mul_right _ (by have := Hpl.out; omega)
        omega
      have GP := Lib.hid (hpc5.keep HC9.out.keep (fun j o hj => HAk.out j hj o))
      refine ⟨trivial, wide_d, CallsIn.inRound l ((callsIn_wide.2 (count51 X A n cap off lo hi T M ps HX.out hn1 hn (left n b) p2 b.pcs b.last _ t2 _ GP.out HC9.out.memo hbud Hbq.out hb16 Hbl.out rfl)).mono ?_)⟩
      rintro e W10 ⟨rfl, hm10, hk10⟩
      have HM10 := Lib.hid (hm10.mono (nn' := mm + (pre.length + 1) * 17 ^ 9) (bud_step _ _ h17))
      have HK10 := Lib.hid hk10
      obtain ⟨d9, hd9⟩ : ∃ d9, cntA T (codesL ps) n b = d9 := ⟨_, rfl⟩
      have hcb2 : d9 ≤ 4294967296 := by rw [← hd9]; exact cntA_le hn hcl b
      rw [show cntA T (codesL ps) n { last := b.last, pcs := b.pcs } = d9 from hd9]
      have Hd9 := Lib.hid hd9
      have G1 := Lib.hid ((hk10.block _ (lt_of_block HC9.out.num) (by omega)).trans HC9.out.num)
      have G8b := Lib.hid ((hk10.block _ (lt_of_block G8.out) (by omega)).trans G8.out)
      clear hm10 hk10 hbud h17 hd9
      have n0 : W10.cell? ⟨w.heap.size + 1, 0, none⟩ = some (.int .i64 (r : Int)) := by rw [cell_row G1.out]; rfl
      have nf : W10.frozen? ⟨w.heap.size + 1, 0, none⟩ = false := frozen_row G1.out
      by_cases hlt : r < d9
      · have hd : decide ((r : Int) < (d9 : Int)) = true := decide_eq_true (by omega)
        have hC10 : NtC w.heap.size M n r k (mm + (pre.length + 1) * 17 ^ 9) T (codesL ps) g ⟨q', q⟩ W5 W10 :=
          ⟨G1.out, HC9.out.row.imp (fun R h => ⟨(HK10.out.block _ (lt_of_block h.1) (by omega)).trans h.1, h.2⟩), (HK10.out.block _ (lt_of_block HC9.out.grown) (by omega)).trans HC9.out.grown, HC9.out.at_.keep HK10.out (by omega), HM10.out, HC9.out.keep.trans (HK10.out.mono (fun j _ e => by unfold NtM; omega))⟩
        obtain ⟨p6, t6, g6, g6x⟩ := hC10.at_
        have y0 : W10.cell? ⟨W6.heap.size, 0, none⟩ = some (.int .i64 (p2 : Int)) := by rw [cell_row G8b.out]; rfl
        have y1 : W10.cell? ⟨W6.heap.size, 1, none⟩ = some (.bool t2) := by rw [cell_row G8b.out]; rfl
        have y2 : W10.cell? ⟨W6.heap.size, 2, none⟩ = some (.int .u64 (b.pcs : Int)) := by rw [cell_row G8b.out]; rfl
        have z0 : W10.cell? ⟨w.heap.size + 1 + 1 + 1 + 1, 0, none⟩ = some (.int .i64 (p6 : Int)) := by rw [cell_row g6]; rfl
        have z1 : W10.cell? ⟨w.heap.size + 1 + 1 + 1 + 1, 1, none⟩ = some (.bool t6) := by rw [cell_row g6]; rfl
        have z2 : W10.cell? ⟨w.heap.size + 1 + 1 + 1 + 1, 2, none⟩ = some (.int .u64 (q : Int)) := by rw [cell_row g6]; rfl
        have f0 : W10.frozen? ⟨w.heap.size + 1 + 1 + 1 + 1, 0, none⟩ = false := frozen_row g6
        have f1 : W10.frozen? ⟨w.heap.size + 1 + 1 + 1 + 1, 1, none⟩ = false := frozen_row g6
        have f2 : W10.frozen? ⟨w.heap.size + 1 + 1 + 1 + 1, 2, none⟩ = false := frozen_row g6
        have kV1 := keeps_set3 W10 (w.heap.size + 1 + 1 + 1 + 1) p2 b.pcs t2
        have aV1 := set3 (p := p2) (q := b.pcs) (t := t2) g6
        obtain ⟨V1, hV1⟩ : ∃ V1, ((W10.setCell ⟨w.heap.size + 1 + 1 + 1 + 1, 0, none⟩ (.int .i64 (p2 : Int))).setCell ⟨w.heap.size + 1 + 1 + 1 + 1, 1, none⟩ (.bool t2)).setCell ⟨w.heap.size + 1 + 1 + 1 + 1, 2, none⟩ (.int .u64 (b.pcs : Int)) = V1 := ⟨_, rfl⟩
        rw [hV1] at kV1 aV1
        obtain ⟨R, hR, hRS⟩ := hC10.row
        have rV1 := (kV1.block _ (lt_of_block hR) (by omega)).trans hR
        have gV1 := (kV1.block _ (lt_of_block hC10.grown) (by omega)).trans hC10.grown
        have v0 : V1.cell? ⟨w.heap.size + 1 + 1 + 1 + 1, 0, none⟩ = some (.int .i64 (p2 : Int)) := by rw [cell_row aV1]; rfl
        have v1 : V1.cell? ⟨w.heap.size + 1 + 1 + 1 + 1, 1, none⟩ = some (.bool t2) := by rw [cell_row aV1]; rfl
        have v3 : V1.cell? ⟨w.heap.size + 1 + 1 + 1, 0, none⟩ = some (.slice (some ⟨w.heap.size + 1 + 1, 0, none⟩) k n) := by rw [cell_row gV1]; rfl
        have kV2 := keep_alloc (fun _ => False) V1 (.cells #[.int .i64 (p2 : Int), .bool t2] 28)
        have nV2 := heap_alloc_new_ V1 (.cells #[.int .i64 (p2 : Int), .bool t2] 28)
        obtain ⟨V2, hV2⟩ : ∃ V2, V1.alloc (.cells #[.int .i64 (p2 : Int), .bool t2] 28) = V2 := ⟨_, rfl⟩
        rw [hV2] at kV2 nV2
        have rV2 := (kV2.block _ (lt_of_block rV1) (fun e => e)).trans rV1
        have gV2 := (kV2.block _ (lt_of_block gV1) (fun e => e)).trans gV1
        have hRz := hRS.1
        have u0 : V2.cell? ⟨V1.heap.size, 0, none⟩ = some (.int .i64 (p2 : Int)) := by rw [cell_row nV2]; rfl
        have u1 : V2.cell? ⟨V1.heap.size, 1, none⟩ = some (.bool t2) := by rw [cell_row nV2]; rfl
        have hk16 : k * 2 + 1 < R.size := by omega
        have r0 : V2.cell? ⟨w.heap.size + 1 + 1, k * 2, none⟩ = some (R[k * 2]'(by omega)) := by rw [cell_row rV2]; simp
        have r1 : V2.cell? ⟨w.heap.size + 1 + 1, k * 2 + 1, none⟩ = some (R[k * 2 + 1]'hk16) := by rw [cell_row rV2]; simp
        have q0 : V2.frozen? ⟨w.heap.size + 1 + 1, k * 2, none⟩ = false := frozen_row rV2
        have q1 : V2.frozen? ⟨w.heap.size + 1 + 1, k * 2 + 1, none⟩ = false := frozen_row rV2
        obtain ⟨x0, hx0⟩ : ∃ x, R[k * 2]'(by omega) = x := ⟨_, rfl⟩
        obtain ⟨x1, hx1⟩ : ∃ x, R[k * 2 + 1]'hk16 = x := ⟨_, rfl⟩
        rw [hx0] at r0
        rw [hx1] at r1
        clear hx0 hx1
        have kV3 : Keeps (fun j => j = w.heap.size + 1 + 1) V2 ((V2.setCell ⟨w.heap.size + 1 + 1, k * 2, none⟩ (.int .i64 (p2 : Int))).setCell ⟨w.heap.size + 1 + 1, k * 2 + 1, none⟩ (.bool t2)) := (keeps_setCell _ _ _ _).trans (keeps_setCell _ _ _ _)
        have rV3 := set_same (k * 2 + 1) (.bool t2) (set_same (k * 2) (.int .i64 (p2 : Int)) rV2)
        obtain ⟨V3, hV3⟩ : ∃ V3, (V2.setCell ⟨w.heap.size + 1 + 1, k * 2, none⟩ (.int .i64 (p2 : Int))).setCell ⟨w.heap.size + 1 + 1, k * 2 + 1, none⟩ (.bool t2) = V3 := ⟨_, rfl⟩
        rw [hV3] at kV3 rV3
        have gV3 := (kV3.block _ (lt_of_block gV2) (by omega)).trans gV2
        have x3 : V3.cell? ⟨w.heap.size + 1 + 1 + 1, 0, none⟩ = some (.slice (some ⟨w.heap.size + 1 + 1, 0, none⟩) k n) := by rw [cell_row gV3]; rfl
        have xf : V3.frozen? ⟨w.heap.size + 1 + 1 + 1, 0, none⟩ = false := frozen_row gV3
        have HC10 := Lib.hid hC10
        have HRS := Lib.hid hRS
        have KV1 := Lib.hid kV1
        have KV2 := Lib.hid kV2
        have KV3 := Lib.hid kV3
        have AV1 := Lib.hid aV1
        have RV3 := Lib.hid rV3
        have GV3 := Lib.hid gV3
        clear hC10 hRS kV1 kV2 kV3 aV1 rV3 gV3 g6 g6x hR rV1 rV2 gV1 gV2 nV2
        gi_wp2_with fail
        have hset := keeps_setCell V3 (w.heap.size + 1 + 1 + 1) 0 (.slice (some ⟨w.heap.size + 1 + 1, 0, none⟩) (k + 1) n)
        have hkk : Keeps (fun j => j = w.heap.size + 1 + 1 ∨ j = w.heap.size + 1 + 1 + 1 ∨ j = w.heap.size + 1 + 1 + 1 + 1) W10 (V3.setCell ⟨w.heap.size + 1 + 1 + 1, 0, none⟩ (.slice (some ⟨w.heap.size + 1 + 1, 0, none⟩) (k + 1) n)) :=
          (((KV1.out.mono (fun j _ e => .inr (.inr e))).trans KV2.out.none).trans (KV3.out.mono (fun j _ e => .inl e))).trans (hset.mono (fun j _ e => .inr (.inl e)))
        have hkn2 : Keeps (NtM w.heap.size M) W10 (V3.setCell ⟨w.heap.size + 1 + 1 + 1, 0, none⟩ (.slice (some ⟨w.heap.size + 1 + 1, 0, none⟩) (k + 1) n)) := hkk.mono (fun j _ e => by unfold NtM; omega)
        have hK : Keeps (NtM w.heap.size M) W9 (V3.setCell ⟨w.heap.size + 1 + 1 + 1, 0, none⟩ (.slice (some ⟨w.heap.size + 1 + 1, 0, none⟩) (k + 1) n)) := (HK10.out.mono (fun j _ e => by unfold NtM; omega)).trans hkn2
        have hgk := HG.out.len
        refine ⟨hK, rfl, pre, b, r, rfl, Hr.out, by rw [Hd9.out]; exact hlt, ?_, ?_, ?_, ?_, ?_, HC10.out.keep.trans hkn2⟩
        · exact (hkk.block _ (lt_of_block G1.out) (by omega)).trans G1.out
        · refine ⟨_, (hset.block _ (lt_of_block RV3.out) (by omega)).trans RV3.out, ?_⟩
          have := rowS_append HRS.out (by omega) Hbl.out
          rw [hgk] at this
          exact this
        · rw [set_same 0 _ GV3.out]
          rfl
        · exact ((StaB.keep (a := b) ⟨p2, t2, AV1.out, Hbl.out⟩ KV2.out (fun e => e)).keep KV3.out (by omega)).keep hset (by omega)
        · exact HC10.out.memo.keep hkk (by omega)
      · have hd : decide ((r : Int) < (d9 : Int)) = false := decide_eq_false (by omega)
        have hwr : IntKind.i64.wrap ((r : Int) - (d9 : Int)) = (r : Int) - (d9 : Int) := IntWalk.i64_in _ (by omega)
        gi_wp2_with fail
        have hset := keeps_setCell W10 (w.heap.size + 1) 0 (.int .i64 ((r : Int) - (d9 : Int)))
        have hK : Keeps (NtM w.heap.size M) W9 (W10.setCell ⟨w.heap.size + 1, 0, none⟩ (.int .i64 ((r : Int) - (d9 : Int)))) := (HK10.out.mono (fun j _ e => by unfold NtM; omega)).trans (hset.mono (fun j _ e => by unfold NtM; omega))
        refine ⟨hK, r - d9, ?_, ?_⟩
        · rw [List.map_append, List.sum_append]
          have h1 := Hr.out
          have h2 := Hd9.out
          simp only [List.map_cons, List.map_nil, List.sum_cons, List.sum_nil, h2]
          omega
        · obtain ⟨R, r1, r2⟩ := HC9.out.row
          have hkk : Keeps (fun j => j = M ∨ j = w.heap.size + 1) W9 (W10.setCell ⟨w.heap.size + 1, 0, none⟩ (.int .i64 ((r : Int) - (d9 : Int)))) := (HK10.out.mono (fun j _ e => .inl e)).trans (hset.mono (fun j _ e => .inr e))
          refine ⟨?_, ⟨R, (hkk.block _ (lt_of_block r1) (by omega)).trans r1, r2⟩, (hkk.block _ (lt_of_block HC9.out.grown) (by omega)).trans HC9.out.grown, HC9.out.at_.keep hkk (by omega), ?_, HC9.out.keep.trans hK⟩
          · rw [set_same 0 _ G1.out, show ((r - d9 : Nat) : Int) = (r : Int) - (d9 : Int) by omega]
            rfl
          · rw [List.length_append, List.length_singleton]
            exact HM10.out.keep hset (by omega)
end Go.Proofs.Ytfmcfalghbaanaa
