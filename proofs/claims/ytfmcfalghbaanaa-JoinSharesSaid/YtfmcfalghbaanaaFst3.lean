/- Stage 2: first, of states that are reached and lead on. -/
import Derived.Test.YtfmcfalghbaanaaRch
import Derived.Laws.EntriesVeiled
namespace Go.Proofs.Ytfmcfalghbaanaa
set_option linter.unusedSimpArgs false
set_option linter.unusedVariables false
open Go.RowKit Go.Shelf
attribute [local go_sem] Oper.semAt_some
attribute [local go_sem ↓] exec_load78
attribute [local go_sem ↓] at_load78

theorem fnd_all {T : Nat → Nat → Bool} {cs : List Nat} {n : Nat} (hc : Codes n cs) (hn : n ≤ 8) : Fnd T cs n ((bfsAll T cs).length + 1) (bfsAll T cs) := by
  have key : ∀ f i S, 5000 - i = f → Fnd T cs n i S → Fnd T cs n ((bfsAll T cs).length + 1) (bfsAll T cs) := by
    intro f
    induction f with
    | zero => intro i S hf h; have := h.fuel; have := h.len; omega
    | succ f ih =>
      intro i S hf h
      by_cases hi : i < S.length + 1
      · obtain ⟨a, _, hget, _, hr, hlt, _⟩ := h.at hc hn hi
        exact ih (i + 1) _ (by omega) (h.step hc hn hi hget hr hlt)
      · have he : i = S.length + 1 := by have := h.fuel; omega
        have hS := (h.fin he).1
        rw [← hS, ← he]; exact h
  exact key 5000 0 [] rfl (Fnd.start _ _ _)
theorem mem_reachL {T : Nat → Nat → Bool} {cs : List Nat} {n : Nat} (hc : Codes n cs) (hn : n ≤ 8) {x : Nat} {a : Sta} : a ∈ reachL T cs x ↔ Reach T cs a ∧ a.pcs ≠ 0 ∧ a.last = x := by
  have h := fnd_all (T := T) hc hn
  unfold reachL lastS
  simp only [List.mem_filter, List.mem_cons, Bool.and_eq_true, decide_eq_true_eq]
  constructor
  · rintro ⟨h1 | h1, h2, h3⟩
    · exact absurd (by rw [h1]) h2
    · exact ⟨(h.reach a h1).1, h2, h3⟩
  · rintro ⟨h1, h2, h3⟩
    exact ⟨(h.fin rfl).2 a h1, h2, h3⟩
theorem reachL_small {T : Nat → Nat → Bool} {cs : List Nat} {n : Nat} (hc : Codes n cs) (hn : n ≤ 8) {x : Nat} {a : Sta} (ha : a ∈ reachL T cs x) : Small a ∧ a.pcs < 2 ^ n := by
  have h := fnd_all (T := T) hc hn
  unfold reachL lastS at ha
  simp only [List.mem_filter, List.mem_cons, Bool.and_eq_true, decide_eq_true_eq] at ha
  obtain ⟨h1 | h1, h2, _⟩ := ha
  · exact absurd (by rw [h1]) h2
  · exact ⟨h.small a h1, (h.reach a h1).2.2⟩
theorem reachL_len {T : Nat → Nat → Bool} {cs : List Nat} {n : Nat} (hc : Codes n cs) (hn : n ≤ 8) (x : Nat) : (reachL T cs x).length ≤ 4097 := by
  have h := (fnd_all (T := T) hc hn).len
  have h2 := List.length_filter_le (lastS x) (⟨0, 0⟩ :: bfsAll T cs)
  unfold reachL
  rw [List.length_cons] at h2
  omega
def goesB (T : Nat → Nat → Bool) (cs : List Nat) (n : Nat) (a : Sta) : Bool := decide (0 < cntA T cs n a)
/-- What its loop keeps. -/
def GI (T : Nat → Nat → Bool) (cs : List Nat) (n M nn : Nat) (W5 : World) (pre : List Sta) (W : World) : Prop := pre.any (goesB T cs n) = false ∧ Memo W M (nn + pre.length * 17 ^ 9) T cs n ∧ Keeps (fun j => j = M) W5 W
def GX (T : Nat → Nat → Bool) (cs : List Nat) (n M nn F : Nat) (W5 : World) (c : Code) (pre : List Sta) (W : World) : Prop :=
  c = .ret ∧ pre.any (goesB T cs n) = true ∧ (∃ a, StaB W F a) ∧ W.heap[F + 1]? = some (.cells #[.bool true] 4 (0, 0)) ∧ Memo W M (nn + pre.length * 17 ^ 9) T cs n ∧ Keeps (fun k => k = F ∨ k = F + 1 ∨ k = M) W5 W
theorem GI.abides {T : Nat → Nat → Bool} {cs : List Nat} {n M nn : Nat} {W5 : World} {pre : List Sta} {B0 : Nat} (h : W5.heap.size ≤ B0) (hM : M < B0) : Abides B0 (GI T cs n M nn W5 pre) := fun A B hh hK => ⟨hh.1, hh.2.1.keep hK (by omega), keeps_abides h _ _ hh.2.2 hK⟩
theorem GX.abides {T : Nat → Nat → Bool} {cs : List Nat} {n M nn F : Nat} {W5 : World} {c : Code} {pre : List Sta} {B0 : Nat} (h : W5.heap.size ≤ B0) (hM : M < B0) (h2 : F + 1 < B0) : Abides B0 (GX T cs n M nn F W5 c pre) := fun A B hh hK => by
  obtain ⟨h1, h3, ⟨a, h4⟩, h5, h6, h7⟩ := hh
  exact ⟨h1, h3, ⟨a, h4.keep hK (by omega)⟩, (hK.block _ (lt_of_block h5) (by omega)).trans h5, h6.keep hK (by omega), keeps_abides h _ _ h7 hK⟩
set_option maxRecDepth 100000 in
theorem res59 {tmps : Array Value} {W : World} {F O p q : Nat} {t b : Bool} (h4 : tmps.getD 4 undef = .pointer (some ⟨F, 0, none⟩)) (h5 : tmps.getD 5 undef = .pointer (some ⟨O, 0, none⟩)) (hF : W.heap[F]? = some (.cells (staV p t q) 91 (0, 0))) (hO : W.heap[O]? = some (.cells #[.bool b] 4 (0, 0))) :
    (results Try.f59 tmps).run Try.prog W = .ok (.tuple #[.agg #[.int .i64 (p : Int), .bool t, .int .u64 (q : Int)], .bool b]) W := by
  have c0 : W.cell? ⟨F, 0, none⟩ = some (.int .i64 (p : Int)) := by rw [cell_row hF]; rfl
  have c1 : W.cell? ⟨F, 1, none⟩ = some (.bool t) := by rw [cell_row hF]; rfl
  have c3 : W.cell? ⟨F, 2, none⟩ = some (.int .u64 (q : Int)) := by rw [cell_row hF]; rfl
  have c2 : W.cell? ⟨O, 0, none⟩ = some (.bool b) := by rw [cell_row hO]; rfl
  rw [Array.getD_eq_getD_getElem?] at h4 h5
  simp [results, Try.results59, go_sem, h4, h5, c0, c1, c2, c3]

set_option maxRecDepth 100000 in
set_option maxHeartbeats 4000000 in
theorem first59 (X : Array Value) (A : Option Addr) (n cap : Nat) (off lo hi : Int) (T : Nat → Nat → Bool) (M Bb Bs p x nn : Nat) (t : Bool) (ps : List Pc) (w : World) (hB : w.heap[Bb]? = some (.cells X 78 (0, 0))) (hX : Brd X A n cap off lo hi T M) (hs : w.heap[Bs]? = some (.cells #[.int .i64 (p : Int), .bool t] 28 (0, 0))) (hp : Pcs w A n ps) (hm : Memo w M nn T (codesL ps) n) (hnn : nn + 5000 * 17 ^ 9 ≤ 1000000000000000000) (hn1 : 1 ≤ n) (hn : n ≤ 8) (hx : x = if t then 2 * p + 1 else 2 * p) (hx16 : x < 16) :
    Calls Try.prog 59 #[.func (.func 73) #[] #[.pointer (some ⟨Bs, 0, none⟩), .pointer (some ⟨Bb, 0, none⟩)], .func (.func 55) #[.agg X] #[]] w fun e w' => (∃ (p9 : Nat) (t9 : Bool) (q9 : Nat), e = .returned (.tuple #[.agg #[.int .i64 (p9 : Int), .bool t9, .int .u64 (q9 : Int)], .bool ((reachL T (codesL ps) x).any (goesB T (codesL ps) n))])) ∧ Memo w' M (nn + 5000 * 17 ^ 9) T (codesL ps) n ∧ Keeps (fun j => j = M) w w' := by
  have hMw := hm.lt
  have hBl := lt_of_block hB
  have hsl := lt_of_block hs
  have HX := Lib.hid hX
  have Hp := Lib.hid hp
  have Hm := Lib.hid hm
  have Hnn := Lib.hid hnn
  have Hx := Lib.hid hx
  have hMB : M ≠ Bb := fun e => by obtain ⟨es, cl, h⟩ := hm.isMap; rw [e, hB] at h; cases h
  have hMS : M ≠ Bs := fun e => by obtain ⟨es, cl, h⟩ := hm.isMap; rw [e, hs] at h; cases h
  have HB := Lib.hid hB
  have HS := Lib.hid hs
  clear hX hp hm hnn hx hB hs
  refine (callsIn_wide (n := 5)).1 ?_
  refine callsIn_of_wp_marks Try.func59 rfl trivial ?_ rfl
  simp only [Try.ntmps59, List.size_toArray, List.length_cons, List.length_nil, Nat.reduceAdd, Nat.reduceSub, Array.replicate_succ, Array.replicate_zero, List.push_toArray, List.append_toArray, List.nil_append, List.cons_append]
  gi_wp2_with fail
  have hK5 := Lib.hid (show Keeps (fun _ => False) w (((w.alloc (.cells #[.func (.func 55) #[.agg X] #[]] 96)).alloc (.cells #[.int .i64 0, .bool false, .int .u64 0] 91)).alloc (.cells #[.bool false] 4)) from ((keep_alloc _ _ _).trans (keep_alloc _ _ _)).trans (keep_alloc _ _ _))
  have HG := Lib.hid (show (((w.alloc (.cells #[.func (.func 55) #[.agg X] #[]] 96)).alloc (.cells #[.int .i64 0, .bool false, .int .u64 0] 91)).alloc (.cells #[.bool false] 4)).heap[w.heap.size]? = some (.cells #[.func (.func 55) #[.agg X] #[]] 96 (0, 0)) from hal_old (hal_old (heap_alloc_new_ _ _)))
  have HF := Lib.hid (show (((w.alloc (.cells #[.func (.func 55) #[.agg X] #[]] 96)).alloc (.cells #[.int .i64 0, .bool false, .int .u64 0] 91)).alloc (.cells #[.bool false] 4)).heap[w.heap.size + 1]? = some (.cells (staV 0 false 0) 91 (0, 0)) from hal_old (hal_new (by simp)))
  have HO := Lib.hid (show (((w.alloc (.cells #[.func (.func 55) #[.agg X] #[]] 96)).alloc (.cells #[.int .i64 0, .bool false, .int .u64 0] 91)).alloc (.cells #[.bool false] 4)).heap[w.heap.size + 1 + 1]? = some (.cells #[.bool false] 4 (0, 0)) from hal_new (by simp))
  have hs5 := eq_le (show (((w.alloc (.cells #[.func (.func 55) #[.agg X] #[]] 96)).alloc (.cells #[.int .i64 0, .bool false, .int .u64 0] 91)).alloc (.cells #[.bool false] 4)).heap.size = w.heap.size + 3 by simp)
  obtain ⟨W5, hW5⟩ : ∃ W5, ((w.alloc (.cells #[.func (.func 55) #[.agg X] #[]] 96)).alloc (.cells #[.int .i64 0, .bool false, .int .u64 0] 91)).alloc (.cells #[.bool false] 4) = W5 := ⟨_, rfl⟩
  rw [hW5] at hK5 HG HF HO hs5 ⊢
  clear hW5
  have hneed := pcs_lt Hp.out (by omega)
  have hco : Codes n (codesL ps) := by have h := codes_ok ps; rw [Hp.out.1] at h; exact h
  have Hco := Lib.hid hco
  have hrl := reachL_len (T := T) hco hn x
  have hB5 := (hK5.out.block _ hBl (fun e => e)).trans HB.out
  have hS5 := (hK5.out.block _ hsl (fun e => e)).trans HS.out
  have hp5 := Hp.out.keep hK5.out (fun _ _ e => e.elim)
  have Hp5 := Lib.hid hp5
  clear hco
  refine wpIn_rangeL (gf := 73) (lb := #[.pointer (some ⟨Bs, 0, none⟩), .pointer (some ⟨Bb, 0, none⟩)]) rfl (enters_of Try.func73 (by kernel_rfl) rfl) (reached_seq X A n cap off lo hi T M Bb Bs p x t ps W5 hB5 HX.out hS5 hp5 hn1 hn Hx.out hx16)
    (by rintro k (rfl | rfl | h); omega; omega; have := hneed k h; omega) (fun _ => rfl) (fun j => j = w.heap.size + 1 ∨ j = w.heap.size + 1 + 1 ∨ j = M) (by
      rintro k hk
      refine ⟨by omega, ?_⟩
      rintro (h | h | ⟨o, h⟩)
      · omega
      · omega
      · have h1 := hneed k ⟨o, h⟩
        rcases hk with rfl | rfl | rfl
        · omega
        · omega
        · exact pcs_not_map Hp.out (by omega) Hm.out o h)
    (GI T (codesL ps) n M nn W5) (GX T (codesL ps) n M nn (w.heap.size + 1) W5) (fun pre => GI.abides (Nat.le_refl _) (by omega)) (fun c pre => GX.abides (Nat.le_refl _) (by omega) (by omega)) ?start ?round ?done ?stop
  case start => exact ⟨rfl, by simpa using Hm.out.keep hK5.out (fun e => e), Keeps.refl _ _⟩
  case done =>
    intro D W7 hD hDW hI hKd
    obtain ⟨h1, h2, h3⟩ := hI
    have hF7 := (h3.block _ (by omega) (by omega)).trans HF.out
    have hO7 := (h3.block _ (by omega) (by omega)).trans HO.out
    have gF0 : W7.cell? ⟨w.heap.size + 1, 0, none⟩ = some (.int .i64 0) := by rw [cell_row hF7]; rfl
    have gF1 : W7.cell? ⟨w.heap.size + 1, 1, none⟩ = some (.bool false) := by rw [cell_row hF7]; rfl
    have gF2 : W7.cell? ⟨w.heap.size + 1, 2, none⟩ = some (.int .u64 0) := by rw [cell_row hF7]; rfl
    have fF0 : W7.frozen? ⟨w.heap.size + 1, 0, none⟩ = false := frozen_row hF7
    have fF1 : W7.frozen? ⟨w.heap.size + 1, 1, none⟩ = false := frozen_row hF7
    have fF2 : W7.frozen? ⟨w.heap.size + 1, 2, none⟩ = false := frozen_row hF7
    have gO0 : W7.cell? ⟨w.heap.size + 1 + 1, 0, none⟩ = some (.bool false) := by rw [cell_row hO7]; rfl
    have fO0 : W7.frozen? ⟨w.heap.size + 1 + 1, 0, none⟩ = false := frozen_row hO7
    have q1 : Keeps (fun j => j = w.heap.size + 1) W7 (((W7.setCell ⟨w.heap.size + 1, 0, none⟩ (.int .i64 0)).setCell ⟨w.heap.size + 1, 1, none⟩ (.bool false)).setCell ⟨w.heap.size + 1, 2, none⟩ (.int .u64 0)) := keeps_set3 W7 (w.heap.size + 1) 0 0 false
    have q2 : (((W7.setCell ⟨w.heap.size + 1, 0, none⟩ (.int .i64 0)).setCell ⟨w.heap.size + 1, 1, none⟩ (.bool false)).setCell ⟨w.heap.size + 1, 2, none⟩ (.int .u64 0)).heap[w.heap.size + 1]? = some (.cells (staV 0 false 0) 91 (0, 0)) := set3 (p := 0) (q := 0) (t := false) hF7
    obtain ⟨V1, hV1⟩ : ∃ V1, ((W7.setCell ⟨w.heap.size + 1, 0, none⟩ (.int .i64 0)).setCell ⟨w.heap.size + 1, 1, none⟩ (.bool false)).setCell ⟨w.heap.size + 1, 2, none⟩ (.int .u64 0) = V1 := ⟨_, rfl⟩
    rw [hV1] at q1 q2
    have hO1 := (q1.block _ (lt_of_block hO7) (by omega)).trans hO7
    have oc : V1.cell? ⟨w.heap.size + 1 + 1, 0, none⟩ = some (.bool false) := by rw [cell_row hO1]; rfl
    have of_ : V1.frozen? ⟨w.heap.size + 1 + 1, 0, none⟩ = false := frozen_row hO1
    have H1 := Lib.hid h1
    have H2 := Lib.hid h2
    have H3 := Lib.hid h3
    have HKd := Lib.hid hKd
    have Q1 := Lib.hid q1
    have Q2 := Lib.hid q2
    have HO1 := Lib.hid hO1
    clear h1 h2 h3 hKd q1 q2 hO1 hF7 hO7
    gi_wp2_with fail
    have q3 := keeps_setCell V1 (w.heap.size + 1 + 1) 0 (.bool false)
    have qq : Keeps (fun j => j = w.heap.size + 1 ∨ j = w.heap.size + 1 + 1) W7 (V1.setCell ⟨w.heap.size + 1 + 1, 0, none⟩ (.bool false)) := (Q1.out.mono (fun _ _ e => .inl e)).trans (q3.mono (fun _ _ e => .inr e))
    have hd := (qq.block D hDW (by omega)).trans HKd.out
    refine ⟨by simp, .inl ⟨_, _, rfl, run_takeDeferred hd, ?_⟩⟩
    have q4 := Keeps.putObj (Mut := fun j => j = D) (V1.setCell ⟨w.heap.size + 1 + 1, 0, none⟩ (.bool false)) D (.deferred none) rfl
    have hsF : StaB ((V1.setCell ⟨w.heap.size + 1 + 1, 0, none⟩ (.bool false)).putObj D (.deferred none)) (w.heap.size + 1) ⟨0, 0⟩ := (StaB.keep (a := ⟨0, 0⟩) ⟨0, false, Q2.out, rfl⟩ q3 (by omega)).keep q4 (by omega)
    have hO2 := (q4.block _ (by have := lt_of_block HO1.out; have := q3.size; omega) (by omega)).trans (set_same 0 (.bool false) HO1.out)
    obtain ⟨p9, t9, hsF, _⟩ := hsF
    refine ⟨_, res59 (b := false) rfl rfl hsF hO2, ⟨p9, t9, _, by rw [H1.out]⟩, ((H2.out.keep qq (by omega)).keep q4 (by omega)).mono ?_, ?_⟩
    · have := Nat.mul_le_mul_right (17 ^ 9) (show (reachL T (codesL ps) x).length ≤ 5000 by omega)
      omega
    · have h7 := (((hK5.out.none (Mut := fun j => j = M ∨ w.heap.size ≤ j)).trans (H3.out.mono (fun j _ e => .inl e))).trans (qq.mono (fun j _ e => by omega))).trans (q4.mono (fun j _ e => by omega))
      exact h7.mono (fun j hj e => by omega)
  case stop =>
    rintro D c pre a post W7 hD hDW hxs ⟨rfl, h1, ⟨b, h2⟩, h3, h4, h5⟩ hKd
    have H1 := Lib.hid h1
    have H2 := Lib.hid h2
    have H3 := Lib.hid h3
    have H4 := Lib.hid h4
    have H5 := Lib.hid h5
    have HKd := Lib.hid hKd
    have HXS := Lib.hid hxs
    clear h1 h2 h3 h4 h5 hKd hxs
    gi_wp2_with fail
    refine ⟨by simp, .inl ⟨_, _, rfl, run_takeDeferred HKd.out, ?_⟩⟩
    have q4 := Keeps.putObj (Mut := fun j => j = D) W7 D (.deferred none) rfl
    obtain ⟨p9, t9, hsF, _⟩ := H2.out.keep q4 (by omega)
    refine ⟨_, res59 (b := true) rfl rfl hsF ((q4.block _ (lt_of_block H3.out) (by omega)).trans H3.out), ⟨p9, t9, b.pcs, ?_⟩, (H4.out.keep q4 (by omega)).mono ?_, ?_⟩
    · have h6 : (reachL T (codesL ps) x).any (goesB T (codesL ps) n) = true := by
        have h7 := H1.out
        rw [HXS.out, show pre ++ a :: post = (pre ++ [a]) ++ post by simp, List.any_append, h7, Bool.true_or]
      rw [h6]
    · have h8 := congrArg List.length HXS.out
      rw [List.length_append, List.length_cons] at h8
      have := Nat.mul_le_mul_right (17 ^ 9) (show (pre ++ [a]).length ≤ 5000 by rw [List.length_append, List.length_singleton]; omega)
      omega
    · have h7 := ((hK5.out.none (Mut := fun j => j = M ∨ w.heap.size ≤ j)).trans (H5.out.mono (fun j _ e => by omega))).trans (q4.mono (fun j _ e => by omega))
      exact h7.mono (fun j hj e => by omega)
  case round =>
    intro l pre a post W6 hxs hl1 hl2 hr hI m2
    obtain ⟨p2, t2, hE, hbl⟩ := staE_form a
    rw [hE]
    have ham : a ∈ reachL T (codesL ps) x := by rw [hxs]; simp
    obtain ⟨hsm, halt⟩ := reachL_small Hco.out hn ham
    have hpl : pre.length + 1 ≤ 4097 := by
      have h8 := congrArg List.length hxs
      rw [List.length_append, List.length_cons] at h8
      omega
    have Hby := Lib.hid (heap_alloc_new_ W6 (.cells #[.int .i64 (p2 : Int), .bool t2, .int .u64 (a.pcs : Int)] 91))
    have Hbl := Lib.hid hbl
    have Halt := Lib.hid halt
    have ha16 : a.last < 16 := hsm.1
    have hs6 := hI.2.2.size
    clear hE hxs ham hsm halt hbl hr hI hB5 hS5 hp5
    gi_wp2_with fail
    refine ⟨keep_alloc _ _ _, ?_⟩
    intro W9 hB9 hI9
    obtain ⟨h1, h2, h3⟩ := hI9
    have hs9 := hB9.keeps.size
    simp only [World.size_alloc] at hs9
    have hn9 := (hB9.keeps.block _ (by simp) (by omega)).trans Hby.out
    have cG : W9.cell? ⟨w.heap.size, 0, none⟩ = some (.func (.func 55) #[.agg X] #[]) := by rw [cell_row ((h3.block _ (by omega) (by omega)).trans HG.out)]; rfl
    have y0 : W9.cell? ⟨W6.heap.size, 0, none⟩ = some (.int .i64 (p2 : Int)) := by rw [cell_row hn9]; rfl
    have y1 : W9.cell? ⟨W6.heap.size, 1, none⟩ = some (.bool t2) := by rw [cell_row hn9]; rfl
    have y2 : W9.cell? ⟨W6.heap.size, 2, none⟩ = some (.int .u64 (a.pcs : Int)) := by rw [cell_row hn9]; rfl
    have H1 := Lib.hid h1
    have H2 := Lib.hid h2
    have H3 := Lib.hid h3
    have HN9 := Lib.hid hn9
    have hp9 := Hp5.out.keep h3 (fun j o e h => by subst e; exact pcs_not_map Hp.out (by omega) Hm.out o h)
    have Hp9 := Lib.hid hp9
    clear hB9 h1 h2 h3 hn9 hp9
    gi_wp2_with fail
    have hlb8 : left n a ≤ 8 := Nat.le_trans (left_le n a) hn
    have h17 : 17 ^ (left n a + 1) ≤ 17 ^ 9 := Nat.pow_le_pow_right (by omega) (by omega)
    have hbud : nn + pre.length * 17 ^ 9 + 17 ^ (left n a + 1) ≤ 1000000000000000000 := by
      have h1 := Hnn.out
      have h2 : pre.length * 17 ^ 9 ≤ 4096 * 17 ^ 9 := Nat.mul_le_mul_right _ (by omega)
      omega
    refine ⟨trivial, wide_d, CallsIn.inRound l ((callsIn_wide.2 (leads55 X A n cap off lo hi T M ps HX.out hn1 hn (left n a) p2 a.pcs a.last _ t2 _ Hp9.out H2.out hbud Halt.out ha16 Hbl.out rfl)).mono ?_)⟩
    rintro e W10 ⟨rfl, hm10, hk10⟩
    have HM10 := Lib.hid (hm10.mono (nn' := nn + (pre.length + 1) * 17 ^ 9) (bud_step _ _ h17))
    have HK10 := Lib.hid hk10
    have hn10 := (hk10.block _ (lt_of_block HN9.out) (by omega)).trans HN9.out
    have hF10 := (hk10.block _ (by have := H3.out.size; omega) (by omega)).trans ((H3.out.block _ (by omega) (by omega)).trans HF.out)
    have hO10 := (hk10.block _ (by have := H3.out.size; omega) (by omega)).trans ((H3.out.block _ (by omega) (by omega)).trans HO.out)
    have z0 : W10.cell? ⟨W6.heap.size, 0, none⟩ = some (.int .i64 (p2 : Int)) := by rw [cell_row hn10]; rfl
    have z1 : W10.cell? ⟨W6.heap.size, 1, none⟩ = some (.bool t2) := by rw [cell_row hn10]; rfl
    have z2 : W10.cell? ⟨W6.heap.size, 2, none⟩ = some (.int .u64 (a.pcs : Int)) := by rw [cell_row hn10]; rfl
    have g0 : W10.cell? ⟨w.heap.size + 1, 0, none⟩ = some (.int .i64 0) := by rw [cell_row hF10]; rfl
    have g1 : W10.cell? ⟨w.heap.size + 1, 1, none⟩ = some (.bool false) := by rw [cell_row hF10]; rfl
    have g2 : W10.cell? ⟨w.heap.size + 1, 2, none⟩ = some (.int .u64 0) := by rw [cell_row hF10]; rfl
    have f0 : W10.frozen? ⟨w.heap.size + 1, 0, none⟩ = false := frozen_row hF10
    have f1 : W10.frozen? ⟨w.heap.size + 1, 1, none⟩ = false := frozen_row hF10
    have f2 : W10.frozen? ⟨w.heap.size + 1, 2, none⟩ = false := frozen_row hF10
    have q1 := keeps_set3 W10 (w.heap.size + 1) p2 a.pcs t2
    have q2 := set3 (p := p2) (q := a.pcs) (t := t2) hF10
    obtain ⟨V1, hV1⟩ : ∃ V1, ((W10.setCell ⟨w.heap.size + 1, 0, none⟩ (.int .i64 (p2 : Int))).setCell ⟨w.heap.size + 1, 1, none⟩ (.bool t2)).setCell ⟨w.heap.size + 1, 2, none⟩ (.int .u64 (a.pcs : Int)) = V1 := ⟨_, rfl⟩
    rw [hV1] at q1 q2
    have hO1 := (q1.block _ (lt_of_block hO10) (by omega)).trans hO10
    have oc : V1.cell? ⟨w.heap.size + 1 + 1, 0, none⟩ = some (.bool false) := by rw [cell_row hO1]; rfl
    have of_ : V1.frozen? ⟨w.heap.size + 1 + 1, 0, none⟩ = false := frozen_row hO1
    have Q1 := Lib.hid q1
    have Q2 := Lib.hid q2
    have HO1 := Lib.hid hO1
    clear hm10 hk10 hn10 hF10 hO10 q1 q2 hO1 hbud h17 cG y0 y1 y2
    have hone : ∀ l, l.any (goesB T (codesL ps) n) = false → (l ++ [a]).any (goesB T (codesL ps) n) = goesB T (codesL ps) n a := fun l h => by rw [List.any_append, h]; simp
    rw [show decide (0 < cntA T (codesL ps) n { last := a.last, pcs := a.pcs }) = goesB T (codesL ps) n a from rfl]
    cases hg : goesB T (codesL ps) n a with
    | false =>
      have Hg := Lib.hid hg
      clear hg
      gi_wp2_with fail
      exact ⟨HK10.out.mono (fun _ _ e => .inr (.inr e)), by rw [hone pre H1.out]; exact Hg.out, by rw [List.length_append, List.length_singleton]; exact HM10.out, H3.out.trans HK10.out⟩
    | true =>
      have Hg := Lib.hid hg
      clear hg
      gi_wp2_with fail
      have q3 := keeps_setCell V1 (w.heap.size + 1 + 1) 0 (.bool true)
      have qq : Keeps (fun k => k = w.heap.size + 1 ∨ k = w.heap.size + 1 + 1 ∨ k = M) W9 (V1.setCell ⟨w.heap.size + 1 + 1, 0, none⟩ (.bool true)) := ((HK10.out.mono (fun _ _ e => .inr (.inr e))).trans (Q1.out.mono (fun _ _ e => .inl e))).trans (q3.mono (fun _ _ e => .inr (.inl e)))
      refine ⟨qq, rfl, by rw [hone pre H1.out]; exact Hg.out, ⟨a, (StaB.keep (a := a) ⟨p2, t2, Q2.out, Hbl.out⟩ q3 (by omega))⟩, ?_, by rw [List.length_append, List.length_singleton]; exact (HM10.out.keep Q1.out (by omega)).keep q3 (by omega), (H3.out.mono (fun _ _ e => .inr (.inr e))).trans qq⟩
      rw [set_same 0 (.bool true) HO1.out]; rfl
end Go.Proofs.Ytfmcfalghbaanaa
