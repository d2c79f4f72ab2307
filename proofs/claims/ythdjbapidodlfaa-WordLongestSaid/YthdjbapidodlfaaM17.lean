/- Stage 4: the program's matches. -/
import Derived.Test.YthdjbapidodlfaaMt
import Derived.Laws.CopyRow
namespace Go.Proofs.Ythdjbapidodlfaa
set_option linter.unusedSimpArgs false
set_option linter.unusedVariables false
open Go.RowKit Go.Shelf
attribute [local go_sem ↓] exec_app at_app
attribute [local go_sem] Oper.semAt_some

theorem info79_ : (Try.prog.info? 79).map (fun i => (i.zero, i.size, i.bytes)) = some (some (.agg #[.int .i64 0, .int .i64 0, .int .i64 0, .int .i64 0]), 4, 32) := by kernel_rfl
def p4 (p : List Int) : List Value := [.int .i64 (iAt p 0), .int .i64 (iAt p 1), .int .i64 (iAt p 2), .int .i64 (iAt p 3)]
/-- The cells of places. -/
def flatP (l : List (List Int)) : List Value := l.flatMap p4
theorem flatP_snoc (l : List (List Int)) (p : List Int) : flatP (l ++ [p]) = flatP l ++ p4 p := by simp [flatP]
theorem flatP_len (l : List (List Int)) : (flatP l).length = l.length * 4 := by
  induction l with
  | nil => rfl
  | cons a t ih => simp only [flatP, List.flatMap_cons, List.length_append, List.length_cons] at ih ⊢; rw [ih]; simp only [p4, List.length_cons, List.length_nil]; omega
theorem flatP_at (l : List (List Int)) {j t : Nat} (hj : j < l.length) (ht : t < 4) : (flatP l)[j * 4 + t]? = some (.int .i64 (iAt (lAt l j) t)) := by
  induction l generalizing j with
  | nil => simp at hj
  | cons a r ih =>
    have e : flatP (a :: r) = p4 a ++ flatP r := by simp [flatP]
    rw [e]
    cases j with
    | zero =>
      rw [Nat.zero_mul, Nat.zero_add, List.getElem?_append_left (by simp only [p4, List.length_cons, List.length_nil]; omega)]
      match t, ht with
      | 0, _ => rfl
      | 1, _ => rfl
      | 2, _ => rfl
      | 3, _ => rfl
    | succ j =>
      rw [List.getElem?_append_right (by simp only [p4, List.length_cons, List.length_nil]; omega)]
      have e2 : (j + 1) * 4 + t - (p4 a).length = j * 4 + t := by simp only [p4, List.length_cons, List.length_nil]; omega
      rw [e2, ih (by simpa using hj)]
      rfl
/-- A slice of n places reads as L. -/
def Pls (w : World) (A : Option Addr) (n : Nat) (L : List (List Int)) : Prop :=
  L.length = n ∧ (0 < n → ∃ b, A = some ⟨b, 0, none⟩ ∧ ∀ j, j < n → ∀ t, t < 4 → w.cell? ⟨b, j * 4 + t, none⟩ = some (.int .i64 (iAt (lAt L j) t)))
theorem Pls.below {w w' : World} {A : Option Addr} {n B : Nat} {L : List (List Int)} (h : Pls w A n L) (hb : Below B w w') (hB : w.heap.size ≤ B) : Pls w' A n L := by
  refine ⟨h.1, fun hn => ?_⟩
  obtain ⟨b, e, hc⟩ := h.2 hn
  have hl := lt_of_cell (hc 0 hn 0 (by omega))
  exact ⟨b, e, fun j hj t ht => (hb.cell (p := ⟨b, j * 4 + t, none⟩) (by simp; omega)).trans (hc j hj t ht)⟩
theorem pls_own {W : World} {v : Value} {l : List (List Int)} {n : Nat} (hl : l.length = n) (h : W.ownsRow 0 79 4 v n (flatP l)) : ∃ C cap, v = .slice C n cap ∧ n ≤ cap ∧ Pls W C n l ∧ (∀ b o, C = some ⟨b, o, none⟩ → v.ownBlock = some b ∧ o = 0) := by
  subst hl
  rcases h.2 with ⟨rfl, h0⟩ | ⟨g, cap, cur, rfl, hb, hg, hc, _, hsz, htake⟩
  · rw [h0]
    exact ⟨none, 0, rfl, Nat.le_refl _, ⟨h0, by omega⟩, by intro b o e; cases e⟩
  · refine ⟨_, cap, rfl, hc, ⟨rfl, fun _ => ⟨g, rfl, fun j hj t ht => ?_⟩⟩, by rintro b o e; cases e; exact ⟨rfl, rfl⟩⟩
    rw [cell_row hg, ← Array.getElem?_toList, ← List.getElem?_take_of_lt (show j * 4 + t < l.length * 4 by omega), htake]
    exact flatP_at l hj ht
theorem SeqO.later {α : Type} {P : Program} {g : Nat} {lb : Array Value} {encs : α → Array Value} {xs : List α} {Need : Nat → Prop} {w V : World} (h : SeqO P g lb encs xs Need w) (hK : Keeps (fun _ => False) w V) : SeqO P g lb encs xs Need V :=
  fun l Mut J Jx W hW => h l Mut J Jx W (hK.trans hW)
/-- What the rounds of a collection keep. -/
structure CoI (T : Nat) (V : World) (pre : List (List Int)) (O : Nat → Prop) (W : World) : Prop where
  row : ∃ v, W.heap[T]? = some (.cells #[v] 76 (0, 0)) ∧ W.ownsRow 0 79 4 v pre.length (flatP pre) ∧ ∀ g, v.ownBlock = some g → O g
  keep : Keeps (fun k => V.heap.size ≤ k ∨ k = T) V W
theorem CoI.abides {T : Nat} {V : World} (hT : T < V.heap.size) (pre : List (List Int)) : AbO V.heap.size (CoI T V pre) := by
  intro O W1 W2 h hK
  obtain ⟨⟨v, h1, h2, h3⟩, h4⟩ := h
  exact ⟨⟨v, (hK.block _ (lt_of_block h1) (by omega)).trans h1, own_keep h2 hK (fun k e => fun e2 => e2.2 (h3 k e)), h3⟩, h4.trans (hK.mono (fun k _ e => .inl e.1))⟩
set_option maxRecDepth 100000 in
set_option maxHeartbeats 4000000 in
theorem append73 {gf : Nat} {lb : Array Value} {xs : List (List Int)} {Need : Nat → Prop} {w : World} (eg : ∀ args w, (callFunc gf args).run Try.prog w = .ok (.enter gf args) w) (hseq : SeqO Try.prog gf lb (fun x => #[plA x]) xs Need w) (hNeed : ∀ k, Need k → k < w.heap.size) (hn : xs.length ≤ 5000) :
    Calls Try.prog 73 #[.slice none 0 0, .func (.func gf) #[] lb] w fun e w' => ∃ v, e = .returned v ∧ w'.ownsRow 0 79 4 v xs.length (flatP xs) ∧ (∀ g, v.ownBlock = some g → w.heap.size ≤ g) ∧ Below w.heap.size w w' := by
  have k1 : Keeps (fun _ => False) w (w.alloc (.cells #[.slice none 0 0] 76)) := keep_alloc _ _ _
  have e1 : (w.alloc (.cells #[.slice none 0 0] 76)).heap[w.heap.size]? = some (.cells #[.slice none 0 0] 76 (0, 0)) := heap_alloc_new_ _ _
  have Hseq := Lib.hid hseq
  have HNeed := Lib.hid hNeed
  have Hn := Lib.hid hn
  have K1 := Lib.hid k1
  have E1 := Lib.hid e1
  clear hseq hNeed hn k1 e1
  refine (callsIn_wide (n := 5)).1 ?_
  refine callsIn_of_wp_marks Try.func73 rfl trivial ?_ rfl
  simp only [Try.ntmps73, List.size_toArray, List.length_cons, List.length_nil, Nat.reduceAdd, Nat.reduceSub, Array.replicate_succ, Array.replicate_zero, List.push_toArray, List.append_toArray, List.nil_append, List.cons_append]
  gi_wp2_with fail
  obtain ⟨V, hV⟩ : ∃ V, w.alloc (.cells #[.slice none 0 0] 76) = V := ⟨_, rfl⟩
  obtain ⟨T, hT⟩ : ∃ T, w.heap.size = T := ⟨_, rfl⟩
  have hVs : V.heap.size = w.heap.size + 1 := by rw [← hV]; simp
  have k1 := K1.out
  have e1 := E1.out
  clear K1 E1
  rw [hV] at k1 e1 ⊢
  rw [hT] at e1 hVs ⊢
  have HT := Lib.hid hT
  have hTl : T < V.heap.size := by omega
  have hseq := Hseq.out.later k1
  have K1 := Lib.hid k1
  have hNd : ∀ k, Need k → k < V.heap.size ∧ k < T := fun k e => by have := HNeed.out k e; have := HT.out; omega
  clear hV hT k1
  refine wpIn_rangeO (gf := gf) (lb := lb) rfl eg hseq (fun k h => (hNd k h).1) (fun _ => rfl) (fun k => k = T) (fun k hk => ⟨by omega, fun h => by have := (hNd k h).2; omega⟩)
    (CoI T V) (fun _ _ _ _ => False) (fun pre => CoI.abides hTl pre) (fun _ _ _ _ _ h _ => h.elim) ⟨⟨_, e1, ⟨rfl, .inl ⟨rfl, rfl⟩⟩, fun g e => by cases e⟩, Keeps.refl _ _⟩ ?round ?done ?stop
  case stop => intro D c pre x post W O _ _ _ _ _ h _; exact h.elim
  case round =>
    intro l pre x post W O hxs hl1 hl2 hr hO hI m
    have Hpl := Lib.hid (show pre.length ≤ 5000 by have := Hn.out; rw [hxs] at this; simp at this; omega)
    have Hby := Lib.hid (heap_alloc_new_ W (.cells #[.int .i64 (iAt x 0), .int .i64 (iAt x 1), .int .i64 (iAt x 2), .int .i64 (iAt x 3)] 79))
    unfold plA
    have HO := Lib.hid hO
    clear hxs hr hI hO e1 hseq
    gi_wp2_with fail
    refine ⟨keep_alloc _ _ _, ?_⟩
    intro W2 hB2 hI2
    have FT := (hB2.keeps.block _ (by simp) (by omega)).trans Hby.out
    obtain ⟨U, hU⟩ : ∃ U, W.heap.size = U := ⟨_, rfl⟩
    have hT2 : W2.heap.size = W.heap.size + 1 := hB2.size.trans (by simp)
    rw [hU] at FT hT2 ⊢
    obtain ⟨⟨v, hv, ho, hob⟩, hk2⟩ := hI2
    have g0 : W2.cell? ⟨T, 0, none⟩ = some v := by rw [cell_row hv]; rfl
    have t0 : W2.cell? ⟨U, 0, none⟩ = some (.int .i64 (iAt x 0)) := by rw [cell_row FT]; rfl
    have t1 : W2.cell? ⟨U, 1, none⟩ = some (.int .i64 (iAt x 1)) := by rw [cell_row FT]; rfl
    have t2 : W2.cell? ⟨U, 2, none⟩ = some (.int .i64 (iAt x 2)) := by rw [cell_row FT]; rfl
    have t3 : W2.cell? ⟨U, 3, none⟩ = some (.int .i64 (iAt x 3)) := by rw [cell_row FT]; rfl
    have hTl2 := lt_of_block FT
    have hvl := lt_of_block hv
    obtain ⟨x0, h0⟩ : ∃ y, iAt x 0 = y := ⟨_, rfl⟩
    obtain ⟨x1, h1⟩ : ∃ y, iAt x 1 = y := ⟨_, rfl⟩
    obtain ⟨x2, h2⟩ : ∃ y, iAt x 2 = y := ⟨_, rfl⟩
    obtain ⟨x3, h3⟩ : ∃ y, iAt x 3 = y := ⟨_, rfl⟩
    have Hp4 := Lib.hid (show p4 x = [.int .i64 x0, .int .i64 x1, .int .i64 x2, .int .i64 x3] by unfold p4; rw [h0, h1, h2, h3])
    rw [h0] at t0 ⊢
    rw [h1] at t1 ⊢
    rw [h2] at t2 ⊢
    rw [h3] at t3 ⊢
    clear h0 h1 h2 h3
    have hbz := below_alloc_ W2 (.cells #[.int .i64 x0, .int .i64 x1, .int .i64 x2, .int .i64 x3] 79)
    have hz := heap_alloc_new_ W2 (.cells #[.int .i64 x0, .int .i64 x1, .int .i64 x2, .int .i64 x3] 79)
    have hob2 : (W2.alloc (.cells #[.int .i64 x0, .int .i64 x1, .int .i64 x2, .int .i64 x3] 79)).ownsRow 0 79 4 v pre.length (flatP pre) := own_keep (Mut := fun _ => False) ho (Keeps.of_new hbz) (fun _ _ e => e)
    obtain ⟨v', W3, hrun, hown3, hK3, hv3⟩ := app_one (n := pre.length) Try.underlying76 info79_ rfl (by omega) (by omega) hob2 (vals := [.int .i64 x0, .int .i64 x1, .int .i64 x2, .int .i64 x3]) rfl hz (by simp [Value.oneCell']) (by have := Hpl.out; omega)
    obtain ⟨C4, m4, cp4, rfl⟩ : ∃ C m cp, v' = .slice C m cp := by
      rcases hown3.2 with ⟨e, _⟩ | ⟨_, _, _, e, _⟩
      · exact ⟨_, _, _, e⟩
      · exact ⟨_, _, _, e⟩
    have hneT : ¬ (v.ownBlock = some T) := fun e => by have := HO.out _ (hob _ e); omega
    have hneT' : ¬ ((Value.slice C4 m4 cp4).ownBlock = some T) := fun e => by
      rcases hv3 with e' | ⟨e', _⟩
      · rw [e'] at e; exact hneT e
      · rw [e'] at e; have := hbz.size; have := Option.some.inj e; omega
    have hT3 := (hK3.block T (Nat.lt_of_lt_of_le hvl hbz.size) hneT).trans ((hbz.block _ hvl).trans hv)
    have hob3 : ∀ g, (Value.slice C4 m4 cp4).ownBlock = some g → O g ∨ (W2.heap.size ≤ g ∧ g < W3.heap.size) := fun g e => by
      rcases hv3 with e' | ⟨e', e''⟩
      · rw [e'] at e; exact .inl (hob g e)
      · rw [e'] at e; have := hbz.size; have := Option.some.inj e; exact .inr (by omega)
    have hKa : Keeps (fun k => k = T ∨ O k) W2 W3 := (Keeps.of_new hbz).trans (hK3.mono (fun k _ e => .inr (hob k e)))
    have c3 : W3.cell? ⟨T, 0, none⟩ = some v := by rw [cell_row hT3]; rfl
    have f3 : W3.frozen? ⟨T, 0, none⟩ = false := frozen_row hT3
    have hTs := set_same 0 (.slice C4 m4 cp4) hT3
    have hKs := keeps_setCell W3 T 0 (.slice C4 m4 cp4)
    have hown4 := own_keep hown3 hKs (fun k e e' => hneT' (e' ▸ e))
    have HTs := Lib.hid hTs
    have HKs := Lib.hid hKs
    have HKa := Lib.hid hKa
    have Ho4 := Lib.hid hown4
    have Hob3 := Lib.hid hob3
    have Hk2 := Lib.hid hk2
    replace hrun : runA Try.prog 76 v (.slice (some ⟨W2.heap.size, 0, none⟩) 1 1) (W2.alloc (.cells #[.int .i64 x0, .int .i64 x1, .int .i64 x2, .int .i64 x3] 79)) = .ok (.value (.slice C4 m4 cp4)) W3 := run_app hrun
    rw [hT2] at hrun
    have HT2 := Lib.hid hT2
    clear hbz hz hob2 hown3 hK3 hv3 hT3 hob3 hKa hTs hKs hown4 hk2 hv ho hob FT hneT hneT' hB2 hU
    gi_wp2_with fail
    try rw [hrun]
    gi_wp2_with fail
    refine ⟨fun k => O k ∨ (W2.heap.size ≤ k ∧ k < (W3.setCell ⟨T, 0, none⟩ (.slice C4 m4 cp4)).heap.size), ⟨fun _ e => .inl e, fun _ e => e⟩, HKa.out.trans (HKs.out.mono (fun k _ e => .inl e)), ⟨⟨(.slice C4 m4 cp4), HTs.out, ?_, fun g e => (Hob3.out g e).imp (fun e => e) (fun e => ⟨e.1, Nat.lt_of_lt_of_le e.2 HKs.out.size⟩)⟩, Hk2.out.trans ((HKa.out.mono (fun k _ e => e.elim .inr (fun e => .inl (HO.out k e).1))).trans (HKs.out.mono (fun k _ e => .inr e)))⟩⟩
    have h4 := Ho4.out
    rw [← Hp4.out, ← flatP_snoc] at h4
    rw [List.length_append, List.length_singleton]
    exact h4
  case done =>
    intro D2 W9 O hD2 hDW hDO hO hI9 hKd
    obtain ⟨⟨v, hv, ho, hob⟩, hk9⟩ := hI9
    have g0 : W9.cell? ⟨T, 0, none⟩ = some v := by rw [cell_row hv]; rfl
    have Hob := Lib.hid hob
    have Ho := Lib.hid ho
    have Hk9 := Lib.hid hk9
    have HKd := Lib.hid hKd
    have HO := Lib.hid hO
    have HDO := Lib.hid hDO
    clear hob hk9 hKd hv ho hseq hO hDO e1
    gi_wp2_with fail
    refine ⟨by simp, .inl ⟨_, _, rfl, run_takeDeferred HKd.out, ?_⟩⟩
    have hput : Keeps (fun j => j = D2) W9 (W9.putObj D2 (.deferred none)) := Keeps.putObj _ _ _ rfl
    refine ⟨_, results_tmp rfl _ _ _, ?_⟩
    have hT := HT.out
    refine ⟨v, rfl, own_keep Ho.out hput (fun k e e2 => HDO.out (e2 ▸ Hob.out k e)), fun g e => by have := HO.out g (Hob.out g e); omega, ?_⟩
    have h1 : Keeps (fun k => T ≤ k) w V := K1.out.none
    have h2 : Keeps (fun k => T ≤ k) V W9 := Hk9.out.mono (fun k _ e => by omega)
    have h4 : Keeps (fun k => T ≤ k) W9 (W9.putObj D2 (.deferred none)) := hput.mono (fun k _ e => by omega)
    exact ((h1.trans h2).trans h4).below (by omega) (fun k hk e => by omega)
end Go.Proofs.Ythdjbapidodlfaa

namespace Go.Proofs.Ythdjbapidodlfaa
set_option linter.unusedSimpArgs false
set_option linter.unusedVariables false
open Go.RowKit Go.Shelf
attribute [local go_sem ↓] exec_app at_app
attribute [local go_sem] Oper.semAt_some

theorem info40_ : (Try.prog.info? 40).map (fun i => (i.zero, i.size, i.bytes)) = some (some (.slice none 0 0), 1, 24) := by kernel_rfl
theorem make40 (n : Nat) (hn : n ≤ 1000) (W : World) : (Instr.makeSlice 40 (.int .i64 (n : Int)) (.int .i64 (n : Int))).run Try.prog W = .ok (.slice (some ⟨W.heap.size, 0, none⟩) n n) (W.alloc (.cells (flatI (List.replicate n 0)).toArray 3)) := by
  obtain ⟨i, hi, hz, hs, hb⟩ := info_parts info3_
  have h := run_makeSlice (P := Try.prog) W 40 3 i _ Try.underlying40 hi hz .i64 .i64 (n : Int) (n : Int) (by omega) (by omega) (by rw [hs]; omega) (by rw [hb]; omega) (by omega)
  simp only [Int.toNat_natCast, hs, Nat.mul_one] at h
  rw [h]
  have e : madeCells (Value.int IntKind.i64 0).cells n = (flatI (List.replicate n 0)).toArray := by
    apply Array.ext'
    have : (Value.int IntKind.i64 0).cells = #[Value.int IntKind.i64 0] := rfl
    rw [this, toList_madeCells_one]
    simp [flatI]
  rw [e]
theorem slice79 (U : Nat) (W : World) : (Instr.sliceAt 79 (.pointer (some ⟨U, 0, none⟩)) none none none).run Try.prog W = .ok (.slice (some ⟨U, 0, none⟩) 4 4) W := by kernel_rfl
theorem copy40 (Z U m : Nat) (p : List Int) (ty : TypeId) (W : World) (hZ : W.heap[Z]? = some (.cells (flatI (List.replicate m 0)).toArray 3 (0, 0))) (hU : W.heap[U]? = some (.cells (p4 p).toArray 79 (0, 0))) (hp : p.length = 4) (hm : m ≤ 4) :
    (Builtin.copy_ #[40, 38] ty #[.slice (some ⟨Z, 0, none⟩) m m, .slice (some ⟨U, 0, none⟩) 4 4]).run Try.prog W = .ok (.int .i64 (m : Int)) (W.setRow Z (flatI (p.take m)).toArray) := by
  obtain ⟨i, hi, hz, hs, hb⟩ := info_parts info3_
  have hl : (flatI (p.take m)).length = m := by rw [flatI_len, List.length_take, hp]; omega
  have h := run_copy_row (P := Try.prog) W 40 38 ty 3 Z 0 m m ⟨U, 0, none⟩ 4 4 (flatI (List.replicate m 0)).toArray 3 (flatI (p.take m)) Try.underlying40 (by rw [hi]; simp [hs]) hZ (by rw [hl]; exact (Nat.min_eq_right hm).symm)
    (fun j v hj => by
      rw [Addr.add_lit, Nat.zero_add, cell_row hU, List.getElem?_toArray]
      have hj2 : j < m := by
        have := (List.getElem?_eq_some_iff.1 hj).1
        omega
      match p, hp with
      | [a, b, c, d], _ =>
        have e : (flatI ([a, b, c, d].take m))[j]? = (flatI [a, b, c, d])[j]? := by
          unfold flatI
          rw [List.map_take, List.getElem?_take_of_lt hj2]
        rw [e] at hj
        have hj4 : j < 4 := by omega
        match j, hj4 with
        | 0, _ => simpa [flatI, p4, iAt] using hj
        | 1, _ => simpa [flatI, p4, iAt] using hj
        | 2, _ => simpa [flatI, p4, iAt] using hj
        | 3, _ => simpa [flatI, p4, iAt] using hj) (by rw [hl]; simp [flatI]) (fun v hv => by
      obtain ⟨x, _, rfl⟩ := List.mem_map.1 hv
      rfl)
  rw [h]
  have e : (List.take 0 (flatI (List.replicate m 0)).toArray.toList ++ flatI (p.take m) ++ List.drop (0 + (flatI (p.take m)).length) (flatI (List.replicate m 0)).toArray.toList) = flatI (p.take m) := by
    rw [hl]
    simp [flatI]
  rw [e, hl]
  rfl
/-- What the telling keeps. -/
def TeI (N0 m : Nat) (ms : List (List Int)) (w : World) (k : Nat) (v : Value) (W : World) : Prop :=
  ∃ Zs : List Nat, Zs.length = k ∧ W.ownsRow 0 40 1 v k (Zs.map fun Z => .slice (some ⟨Z, 0, none⟩) m m) ∧
    (∀ j Z, Zs[j]? = some Z → RowI W Z ((lAt ms j).take m) ∧ N0 ≤ Z ∧ v.ownBlock ≠ some Z) ∧ (∀ g, v.ownBlock = some g → N0 ≤ g ∧ g < W.heap.size) ∧ Below N0 w W
theorem TeI.lns {N0 m N : Nat} {ms : List (List Int)} {w W : World} {v : Value} (h : TeI N0 m ms w N v W) (hl : ms.length = N) (hp : ∀ p ∈ ms, p.length = 4) (hm : m ≤ 4) :
    ∃ C cap, v = .slice C N cap ∧ N ≤ cap ∧ Lns W C N (ms.map (·.take m)) := by
  obtain ⟨Zs, hz, ho, hr, _, _⟩ := h
  have hat : ∀ j, j < N → lAt (ms.map (·.take m)) j = (lAt ms j).take m ∧ ((lAt ms j).take m).length = m := fun j hj => by
    have h1 : j < ms.length := by omega
    refine ⟨by rw [lAt_eq (by simpa using h1), lAt_eq h1]; simp, ?_⟩
    rw [List.length_take, lAt_eq h1, hp _ (List.getElem_mem h1)]
    exact Nat.min_eq_left hm
  rcases ho.2 with ⟨rfl, h0⟩ | ⟨g, cap, cur, rfl, hb, hg, hc, _, hsz, htake⟩
  · rw [h0]
    exact ⟨none, 0, rfl, Nat.le_refl _, by rw [List.length_map]; omega, by omega⟩
  · refine ⟨_, cap, rfl, hc, by simpa using hl, fun _ => ⟨g, 0, rfl, fun j hj => ?_⟩⟩
    obtain ⟨h1, h2⟩ := hat j hj
    rw [h1, h2]
    obtain ⟨Z, hZ⟩ : ∃ Z, Zs[j]? = some Z := ⟨Zs[j]'(by omega), List.getElem?_eq_getElem _⟩
    obtain ⟨q1, q2, q3⟩ := hr j Z hZ
    refine ⟨some ⟨Z, 0, none⟩, m, ?_, ?_, Nat.le_refl _⟩
    · rw [Nat.zero_add, cell_row hg, ← Array.getElem?_toList, ← List.getElem?_take_of_lt (show j < N * 1 by omega), htake]
      simp [hZ]
    · have := q1.ints
      rwa [h2] at this
set_option maxRecDepth 100000 in
set_option maxHeartbeats 8000000 in
theorem tell53 (B D : Nat) (A : Option Addr) (n cap : Nat) (nm : List Int) (M : Nat) (A2 : Option Addr) (m cap2 : Nat) (L : List (List Int)) (C : Option Addr) (N c : Nat) (ms : List (List Int)) (w : World)
    (h : Bo w B D A n cap nm M A2 m cap2 L) (hm1 : 2 ≤ m) (hm : m ≤ 4) (hP : Pls w C N ms) (hp : ∀ p ∈ ms, p.length = 4) (hN : N ≤ 5000) :
    Calls Try.prog 53 #[.pointer (some ⟨B, 0, none⟩), .slice C N c] w fun e w' => ∃ C' cap', e = .returned (.slice C' N cap') ∧ Lns w' C' N (ms.map (·.take m)) ∧ N ≤ cap' ∧ Below w.heap.size w w' := by
  have HB := Lib.hid h
  have HP := Lib.hid hP
  have Hp := Lib.hid hp
  clear h hP hp
  go_enter Try.func53, Try.ntmps53
  go_wp2_with fail
  go_loopw [5, 7, 8, 11] (fun v a b i wr => ∃ k : Nat, k ≤ N ∧ i = .int .i64 (k : Int) ∧ Hid (TeI w.heap.size m ms w k v wr)) (fun v a b i _ => N - (intOf i).toNat)
  case atStart => exact ⟨0, Nat.zero_le _, rfl, Lib.hid ⟨[], rfl, ⟨rfl, .inl ⟨rfl, rfl⟩⟩, fun j Z e => by simp at e, fun g e => (by cases e), Below.refl _ _⟩⟩
  case round =>
    obtain ⟨k, hk, rfl, HI⟩ := hrel
    by_cases hlt : k < N
    · obtain ⟨bP, rfl, hcP⟩ := HP.out.2 (by omega)
      obtain ⟨Zs, hz, ho, hr, hob, hbl⟩ := HI.out
      have y0 := (hbl.cell (p := ⟨bP, k * 4 + 0, none⟩) (lt_of_cell (hcP k hlt 0 (by omega)))).trans (hcP k hlt 0 (by omega))
      have y1 := (hbl.cell (p := ⟨bP, k * 4 + 1, none⟩) (lt_of_cell (hcP k hlt 1 (by omega)))).trans (hcP k hlt 1 (by omega))
      have y2 := (hbl.cell (p := ⟨bP, k * 4 + 2, none⟩) (lt_of_cell (hcP k hlt 2 (by omega)))).trans (hcP k hlt 2 (by omega))
      have y3 := (hbl.cell (p := ⟨bP, k * 4 + 3, none⟩) (lt_of_cell (hcP k hlt 3 (by omega)))).trans (hcP k hlt 3 (by omega))
      rw [Nat.add_zero] at y0
      have hpl : (lAt ms k).length = 4 := by
        have hkl : k < ms.length := by have := HP.out.1; omega
        rw [lAt_eq hkl]; exact Hp.out _ (List.getElem_mem hkl)
      obtain ⟨p, hpe⟩ : ∃ p, lAt ms k = p := ⟨_, rfl⟩
      rw [hpe] at y0 y1 y2 y3 hpl
      have i0 : (0 : Int) ≤ (k : Int) := by omega
      have i1 : (k : Int) < (N : Int) := by omega
      have Hpe := Lib.hid hpe
      have HZ := Lib.hid hz
      have HO := Lib.hid ho
      have HR := Lib.hid hr
      have HOb := Lib.hid hob
      have HBl := Lib.hid hbl
      have hb1 := below_alloc_ wr (.cells #[.int .i64 (iAt p 0), .int .i64 (iAt p 1), .int .i64 (iAt p 2), .int .i64 (iAt p 3)] 79)
      have c1 := ((HB.out.below hbl (Nat.le_refl _)).below hb1 (Nat.le_refl _)).c1
      have hmk := fun W => make40 m (by omega) W
      have hs79 := fun W => slice79 wr.heap.size W
      have hU : ((wr.alloc (.cells #[.int .i64 (iAt p 0), .int .i64 (iAt p 1), .int .i64 (iAt p 2), .int .i64 (iAt p 3)] 79)).alloc (.cells (flatI (List.replicate m 0)).toArray 3)).heap[wr.heap.size]? = some (.cells (p4 p).toArray 79 (0, 0)) := hal_old (heap_alloc_new_ _ _)
      have hZb : ((wr.alloc (.cells #[.int .i64 (iAt p 0), .int .i64 (iAt p 1), .int .i64 (iAt p 2), .int .i64 (iAt p 3)] 79)).alloc (.cells (flatI (List.replicate m 0)).toArray 3)).heap[wr.heap.size + 1]? = some (.cells (flatI (List.replicate m 0)).toArray 3 (0, 0)) := hal_new (by simp)
      have hcp := copy40 (wr.heap.size + 1) wr.heap.size m p 3 ((wr.alloc (.cells #[.int .i64 (iAt p 0), .int .i64 (iAt p 1), .int .i64 (iAt p 2), .int .i64 (iAt p 3)] 79)).alloc (.cells (flatI (List.replicate m 0)).toArray 3)) hZb hU hpl hm
      have HZb := Lib.hid hZb
      have hsY := eq_le (show ((wr.alloc (.cells #[.int .i64 (iAt p 0), .int .i64 (iAt p 1), .int .i64 (iAt p 2), .int .i64 (iAt p 3)] 79)).alloc (.cells (flatI (List.replicate m 0)).toArray 3)).heap.size = wr.heap.size + 2 by simp)
      have HsY := Lib.hid hsY
      have HKY := Lib.hid (show Keeps (fun _ => False) wr ((wr.alloc (.cells #[.int .i64 (iAt p 0), .int .i64 (iAt p 1), .int .i64 (iAt p 2), .int .i64 (iAt p 3)] 79)).alloc (.cells (flatI (List.replicate m 0)).toArray 3)) from (keep_alloc _ _ _).trans (keep_alloc _ _ _))
      clear hcP hpe hz ho hr hob hbl HI hb1 hU hZb hsY
      go_wp2_with fail
      clear c1 hmk hs79 hcp y0 y1 y2 y3
      have hk0 := keeps_setRow ((wr.alloc (.cells #[.int .i64 (iAt p 0), .int .i64 (iAt p 1), .int .i64 (iAt p 2), .int .i64 (iAt p 3)] 79)).alloc (.cells (flatI (List.replicate m 0)).toArray 3)) (wr.heap.size + 1) (flatI (p.take m)).toArray
      have hs0 := setRow_size ((wr.alloc (.cells #[.int .i64 (iAt p 0), .int .i64 (iAt p 1), .int .i64 (iAt p 2), .int .i64 (iAt p 3)] 79)).alloc (.cells (flatI (List.replicate m 0)).toArray 3)) (wr.heap.size + 1) (flatI (p.take m)).toArray
      have hr0 := setRow_same (flatI (p.take m)).toArray HZb.out
      obtain ⟨V, hV⟩ : ∃ V, ((wr.alloc (.cells #[.int .i64 (iAt p 0), .int .i64 (iAt p 1), .int .i64 (iAt p 2), .int .i64 (iAt p 3)] 79)).alloc (.cells (flatI (List.replicate m 0)).toArray 3)).setRow (wr.heap.size + 1) (flatI (p.take m)).toArray = V := ⟨_, rfl⟩
      rw [hV] at hk0 hs0 hr0 ⊢
      have hVs : V.heap.size = wr.heap.size + 1 + 1 := hs0.trans (Nat.le_antisymm HsY.out.1 HsY.out.2)
      have hKV : Keeps (fun _ => False) wr V := keeps_old ((HKY.out.none).trans (hk0.mono (fun k _ e => .inr (by omega))))
      have hbz := below_alloc_ V (.cells #[.slice (some ⟨wr.heap.size + 1, 0, none⟩) m m] 40)
      have hzz := heap_alloc_new_ V (.cells #[.slice (some ⟨wr.heap.size + 1, 0, none⟩) m m] 40)
      have hK1 : Keeps (fun _ => False) wr (V.alloc (.cells #[.slice (some ⟨wr.heap.size + 1, 0, none⟩) m m] 40)) := hKV.trans (keep_alloc _ _ _)
      have hown1 := own_keep HO.out hK1 (fun _ _ e => e)
      obtain ⟨v', W5, hrun, hown5, hK5, hv5⟩ := app_one (n := k) Try.underlying31 info40_ rfl (by omega) (by omega) hown1 (vals := [.slice (some ⟨wr.heap.size + 1, 0, none⟩) m m]) rfl hzz (by simp [Value.oneCell']) (by omega)
      replace hrun : runA Try.prog 31 u5 (.slice (some ⟨V.heap.size, 0, none⟩) 1 1) (V.alloc (.cells #[.slice (some ⟨wr.heap.size + 1, 0, none⟩) m m] 40)) = .ok (.value v') W5 := run_app hrun
      rw [hVs] at hrun
      have hS5 : (V.alloc (.cells #[.slice (some ⟨wr.heap.size + 1, 0, none⟩) m m] 40)).heap.size = wr.heap.size + 3 := by simp; omega
      have hKA : Keeps (fun k => u5.ownBlock = some k) wr W5 := hK1.none.trans hK5
      have hrow : RowI W5 (wr.heap.size + 1) (p.take m) := by
        have h1 : RowI V (wr.heap.size + 1) (p.take m) := ⟨[], by rw [List.append_nil]; exact hr0⟩
        exact (h1.keep (keep_alloc (fun _ => False) V (.cells #[.slice (some ⟨wr.heap.size + 1, 0, none⟩) m m] 40)) (fun e => e)).keep hK5 (fun e => by have := (HOb.out _ e).2; omega)
      have HN := Lib.hid (show TeI w.heap.size m ms w (k + 1) v' W5 from ⟨Zs ++ [wr.heap.size + 1], by rw [List.length_append, HZ.out]; rfl, by rw [List.map_append]; exact hown5, fun j Z hj => by
        rcases Nat.lt_or_ge j k with hjk | hjk
        · rw [List.getElem?_append_left (by rw [HZ.out]; exact hjk)] at hj
          obtain ⟨q1, q2, q3⟩ := HR.out j Z hj
          refine ⟨q1.keep hKA q3, q2, fun e => ?_⟩
          rcases hv5 with e' | ⟨e', _⟩
          · rw [e'] at e; exact q3 e
          · rw [e', hS5] at e
            obtain ⟨rest, h1⟩ := q1
            have := lt_of_block h1
            have := Option.some.inj e
            omega
        · rw [List.getElem?_append_right (by rw [HZ.out]; exact hjk), HZ.out] at hj
          have hjk2 : j = k := by
            rcases Nat.eq_or_lt_of_le hjk with e | e
            · exact e.symm
            · rw [List.getElem?_eq_none (by simp; omega)] at hj; cases hj
          subst hjk2
          have hZe : wr.heap.size + 1 = Z := by simpa using hj
          rw [← hZe]
          refine ⟨by rw [Hpe.out]; exact hrow, by have := HBl.out.size; omega, fun e => ?_⟩
          rcases hv5 with e' | ⟨e', _⟩
          · rw [e'] at e; have := (HOb.out _ e).2; omega
          · rw [e', hS5] at e; have := Option.some.inj e; omega,
        fun g e => by
          have h1 := hKA.size
          have h2 := HBl.out.size
          rcases hv5 with e' | ⟨e', e''⟩
          · rw [e'] at e; have := HOb.out g e; omega
          · rw [e', hS5] at e; rw [hS5] at e''; have := Option.some.inj e; omega,
        HBl.out.trans (hKA.below HBl.out.size (fun k hk e => by have := (HOb.out k e).1; omega))⟩)
      obtain ⟨C4, m4, cp4, rfl⟩ : ∃ C m cp, v' = .slice C m cp := by
        rcases hown5.2 with ⟨e, _⟩ | ⟨_, _, _, e, _⟩
        · exact ⟨_, _, _, e⟩
        · exact ⟨_, _, _, e⟩
      clear hk0 hs0 hr0 hV hVs hKV hbz hzz hK1 hown1 hown5 hK5 hv5 hS5 hKA hrow HZb HsY HKY
      rw [hrun]
      go_wp2_with fail
      go_roundw
      case rel => exact ⟨k + 1, by omega, by go_num, HN⟩
      case measure => simp [intOf]; omega
    · have e : k = N := by omega
      subst e
      obtain ⟨C', cap', rfl, hc', hl'⟩ := HI.out.lns HP.out.1 Hp.out hm
      have hbl := HI.out.choose_spec.2.2.2.2
      have HL := Lib.hid hl'
      have HBl := Lib.hid hbl
      clear hl' hbl HI
      go_wp2_with fail
      go_ret
      exact ⟨_, _, rfl, HL.out, hc', HBl.out⟩
end Go.Proofs.Ythdjbapidodlfaa

namespace Go.Proofs.Ythdjbapidodlfaa
set_option linter.unusedSimpArgs false
set_option linter.unusedVariables false
open Go.RowKit Go.Shelf
attribute [local go_sem ↓] exec_app at_app
attribute [local go_sem] Oper.semAt_some

theorem len_flatMap_le {α : Type} (l : List Nat) (f : Nat → List α) (b : Nat) (h : ∀ i, i ∈ l → (f i).length ≤ b) : (l.flatMap f).length ≤ l.length * b := by
  induction l with
  | nil => simp
  | cons a t ih =>
    simp only [List.flatMap_cons, List.length_append, List.length_cons]
    have h1 := h a (by simp)
    have h2 := ih (fun i hi => h i (by simp [hi]))
    rw [Nat.add_mul]
    omega
theorem cmpS_len {nm : List Int} {L : List (List Int)} {m : Nat} (hL : LV L m) (cl : Int) : ∀ (d h : Nat) (p : List Int), h + d = m → p.length = 4 → (cmpS nm L cl d p h).length ≤ 8 ^ d ∧ ∀ x ∈ cmpS nm L cl d p h, x.length = 4 := by
  intro d
  induction d with
  | zero => intro h p _ hp; exact ⟨by simp [cmpS], fun x hx => by simp only [cmpS, List.mem_singleton] at hx; rw [hx]; exact hp⟩
  | succ d ih =>
    intro h p hd hp
    constructor
    · have h8 := hL.le8 h (by omega)
      have h1 : (cmpS nm L cl (d + 1) p h).length ≤ (List.range (lAt L h).length).length * 8 ^ d := len_flatMap_le _ _ _ (fun i _ => by
        split
        · exact (ih (h + 1) (p.set h (i : Int)) (by omega) (by rw [List.length_set]; exact hp)).1
        · exact Nat.zero_le _)
      rw [List.length_range] at h1
      have h2 : (lAt L h).length * 8 ^ d ≤ 8 * 8 ^ d := Nat.mul_le_mul_right _ h8
      rw [Nat.pow_succ]
      omega
    · intro x hx
      obtain ⟨i, _, hx2⟩ := List.mem_flatMap.1 hx
      split at hx2
      · exact (ih (h + 1) (p.set h (i : Int)) (by omega) (by rw [List.length_set]; exact hp)).2 x hx2
      · simp at hx2
theorem mtS_len {nm : List Int} {L : List (List Int)} {m : Nat} (hL : LV L m) : (mtS nm L).length ≤ 4096 ∧ ∀ x ∈ mtS nm L, x.length = 4 := by
  have hlo := hL.lo
  have hhi := hL.hi
  have hlen := hL.len
  have h0 := hL.le8 0 (by omega)
  constructor
  · have h1 : (mtS nm L).length ≤ (List.range (lAt L 0).length).length * 8 ^ (L.length - 1) := len_flatMap_le _ _ _ (fun i _ => (cmpS_len hL _ (L.length - 1) 1 [(i : Int), 0, 0, 0] (by omega) rfl).1)
    rw [List.length_range] at h1
    have h2 : (lAt L 0).length * 8 ^ (L.length - 1) ≤ 8 * 8 ^ (L.length - 1) := Nat.mul_le_mul_right _ h0
    have h3 : (8 : Nat) ^ (L.length - 1) ≤ 8 ^ 3 := Nat.pow_le_pow_right (by omega) (by omega)
    omega
  · intro x hx
    obtain ⟨i, _, hx2⟩ := List.mem_flatMap.1 hx
    exact (cmpS_len hL _ (L.length - 1) 1 [(i : Int), 0, 0, 0] (by omega) rfl).2 x hx2
set_option maxRecDepth 100000 in
set_option maxHeartbeats 4000000 in
theorem collect54 {gf : Nat} {lb : Array Value} {xs : List (List Int)} {Need : Nat → Prop} {w : World} (eg : ∀ args w, (callFunc gf args).run Try.prog w = .ok (.enter gf args) w) (hseq : SeqO Try.prog gf lb (fun x => #[plA x]) xs Need w) (hNeed : ∀ k, Need k → k < w.heap.size) (hn : xs.length ≤ 5000) :
    Calls Try.prog 54 #[.func (.func gf) #[] lb] w fun e w' => ∃ C cap, e = .returned (.slice C xs.length cap) ∧ xs.length ≤ cap ∧ Pls w' C xs.length xs ∧ (∀ b o, C = some ⟨b, o, none⟩ → w.heap.size ≤ b ∧ o = 0) ∧ Below w.heap.size w w' := by
  have Key := Lib.hid (append73 eg hseq hNeed hn)
  clear hseq hNeed hn eg
  go_enter Try.func54, Try.ntmps54
  go_wp2_with fail
  refine Key.out.mono ?_
  rintro en w1 ⟨v, rfl, ho, hob, hb⟩
  obtain ⟨C, cap, rfl, hc, hp, hC⟩ := pls_own rfl ho
  have HP := Lib.hid hp
  have HB := Lib.hid hb
  have HC := Lib.hid (show ∀ b o, C = some ⟨b, o, none⟩ → w.heap.size ≤ b ∧ o = 0 from fun b o e => ⟨hob b (hC b o e).1, (hC b o e).2⟩)
  clear Key hp hb ho hob hC
  go_wp2_with fail
  go_ret
  exact ⟨_, _, rfl, hc, HP.out, HC.out, HB.out⟩
set_option maxRecDepth 100000 in
set_option maxHeartbeats 4000000 in
theorem matches55 (B : Nat) (w : World) : Calls Try.prog 55 #[.pointer (some ⟨B, 0, none⟩)] w fun e w' => ∃ P1, e = .returned (.func (.func 74) #[] #[.pointer (some ⟨P1, 0, none⟩)]) ∧ w'.cell? ⟨P1, 0, none⟩ = some (.pointer (some ⟨B, 0, none⟩)) ∧ w.heap.size ≤ P1 ∧ P1 < w'.heap.size ∧ Below w.heap.size w w' := by
  have hb0 := below_alloc_ w (.cells #[.pointer (some ⟨B, 0, none⟩)] 72)
  have hr0 := heap_alloc_new_ w (.cells #[.pointer (some ⟨B, 0, none⟩)] 72)
  have hs0 : w.heap.size < (w.alloc (.cells #[.pointer (some ⟨B, 0, none⟩)] 72)).heap.size := by simp
  have B0 := Lib.hid hb0
  have R0 := Lib.hid hr0
  have S0 := Lib.hid hs0
  clear hb0 hr0 hs0
  go_enter Try.func55, Try.ntmps55
  go_wp2_with fail
  go_ret
  exact ⟨_, rfl, by rw [cell_row R0.out]; rfl, Nat.le_refl _, S0.out, B0.out⟩
set_option maxRecDepth 100000 in
set_option maxHeartbeats 4000000 in
theorem matches17 (A : Option Addr) (n cap : Nat) (zs : List Rg) (A2 : Option Addr) (m cap2 : Nat) (L : List (List Int)) (w : World) (h : Rgs w A n zs) (hL : Lns w A2 m L) (hm : m ≤ 9223372036854775807) :
    Calls Try.prog 17 #[.agg #[.slice A n cap], .slice A2 m cap2] w fun e w' => Below w.heap.size w w' ∧
      ((chkL zs L = 0 ∧ ∃ C N c, e = .returned (.tuple #[.slice C N c, .int .i64 0]) ∧ Lns w' C N ((mtS (cls (prs zs)) L).map (·.take m)) ∧ N ≤ c) ∨
       (chkL zs L ≠ 0 ∧ e = .returned (.tuple #[.slice none 0 0, .int .i64 (chkL zs L)]))) := by
  have Hlen := Lib.hid hL.1
  have hb0 := below_alloc_ w (.cells #[.slice A n cap] 24)
  have hr0 := heap_alloc_new_ w (.cells #[.slice A n cap] 24)
  obtain ⟨W0, hW0⟩ : ∃ W0, w.alloc (.cells #[.slice A n cap] 24) = W0 := ⟨_, rfl⟩
  obtain ⟨R, hR⟩ : ∃ R, w.heap.size = R := ⟨_, rfl⟩
  rw [hW0] at hb0 hr0
  rw [hR] at hr0
  have S := Lib.hid (h.below hb0 (Nat.le_refl _))
  have X := Lib.hid (hL.below hb0 (Nat.le_refl _))
  have B0 := Lib.hid hb0
  have HW0 := Lib.hid hW0
  have HR := Lib.hid hR
  have r0 : W0.cell? ⟨R, 0, none⟩ = some (.slice A n cap) := by rw [cell_row hr0]; rfl
  have Hm := Lib.hid hm
  clear h hL hb0 hr0 hW0 hR hm
  go_enter Try.func17, Try.ntmps17
  go_wp2_with fail
  rw [HW0.out]
  try rw [HR.out]
  try go_wp2_with fail
  refine (lay52 A n cap zs A2 m cap2 L W0 S.out X.out Hm.out).mono ?_
  rintro en w1 ⟨hb, (⟨h0, B, D, M, rfl, hbo, hB1, hD1⟩ | ⟨h0, rfl⟩)⟩
  rotate_left
  · obtain ⟨c, hc⟩ : ∃ c, chkL zs L = c := ⟨_, rfl⟩
    rw [hc] at h0 ⊢
    have Hc := Lib.hid hc
    clear hc
    have d0 : (c != 0) = true := by rw [bne_iff_ne]; exact h0
    have HB := Lib.hid (B0.out.trans (hb.mono B0.out.size))
    clear hb r0
    go_wp2_with fail
    refine bodyPost_ret (v := .tuple #[.slice none 0 0, .int .i64 c]) (by simp [results, Try.results17, go_sem]) rfl ?_
    exact ⟨HB.out, .inr ⟨by rw [Hc.out]; exact h0, by rw [Hc.out]⟩⟩
  have HB := Lib.hid (B0.out.trans (hb.mono B0.out.size))
  have Hbo := Lib.hid hbo
  have H0 := Lib.hid h0
  have HLV := Lib.hid (lv_of Hlen.out h0)
  obtain ⟨nm, hnm⟩ : ∃ nm, cls (prs zs) = nm := ⟨_, rfl⟩
  rw [hnm] at Hbo
  have Hnm := Lib.hid hnm
  clear hb r0 hbo h0 hnm hB1 hD1
  go_wp2_with fail
  refine (matches55 B w1).mono ?_
  rintro en w2 ⟨P1, rfl, c1, hP1, hP2, hb2⟩
  have hseq := matches74 HLV.out w1 w2 Hbo.out hb2 P1 c1
  have Hcol := Lib.hid (collect54 (enters_of Try.func74 (by kernel_rfl) rfl) hseq (fun k e => by rcases e with e | e <;> have := hb2.size <;> omega) (by have := (mtS_len (nm := nm) HLV.out).1; omega))
  have HB2 := Lib.hid hb2
  clear hseq c1 hP1 hP2 hb2
  go_wp2_with fail
  refine Hcol.out.mono ?_
  rintro en w3 ⟨C, c, rfl, hc, hP, hC, hb3⟩
  have HB3 := Lib.hid (HB2.out.trans (hb3.mono HB2.out.size))
  have Hp := Lib.hid hP
  have hml := (mtS_len (nm := nm) HLV.out)
  have Htel := Lib.hid (tell53 B D A n cap nm M A2 m cap2 L C (mtS nm L).length c (mtS nm L) w3 (Hbo.out.below HB3.out (Nat.le_refl _)) HLV.out.lo HLV.out.hi hP hml.2 (by have := hml.1; omega))
  obtain ⟨N, hN⟩ : ∃ N, (mtS nm L).length = N := ⟨_, rfl⟩
  rw [hN] at Htel hc ⊢
  clear hP hC hb3 Hcol hml hN
  go_wp2_with fail
  refine Htel.out.mono ?_
  rintro en w4 ⟨C', c', rfl, hl, hc', hb4⟩
  have HL4 := Lib.hid hl
  have HB4 := Lib.hid (HB.out.trans ((HB3.out.trans (hb4.mono HB3.out.size)).mono HB.out.size))
  clear hl hb4 Htel
  go_wp2_with fail
  refine bodyPost_ret (v := .tuple #[.slice C' N c', .int .i64 0]) (by simp [results, Try.results17, go_sem]) rfl ?_
  exact ⟨HB4.out, .inl ⟨H0.out, C', N, c', rfl, by rw [Hnm.out]; exact HL4.out, hc'⟩⟩
end Go.Proofs.Ythdjbapidodlfaa
