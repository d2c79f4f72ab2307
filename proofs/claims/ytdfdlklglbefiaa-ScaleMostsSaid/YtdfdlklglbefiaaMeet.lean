/- Stage 3: meet: the tones that a step meets are marked. -/
import Derived.Test.YtdfdlklglbefiaaSet
namespace Go.Proofs.Ytdfdlklglbefiaa
set_option linter.unusedSimpArgs false
set_option linter.unusedVariables false
open Go.RowKit Go.Shelf

/-- The marks behind a step, of the first k tones. -/
def metK (zs : List Rg) (mt : Nat → Bool) (x : Int) (k : Nat) : Nat → Bool := fun j => mt j || (decide (j < k) && onR x (gAt zs j))
theorem metK_zero (zs : List Rg) (mt : Nat → Bool) (x : Int) : metK zs mt x 0 = mt := by funext j; simp [metK]
theorem metK_on {zs : List Rg} {mt : Nat → Bool} {x : Int} {k : Nat} (h : onR x (gAt zs k) = true) : mark (metK zs mt x k) k = metK zs mt x (k + 1) := by
  funext j
  unfold mark metK
  by_cases e : j = k
  · subst e; simp [h]
  · by_cases hl : j < k
    · simp [hl, e, show j < k + 1 by omega]
    · simp [hl, e, show ¬ j < k + 1 by omega]
theorem metK_off {zs : List Rg} {mt : Nat → Bool} {x : Int} {k : Nat} (h : onR x (gAt zs k) = false) : metK zs mt x k = metK zs mt x (k + 1) := by
  funext j
  unfold metK
  by_cases e : j = k
  · subst e; simp [h]
  · by_cases hl : j < k
    · simp [hl, show j < k + 1 by omega]
    · simp [hl, show ¬ j < k + 1 by omega]
theorem ints_one {W : World} {Z : Nat} {a : Int} {t : TypeId} (h : W.heap[Z]? = some (.cells #[.int .i64 a] t (0, 0))) : Ints W (some ⟨Z, 0, none⟩) 1 [a] :=
  ⟨rfl, fun _ => ⟨Z, 0, rfl, fun j hj => by
    simp only [cell_row h]
    match j, hj with
    | 0, _ => rfl⟩⟩
theorem with1 (lo hi x : Int) : withI lo hi [x] = onR x ⟨lo, hi⟩ := by simp [withI, inB, onR]
theorem Bd.keep {w w' : World} {B : Nat} {C : Option Addr} {n cap : Nat} {zs : List Rg} {mt : Nat → Bool} {Mut : Nat → Prop} (h : Bd w B C n cap zs mt) (hK : Keeps Mut w w') (hB : ¬ Mut B) (hm : ∀ k o, Mut k → C ≠ some ⟨k, o, none⟩) : Bd w' B C n cap zs mt :=
  ⟨(hK.block _ (lt_of_block h.row) hB).trans h.row, h.tns.keep hK hm, h.cap, h.ne⟩
theorem Bd.mark {w : World} {B : Nat} {C : Option Addr} {n cap : Nat} {zs : List Rg} {mt : Nat → Bool} (h : Bd w B C n cap zs mt) {k : Nat} (hk : k < 24) : Bd (w.setCell ⟨B, 1 + k, none⟩ (.bool true)) B C n cap zs (mark mt k) := by
  have hk2 := keeps_setCell w B (1 + k) (.bool true)
  refine ⟨?_, h.tns.keep hk2 (fun j o e1 e2 => h.ne j o e2 e1), h.cap, h.ne⟩
  rw [set_same _ _ h.row, brdV_mark _ _ _ _ hk]
theorem Bd.c0 {w : World} {B : Nat} {C : Option Addr} {n cap : Nat} {zs : List Rg} {mt : Nat → Bool} (h : Bd w B C n cap zs mt) : w.cell? ⟨B, 0, none⟩ = some (.slice C n cap) := by rw [cell_row h.row]; exact brdV_0 _ _ _

set_option maxRecDepth 100000 in
set_option maxHeartbeats 4000000 in
theorem meet62 (B : Nat) (C : Option Addr) (n cap : Nat) (zs : List Rg) (mt : Nat → Bool) (x : Int) (w : World) (h : Bd w B C n cap zs mt) (hn : n ≤ 24) :
    Calls Try.prog 62 #[.pointer (some ⟨B, 0, none⟩), .int .i64 x] w fun e w' => e = .returned (.tuple #[]) ∧ Bd w' B C n cap zs (metK zs mt x n) ∧ Keeps (fun k => k = B) w w' := by
  have c0 := h.c0
  go_enter Try.func62, Try.ntmps62
  go_wp2_with fail
  clear c0
  go_loopw [11] (fun i wr => ∃ k : Nat, k ≤ n ∧ i = .int .i64 (k : Int) ∧ Bd wr B C n cap zs (metK zs mt x k) ∧ Keeps (fun j => j = B) w wr) (fun i _ => n - (intOf i).toNat)
  case atStart => exact ⟨0, Nat.zero_le _, rfl, by rw [metK_zero]; exact h, Keeps.refl _ _⟩
  case round =>
    obtain ⟨k, hk, rfl, hb, hK⟩ := hrel
    obtain ⟨wk, rfl⟩ : ∃ wk, wk = wr := ⟨_, rfl⟩
    by_cases hlt : k < n
    · obtain ⟨hl, hc⟩ := hb.tns
      obtain ⟨b, o, rfl, hc2⟩ := hc (by omega)
      obtain ⟨c0, c1, c2⟩ := hc2 k hlt
      have hlen := hb.len
      unfold tnOf at c0 c1 c2
      rw [tAt_tnK (show k < zs.length by omega)] at c0 c1 c2
      have Hon := Lib.hid (fun hh => metK_on (zs := zs) (mt := mt) (x := x) (k := k) hh)
      have Hoff := Lib.hid (fun hh => metK_off (zs := zs) (mt := mt) (x := x) (k := k) hh)
      obtain ⟨g, hg⟩ : ∃ g, gAt zs k = g := ⟨_, rfl⟩
      simp only [hg] at c0 c1 c2 Hon Hoff
      have i0 : (0 : Int) ≤ (k : Int) := by omega
      have i1 : (k : Int) < (n : Int) := by omega
      have i2 : (k : Int) < 24 := by omega
      have Hb := Lib.hid hb
      have HK := Lib.hid hK
      clear hc hc2 hl hg hb hK h hlen
      go_wp2_with fail
      have hb2 := Hb.out.below ((below_alloc_ wk (.cells #[.int .i64 g.lo, .int .i64 g.hi, .int .i64 (k : Int)] 78)).trans ((below_alloc_ (wk.alloc (.cells #[.int .i64 g.lo, .int .i64 g.hi, .int .i64 (k : Int)] 78)) (.cells #[.int .i64 x] 2)).mono (by simp))) (Nat.le_refl _)
      have hK2 := (HK.out.trans (Keeps.of_new (below_alloc_ wk (.cells #[.int .i64 g.lo, .int .i64 g.hi, .int .i64 (k : Int)] 78)))).trans (Keeps.of_new (below_alloc_ (wk.alloc (.cells #[.int .i64 g.lo, .int .i64 g.hi, .int .i64 (k : Int)] 78)) (.cells #[.int .i64 x] 2)))
      have hR : ((wk.alloc (.cells #[.int .i64 g.lo, .int .i64 g.hi, .int .i64 (k : Int)] 78)).alloc (.cells #[.int .i64 x] 2)).heap[wk.heap.size]? = some (.cells #[.int .i64 g.lo, .int .i64 g.hi, .int .i64 (k : Int)] 78 (0, 0)) := hal_old (heap_alloc_new_ _ _)
      have hX : ((wk.alloc (.cells #[.int .i64 g.lo, .int .i64 g.hi, .int .i64 (k : Int)] 78)).alloc (.cells #[.int .i64 x] 2)).heap[wk.heap.size + 1]? = some (.cells #[.int .i64 x] 2 (0, 0)) := hal_new (by simp)
      obtain ⟨W1, hW1⟩ : ∃ W1, (wk.alloc (.cells #[.int .i64 g.lo, .int .i64 g.hi, .int .i64 (k : Int)] 78)).alloc (.cells #[.int .i64 x] 2) = W1 := ⟨_, rfl⟩
      rw [hW1] at hb2 hK2 hR hX ⊢
      obtain ⟨R, hRe⟩ : ∃ R, wk.heap.size = R := ⟨_, rfl⟩
      rw [hRe] at hR hX ⊢
      have Hb2 := Lib.hid hb2
      have HK2 := Lib.hid hK2
      have r2 : W1.cell? ⟨R, 2, none⟩ = some (.int .i64 (k : Int)) := by rw [cell_row hR]; rfl
      clear hW1 hRe c0 c1 c2 Hb HK hb2 hK2
      refine (within60 _ 1 1 [x] g.lo g.hi _ (ints_one hX) (by omega)).mono ?_
      rintro e w2 ⟨rfl, rfl⟩
      rw [with1]
      cases ho : onR x ⟨g.lo, g.hi⟩ with
      | false =>
        have Ho := Lib.hid ho
        clear ho
        go_wp2_with fail
        go_roundw
        case rel => exact ⟨k + 1, by omega, by go_num, by rw [← Hoff.out Ho.out]; exact Hb2.out, HK2.out⟩
        case measure => simp [intOf]; omega
      | true =>
        have Ho := Lib.hid ho
        clear ho
        have d1 : w2.cell? ⟨B, 1 + k, none⟩ = some (.bool (metK zs mt x k k)) := by rw [cell_row Hb2.out.row, brdV_met _ _ _ _ (by omega)]
        have d2 : w2.frozen? ⟨B, 1 + k, none⟩ = false := frozen_row Hb2.out.row
        have d3 : (k : Int).toNat = k := by omega
        go_wp2_with fail
        go_region
        all_goals (go_wp2_with fail)
        go_roundw
        case rel =>
          have hd : Bd w2.drew B (some ⟨b, o, none⟩) n cap zs (metK zs mt x k) := Hb2.out.below (drew_b w2 1) (Nat.le_refl _)
          have hf := hd.mark (k := k) (by omega)
          rw [Hon.out Ho.out] at hf
          exact ⟨k + 1, by omega, by go_num, hf, (HK2.out.trans (Keeps.of_new (drew_b w2 1))).trans (keeps_setCell _ _ _ _)⟩
        case measure => simp [intOf]; omega
    · have e : k = n := by omega
      subst e
      go_wp2_with fail
      go_end0
      exact ⟨rfl, hb, hK⟩
end Go.Proofs.Ytdfdlklglbefiaa
