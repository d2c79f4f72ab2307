/- Stage 4: a chart on which nothing is known. -/
import Derived.Test.YthdjbapidodlfaaFr
namespace Go.Proofs.Ythdjbapidodlfaa
set_option linter.unusedSimpArgs false
set_option linter.unusedVariables false
open Go.RowKit Go.Shelf
attribute [local go_sem ↓] exec_app at_app
attribute [local go_sem] Oper.semAt_some

set_option maxRecDepth 100000 in
set_option maxHeartbeats 16000000 in
theorem front78_zero {E : List Int → Int × Int} {mt : List (List Int)} {m : Nat} (H : FrH E mt m) (Cb B Me : Nat) (Ms : Nat → Nat) (ak : Int × Int) (Se : List Int → Option Value) (A2 : Option Addr) (cap2 : Nat) (p : List Int) (h : Nat) (hp : WPl m p) (hh : h < m) (h0 : iAt p h = 0) (nn : Nat) (w : World) (hc : Cht w Cb B Me Ms nn ak Se (fun h p => frK E mt m p h)) (hb : w.cell? ⟨B, 1, none⟩ = some (.slice A2 m cap2)) :
    Calls Try.prog 78 #[.pointer (some ⟨Cb, 0, none⟩), plA p, .int .i64 (h : Int)] w fun e w' => e = .returned (knV (frK E mt m p h)) ∧ Below w.heap.size w w' := by
  have HF := Lib.hid (frK_zero E (mt := mt) (p := p) hh (by omega) (fun x hx => ((H.wpl x hx).rng h hh).1))
  have HP := Lib.hid hp
  have hm4 := H.hi
  have k2 : Keeps (fun _ => False) w ((w.alloc (.cells #[.int .i64 (iAt p 0), .int .i64 (iAt p 1), .int .i64 (iAt p 2), .int .i64 (iAt p 3)] 79)).alloc (.cells #[.int .i64 0, .int .i64 0] 91)) := (keep_alloc _ _ _).trans (keep_alloc _ _ _)
  have e0 : RowP ((w.alloc (.cells #[.int .i64 (iAt p 0), .int .i64 (iAt p 1), .int .i64 (iAt p 2), .int .i64 (iAt p 3)] 79)).alloc (.cells #[.int .i64 0, .int .i64 0] 91)) w.heap.size p := ⟨hp.len, by rw [flat4 hp.len]; exact hal_old (heap_alloc_new_ _ _)⟩
  have e1 : ((w.alloc (.cells #[.int .i64 (iAt p 0), .int .i64 (iAt p 1), .int .i64 (iAt p 2), .int .i64 (iAt p 3)] 79)).alloc (.cells #[.int .i64 0, .int .i64 0] 91)).heap[w.heap.size + 1]? = some (.cells #[.int .i64 0, .int .i64 0] 91 (0, 0)) := hal_new (by simp)
  have c0 := (hc.below k2.new (Nat.le_refl _)).c0
  have b1 := (k2.new.cell (p := ⟨B, 1, none⟩) (lt_of_cell hb)).trans hb
  have z0 := e0.cell (j := h) (by omega)
  rw [h0] at z0
  have y0 : ((w.alloc (.cells #[.int .i64 (iAt p 0), .int .i64 (iAt p 1), .int .i64 (iAt p 2), .int .i64 (iAt p 3)] 79)).alloc (.cells #[.int .i64 0, .int .i64 0] 91)).cell? ⟨w.heap.size + 1, 0, none⟩ = some (.int .i64 0) := by rw [cell_row e1]; rfl
  have y1 : ((w.alloc (.cells #[.int .i64 (iAt p 0), .int .i64 (iAt p 1), .int .i64 (iAt p 2), .int .i64 (iAt p 3)] 79)).alloc (.cells #[.int .i64 0, .int .i64 0] 91)).cell? ⟨w.heap.size + 1, 1, none⟩ = some (.int .i64 0) := by rw [cell_row e1]; rfl
  have HE1 := Lib.hid e1
  have HK2 := Lib.hid k2.new
  have d1 : ((h : Int) == (m : Int)) = false := by rw [beq_eq_false_iff_ne]; omega
  have i0 : (0 : Int) ≤ (h : Int) := by omega
  have i2 : (h : Int) < 4 := by omega
  clear k2 e0 hc hp h0 hb y0 y1 e1
  unfold plA
  go_enter Try.func78, Try.ntmps78
  go_wp2_with fail
  refine bodyPost_ret (v := knV (0, 0)) (res_known Try.results78 (by rfl) HE1.out) rfl ?_
  exact ⟨by rw [HF.out], HK2.out⟩
/-- What is known of the matches in front of a place. -/
theorem front78 {E : List Int → Int × Int} {mt : List (List Int)} {m : Nat} (H : FrH E mt m) (Cb B Me : Nat) (Ms : Nat → Nat) (ak : Int × Int) (Se : List Int → Option Value) (A2 : Option Addr) (cap2 : Nat) (hBM : ∀ k, mutF Ms k → k ≠ B) :
    ∀ (d h : Nat), h + d = m → ∀ (t : Nat) (p : List Int), (h < m → (iAt p h).toNat = t) → WPl m p → (∀ i, i < h → 1 ≤ iAt p i) → Dealt E mt m p Se → ∀ (nn : Nat) (w : World), Cht w Cb B Me Ms nn ak Se (fun h p => frK E mt m p h) → w.cell? ⟨B, 1, none⟩ = some (.slice A2 m cap2) → nn + pb d t ≤ 900000000 →
      Calls Try.prog 78 #[.pointer (some ⟨Cb, 0, none⟩), plA p, .int .i64 (h : Int)] w fun e w' => e = .returned (knV (frK E mt m p h)) ∧ Cht w' Cb B Me Ms (nn + pb d t) ak Se (fun h p => frK E mt m p h) ∧ Keeps (mutF Ms) w w' := by
  intro d
  induction d with
  | zero =>
    intro h hd t p ht hp h1 hde nn w hc hb hnn
    obtain rfl : h = m := by omega
    refine (front78_end H Cb B Me Ms ak Se A2 cap2 p hp hde nn w hc hb).mono ?_
    rintro e w' ⟨rfl, hb⟩
    exact ⟨rfl, (hc.below hb (Nat.le_refl _)).mono (by omega), Keeps.of_new hb⟩
  | succ d ihd =>
    intro h hd t
    induction t with
    | zero =>
      intro p ht hp h1 hde nn w hc hb hnn
      have h2 := ht (by omega)
      have h3 := (hp.rng h (by omega)).1
      refine (front78_zero H Cb B Me Ms ak Se A2 cap2 p h hp (by omega) (by omega) nn w hc hb).mono ?_
      rintro e w' ⟨rfl, hb⟩
      exact ⟨rfl, (hc.below hb (Nat.le_refl _)).mono (by omega), Keeps.of_new hb⟩
    | succ t iht =>
      intro p ht hp h1 hde nn w hc hb hnn
      have h2 := ht (by omega)
      have hm4 := H.hi
      have hlen := hp.len
      have hpb : pb (d + 1) (t + 1) = 1 + bd d + pb (d + 1) t := by simp only [pb]; rw [Nat.add_mul]; omega
      rw [hpb] at hnn
      have hstep := front78_step H Cb B Me Ms ak Se A2 cap2 hBM p h hp (by omega) h1 (by omega) (bd d) (pb (d + 1) t) (fun nn w hc hb hnn => by
        have hpl : pb d (iAt p (h + 1)).toNat ≤ bd d := by
          rcases Nat.lt_or_ge (h + 1) m with hlt | hge
          · exact pb_le (by have := hp.rng (h + 1) hlt; omega)
          · obtain rfl : d = 0 := by omega
            exact Nat.le_refl _
        have := ihd (h + 1) (by omega) (iAt p (h + 1)).toNat p (fun _ => rfl) hp (fun i hi => by
          rcases Nat.lt_or_ge i h with q | q
          · exact h1 i q
          · obtain rfl : i = h := by omega
            omega) hde nn w hc hb (by omega)
        rw [show (((h + 1 : Nat) : Int)) = (h : Int) + 1 by omega] at this
        refine this.mono ?_
        rintro e w' ⟨rfl, q1, q2⟩
        exact ⟨rfl, q1.mono (by omega), q2⟩) (fun nn w hc hb hnn => iht (p.set h (iAt p h - 1)) (fun _ => by rw [iAt_set9 _ (by omega), if_pos rfl]; omega) (hp.down (by omega) hm4 (by omega)) (fun i hi => by rw [iAt_set9 _ (by omega), if_neg (by omega)]; exact h1 i hi) (hde.down hp (by omega) hm4) nn w hc hb hnn) nn w hc hb (by omega)
      refine hstep.mono ?_
      rintro e w' ⟨rfl, q1, q2⟩
      exact ⟨rfl, q1.mono (by omega), q2⟩
theorem front78_0 {E : List Int → Int × Int} {mt : List (List Int)} {m : Nat} (H : FrH E mt m) (Cb B Me : Nat) (Ms : Nat → Nat) (ak : Int × Int) (Se : List Int → Option Value) (A2 : Option Addr) (cap2 : Nat) (hBM : ∀ k, mutF Ms k → k ≠ B) (p : List Int) (hp : WPl m p) (hde : Dealt E mt m p Se) (nn : Nat) (w : World) (hc : Cht w Cb B Me Ms nn ak Se (fun h p => frK E mt m p h)) (hb : w.cell? ⟨B, 1, none⟩ = some (.slice A2 m cap2)) (hnn : nn ≤ 800000000) :
    Calls Try.prog 78 #[.pointer (some ⟨Cb, 0, none⟩), plA p, .int .i64 0] w fun e w' => e = .returned (knV (frK E mt m p 0)) ∧ Cht w' Cb B Me Ms (nn + 4680) ak Se (fun h p => frK E mt m p h) ∧ Keeps (mutF Ms) w w' := by
  have hm1 := H.lo
  have h1 : pb m (iAt p 0).toNat ≤ 4680 := Nat.le_trans (pb_le (by have := hp.rng 0 (by omega); omega)) (bd_le m H.hi)
  refine (front78 H Cb B Me Ms ak Se A2 cap2 hBM m 0 (by omega) (iAt p 0).toNat p (fun _ => rfl) hp (fun i hi => by omega) hde nn w hc hb (by omega)).mono ?_
  rintro e w' ⟨rfl, q1, q2⟩
  exact ⟨rfl, q1.mono (by omega), q2⟩
end Go.Proofs.Ythdjbapidodlfaa

namespace Go.Proofs.Ythdjbapidodlfaa
set_option linter.unusedSimpArgs false
set_option linter.unusedVariables false
open Go.RowKit Go.Shelf
attribute [local go_sem ↓] exec_app at_app
attribute [local go_sem] Oper.semAt_some

def mpO (n k h : Nat) : Value := if h < k then .map (some (n + 2 + h)) else .map none
/-- A chart of which the first k maps are made. -/
structure ChB (w W : World) (B k : Nat) : Prop where
  row : W.heap[w.heap.size + 1]? = some (.cells #[.pointer (some ⟨B, 0, none⟩), .map (some w.heap.size), mpO w.heap.size k 0, mpO w.heap.size k 1, mpO w.heap.size k 2, mpO w.heap.size k 3, .int .i64 0, .int .i64 0] 93 (0, 0))
  me : W.heap[w.heap.size]? = some (.map #[] 0)
  ms : ∀ h, h < k → W.heap[w.heap.size + 2 + h]? = some (.map #[] 0)
  size : W.heap.size = w.heap.size + 2 + k
  bel : Below w.heap.size w W
theorem ChB.next {w W : World} {B k : Nat} (h : ChB w W B k) (hk : k < 4) : ChB w ((W.alloc (.map #[] 0)).setCell ⟨w.heap.size + 1, 2 + k, none⟩ (.map (some W.heap.size))) B (k + 1) := by
  have hs := h.size
  have hK : Keeps (fun j => j = w.heap.size + 1) W ((W.alloc (.map #[] 0)).setCell ⟨w.heap.size + 1, 2 + k, none⟩ (.map (some W.heap.size))) := (keep_alloc _ _ _).trans (keeps_setCell _ _ _ _)
  refine ⟨?_, (hK.block _ (lt_of_block h.me) (by omega)).trans h.me, fun j hj => ?_, by simp [World.setCell]; omega, h.bel.trans (hK.below h.bel.size (fun j hj e => by omega))⟩
  · rw [set_same _ _ (hal_old h.row), hs]
    match k, hk with
    | 0, _ => rfl
    | 1, _ => rfl
    | 2, _ => rfl
    | 3, _ => rfl
  · rcases Nat.lt_or_ge j k with q | q
    · exact (hK.block _ (by omega) (by omega)).trans (h.ms j q)
    · obtain rfl : j = k := by omega
      rw [Below.heap_setCell _ _ _ _ (by dsimp only; omega)]
      exact hal_new (by omega)
set_option maxRecDepth 100000 in
set_option maxHeartbeats 8000000 in
theorem blank77 (B : Nat) (F : Nat → List Int → Int × Int) (w : World) :
    Calls Try.prog 77 #[.pointer (some ⟨B, 0, none⟩)] w fun e w' => ∃ (Cb Me : Nat) (Ms : Nat → Nat), e = .returned (.pointer (some ⟨Cb, 0, none⟩)) ∧ Cht w' Cb B Me Ms 0 (0, 0) (fun _ => none) F ∧ Below w.heap.size w w' ∧ w.heap.size ≤ Cb ∧ w.heap.size ≤ Me ∧ ∀ h, h < 4 → w.heap.size ≤ Ms h := by
  have hmm := @run_makeMap Try.prog
  have H0 := Lib.hid (show ChB w ((w.alloc (.map #[] 0)).alloc (.cells #[.pointer (some ⟨B, 0, none⟩), .map (some w.heap.size), .map none, .map none, .map none, .map none, .int .i64 0, .int .i64 0] 93)) B 0 from
    ⟨hal_new (by simp), hal_old (heap_alloc_new_ _ _), fun h hh => by omega, by simp, ((keep_alloc (fun _ => False) _ _).trans (keep_alloc _ _ _)).new⟩)
  go_enter Try.func77, Try.ntmps77
  go_wp2_with fail
  go_loopw [4, 9] (fun x i wr => ∃ k : Nat, k ≤ 4 ∧ i = .int .i64 (k : Int) ∧ Hid (ChB w wr B k)) (fun x i _ => 4 - (intOf i).toNat)
  case atStart => exact ⟨0, Nat.zero_le _, rfl, H0⟩
  case round =>
    obtain ⟨k, hk, rfl, HI⟩ := hrel
    by_cases hlt : k < 4
    · have HN := Lib.hid (HI.out.next hlt)
      have hs := HI.out.size
      have hrow := hal_old (o := .map #[] 0) HI.out.row
      have f0 : (wr.alloc (.map #[] 0)).frozen? ⟨w.heap.size + 1, 2 + k, none⟩ = false := frozen_row hrow
      have z0 : ((wr.alloc (.map #[] 0)).cell? ⟨w.heap.size + 1, 2 + k, none⟩) = some (.map none) := by
        rw [cell_row hrow]
        match k, hlt with
        | 0, _ => rfl
        | 1, _ => rfl
        | 2, _ => rfl
        | 3, _ => rfl
      have i0 : (0 : Int) ≤ (k : Int) := by omega
      have i1 : (k : Int) < 4 := by omega
      have HS := Lib.hid hs
      clear hrow HI hs
      go_wp2_with fail
      go_roundw
      case rel => exact ⟨k + 1, by omega, by go_num, HN⟩
      case measure => simp [intOf]; omega
    · obtain rfl : k = 4 := by omega
      have HC := Lib.hid (show Cht wr (w.heap.size + 1) B w.heap.size (fun h => w.heap.size + 2 + h) 0 (0, 0) (fun _ => none) F from
        ⟨HI.out.row, MpH.new HI.out.me, fun h hh => ⟨fun _ => none, MpH.new (HI.out.ms h hh), fun p v _ e => (by cases e)⟩, by omega, fun h hh => by constructor <;> omega, fun h k h1 h2 h3 => by omega⟩)
      have HB := Lib.hid HI.out.bel
      clear HI
      go_wp2_with fail
      go_ret
      exact ⟨_, _, _, rfl, HC.out, HB.out, by omega, Nat.le_refl _, fun h hh => by show _ ≤ w.heap.size + 2 + h; omega⟩
end Go.Proofs.Ythdjbapidodlfaa
