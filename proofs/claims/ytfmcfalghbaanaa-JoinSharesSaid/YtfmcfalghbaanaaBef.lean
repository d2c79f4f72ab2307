/- Stage 2: the laws' before, of two pairs. -/
import Derived.Test.YtfmcfalghbaanaaLawL
namespace Go.Proofs.Ytfmcfalghbaanaa
set_option linter.unusedSimpArgs false
set_option linter.unusedVariables false
open Go.RowKit

/-- Does the list have the step b right behind the step a? -/
def hasB : List St → St → St → Bool
  | s :: t :: l, a, b => (decide (s = a) && decide (t = b)) || hasB (t :: l) a b
  | _, _, _ => false
theorem hasB_drop {ss : List St} {k : Nat} (a b : St) (h : k + 1 < ss.length) : hasB (ss.drop k) a b = ((decide (sAt ss k = a) && decide (sAt ss (k + 1) = b)) || hasB (ss.drop (k + 1)) a b) := by
  rw [sAt_drop (xs := ss) (k := k) (by omega), sAt_drop (xs := ss) (k := k + 1) h]
  rfl
theorem hasB_end {ss : List St} {k : Nat} (a b : St) (h : ss.length ≤ k + 1) : hasB (ss.drop k) a b = false := by
  match hd : ss.drop k with
  | [] => rfl
  | [x] => rfl
  | x :: y :: l =>
    have := congrArg List.length hd
    simp at this
    omega

set_option maxRecDepth 100000 in
set_option maxHeartbeats 4000000 in
theorem has37 (A : Option Addr) (n cap : Nat) (ss : List St) (p q : Int) (u v : Bool) (w : World) (h : Sts w A n ss) (hn : n ≤ 1000000) :
    Calls Try.prog 37 #[.slice A n cap, .agg #[.int .i64 p, .bool u, .int .i64 q, .bool v]] w fun e w' => e = .returned (.bool (hasB ss ⟨p, u⟩ ⟨q, v⟩)) ∧ Below w.heap.size w w' := by
  have Hx := Lib.hid h.1
  have hb0 := below_alloc_ w (.cells #[.int .i64 p, .bool u, .int .i64 q, .bool v] 57)
  have hr0 := heap_alloc_new_ w (.cells #[.int .i64 p, .bool u, .int .i64 q, .bool v] 57)
  have HB0 := Lib.hid hb0
  have HR0 := Lib.hid hr0
  have hS := Lib.hid (h.below hb0 (Nat.le_refl _))
  clear h hb0 hr0
  go_enter Try.func37, Try.ntmps37
  go_wp2_with fail
  go_loopw [5] (fun i wr => ∃ k : Nat, i = .int .i64 ((k + 1 : Nat) : Int) ∧ k ≤ n ∧ hasB ss ⟨p, u⟩ ⟨q, v⟩ = hasB (ss.drop k) ⟨p, u⟩ ⟨q, v⟩ ∧ Below (w.alloc (.cells #[.int .i64 p, .bool u, .int .i64 q, .bool v] 57)).heap.size (w.alloc (.cells #[.int .i64 p, .bool u, .int .i64 q, .bool v] 57)) wr) (fun i _ => n + 1 - (intOf i).toNat)
  case atStart => exact ⟨0, by go_num, Nat.zero_le _, rfl, Below.refl _ _⟩
  case round =>
    obtain ⟨k, rfl, hk, heq, hB⟩ := hrel
    have HB := Lib.hid hB
    have HW := Lib.hid (show Below w.heap.size w wr from HB0.out.trans (hB.mono HB0.out.size))
    have HWd := Lib.hid (show ∀ q', Below (w.alloc (.cells #[.int .i64 p, .bool u, .int .i64 q, .bool v] 57)).heap.size (w.alloc (.cells #[.int .i64 p, .bool u, .int .i64 q, .bool v] 57)) (wr.drewN q') from fun q' => hB.trans ((drew_b wr q').mono hB.size))
    by_cases hlt : k + 1 < n
    · have hx := hS.out.below hB (Nat.le_refl _)
      obtain ⟨b, o, rfl, hc⟩ := hx.2 (by omega)
      obtain ⟨e0, e1⟩ := hc k (by omega)
      obtain ⟨e2, e3⟩ := hc (k + 1) hlt
      have hrow := (hB.block _ (lt_of_block HR0.out)).trans HR0.out
      have g0 : wr.cell? ⟨w.heap.size, 0, none⟩ = some (.int .i64 p) := by rw [cell_row hrow]; rfl
      have g1 : wr.cell? ⟨w.heap.size, 1, none⟩ = some (.bool u) := by rw [cell_row hrow]; rfl
      have g2 : wr.cell? ⟨w.heap.size, 2, none⟩ = some (.int .i64 q) := by rw [cell_row hrow]; rfl
      have g3 : wr.cell? ⟨w.heap.size, 3, none⟩ = some (.bool v) := by rw [cell_row hrow]; rfl
      have i0 : ((k + 1 : Nat) : Int) < (n : Int) := by omega
      have i1 : ((k + 1 : Nat) : Int) - 1 = (k : Int) := by omega
      have i2 : (0 : Int) ≤ ((k + 1 : Nat) : Int) := by omega
      have i3 : (0 : Int) ≤ (k : Int) := by omega
      have i4 : (k : Int) < (n : Int) := by omega
      have hd := hasB_drop (ss := ss) (k := k) ⟨p, u⟩ ⟨q, v⟩ (by have := Hx.out; omega)
      rw [hd] at heq
      have Heq := Lib.hid heq
      obtain ⟨s, hs⟩ : ∃ s, sAt ss k = s := ⟨_, rfl⟩
      obtain ⟨t, ht⟩ : ∃ t, sAt ss (k + 1) = t := ⟨_, rfl⟩
      rw [hs] at e0 e1 Heq
      rw [ht] at e2 e3 Heq
      obtain ⟨sp, st⟩ := s
      obtain ⟨tp, tt⟩ := t
      simp only at e0 e1 e2 e3
      clear hc hx hs ht heq hB hd hrow
      by_cases hp : sp = p
      · subst hp
        by_cases hu : st = u
        · subst hu
          by_cases hq : tp = q
          · subst hq
            by_cases hv : tt = v
            · subst hv
              have He := Lib.hid (show hasB ss ⟨sp, st⟩ ⟨tp, tt⟩ = true by rw [Heq.out]; simp)
              clear Heq
              go_wp2_with fail
              go_quiet (fail)
              go_wp2_with fail
              go_ret
              exact ⟨ret_bool He.out.symm, HB0.out.trans ((HWd.out _).mono HB0.out.size)⟩
            · have hd : (tt == v) = false := by rw [beq_eq_false_iff_ne]; exact hv
              have He := Lib.hid (show hasB ss ⟨sp, st⟩ ⟨tp, v⟩ = hasB (ss.drop (k + 1)) ⟨sp, st⟩ ⟨tp, v⟩ by rw [Heq.out, decide_eq_false (p := (⟨tp, tt⟩ : St) = ⟨tp, v⟩) (fun e => hv (congrArg St.turned e))]; simp)
              clear Heq hv
              go_wp2_with fail
              go_quiet (fail)
              go_wp2_with fail
              go_roundw
              case rel => exact ⟨k + 1, by go_num, by omega, He.out, HWd.out _⟩
              case measure => simp [intOf]; omega
          · have hd : (tp == q) = false := by rw [beq_eq_false_iff_ne]; exact hq
            have He := Lib.hid (show hasB ss ⟨sp, st⟩ ⟨q, v⟩ = hasB (ss.drop (k + 1)) ⟨sp, st⟩ ⟨q, v⟩ by rw [Heq.out, decide_eq_false (p := (⟨tp, tt⟩ : St) = ⟨q, v⟩) (fun e => hq (congrArg St.p e))]; simp)
            clear Heq hq
            go_wp2_with fail
            go_quiet (fail)
            go_wp2_with fail
            go_roundw
            case rel => exact ⟨k + 1, by go_num, by omega, He.out, HWd.out _⟩
            case measure => simp [intOf]; omega
        · have hd : (st == u) = false := by rw [beq_eq_false_iff_ne]; exact hu
          have He := Lib.hid (show hasB ss ⟨sp, u⟩ ⟨q, v⟩ = hasB (ss.drop (k + 1)) ⟨sp, u⟩ ⟨q, v⟩ by rw [Heq.out, decide_eq_false (p := (⟨sp, st⟩ : St) = ⟨sp, u⟩) (fun e => hu (congrArg St.turned e))]; simp)
          clear Heq hu
          go_wp2_with fail
          go_quiet (fail)
          go_wp2_with fail
          go_roundw
          case rel => exact ⟨k + 1, by go_num, by omega, He.out, HWd.out _⟩
          case measure => simp [intOf]; omega
      · have hd : (sp == p) = false := by rw [beq_eq_false_iff_ne]; exact hp
        have He := Lib.hid (show hasB ss ⟨p, u⟩ ⟨q, v⟩ = hasB (ss.drop (k + 1)) ⟨p, u⟩ ⟨q, v⟩ by rw [Heq.out, decide_eq_false (p := (⟨sp, st⟩ : St) = ⟨p, u⟩) (fun e => hp (congrArg St.p e))]; simp)
        clear Heq hp
        go_wp2_with fail
        go_quiet (fail)
        go_wp2_with fail
        go_roundw
        case rel => exact ⟨k + 1, by go_num, by omega, He.out, HWd.out _⟩
        case measure => simp [intOf]; omega
    · have i0 : ¬ ((k + 1 : Nat) : Int) < (n : Int) := by omega
      have He := Lib.hid (show hasB ss ⟨p, u⟩ ⟨q, v⟩ = false by rw [heq]; exact hasB_end _ _ (by have := Hx.out; omega))
      clear heq hB
      go_wp2_with fail
      go_ret
      exact ⟨ret_bool He.out.symm, HW.out⟩
end Go.Proofs.Ytfmcfalghbaanaa

namespace Go.Proofs.Ytfmcfalghbaanaa
set_option linter.unusedSimpArgs false
set_option linter.unusedVariables false
open Go.RowKit

/-- Does one pair come before the other one? -/
def bef2B (s t s' t' : St) : Bool := befB s s' || (decide (s = s') && befB t t')
/-- Two pairs in memory. -/
structure Bx2 (w : World) (B : Nat) (c d : Array Value) (W : World) : Prop where
  below : Below w.heap.size w W
  r0 : W.heap[B]? = some (.cells c 57 (0, 0))
  r1 : W.heap[B + 1]? = some (.cells d 57 (0, 0))
theorem Bx2.next {w : World} {B : Nat} {c d : Array Value} {W W' : World} (h : Bx2 w B c d W) (hb : Below W.heap.size W W') : Bx2 w B c d W' :=
  ⟨h.below.trans (hb.mono h.below.size), (hb.block _ (lt_of_block h.r0)).trans h.r0, (hb.block _ (lt_of_block h.r1)).trans h.r1⟩
theorem Bx2.new (w : World) (c d : Array Value) : Bx2 w w.heap.size c d ((w.alloc (.cells c 57)).alloc (.cells d 57)) := by
  have h1 := below_alloc_ w (.cells c 57)
  have h2 := below_alloc_ (w.alloc (.cells c 57)) (.cells d 57)
  refine ⟨h1.trans (h2.mono h1.size), (h2.block _ (by simp)).trans (heap_alloc_new_ w _), ?_⟩
  have := heap_alloc_new_ (w.alloc (.cells c 57)) (.cells d 57)
  simpa using this
theorem Bx2.c {w : World} {B : Nat} {x0 x1 x2 x3 y0 y1 y2 y3 : Value} {W : World} (h : Bx2 w B #[x0, x1, x2, x3] #[y0, y1, y2, y3] W) :
    W.cell? ⟨B, 0, none⟩ = some x0 ∧ W.cell? ⟨B, 1, none⟩ = some x1 ∧ W.cell? ⟨B, 2, none⟩ = some x2 ∧ W.cell? ⟨B, 3, none⟩ = some x3 ∧
    W.cell? ⟨B + 1, 0, none⟩ = some y0 ∧ W.cell? ⟨B + 1, 1, none⟩ = some y1 ∧ W.cell? ⟨B + 1, 2, none⟩ = some y2 ∧ W.cell? ⟨B + 1, 3, none⟩ = some y3 :=
  ⟨by rw [cell_row h.r0]; rfl, by rw [cell_row h.r0]; rfl, by rw [cell_row h.r0]; rfl, by rw [cell_row h.r0]; rfl, by rw [cell_row h.r1]; rfl, by rw [cell_row h.r1]; rfl, by rw [cell_row h.r1]; rfl, by rw [cell_row h.r1]; rfl⟩

set_option maxRecDepth 100000 in
set_option maxHeartbeats 4000000 in
theorem before38 (p q p' q' : Int) (u v u' v' : Bool) (w : World) :
    Calls Try.prog 38 #[.agg #[.int .i64 p, .bool u, .int .i64 q, .bool v], .agg #[.int .i64 p', .bool u', .int .i64 q', .bool v']] w fun e w' => e = .returned (.bool (bef2B ⟨p, u⟩ ⟨q, v⟩ ⟨p', u'⟩ ⟨q', v'⟩)) ∧ Below w.heap.size w w' := by
  have G := Lib.hid (Bx2.new w #[.int .i64 p, .bool u, .int .i64 q, .bool v] #[.int .i64 p', .bool u', .int .i64 q', .bool v'])
  go_enter Try.func38, Try.ntmps38
  go_wp2_with fail
  generalize ((w.alloc (.cells #[.int .i64 p, .bool u, .int .i64 q, .bool v] 57)).alloc (.cells #[.int .i64 p', .bool u', .int .i64 q', .bool v'] 57)) = V0 at G ⊢
  obtain ⟨B, hB⟩ : ∃ B, w.heap.size = B := ⟨_, rfl⟩
  replace G := Lib.hid (show Bx2 w B _ _ V0 from by rw [← hB]; exact G.out)
  rw [hB]
  refine (before63 p p' u u' V0).mono ?_
  rintro e V1 ⟨rfl, hb⟩
  replace G := Lib.hid (G.out.next hb)
  clear hb
  have Hr := Lib.hid (show bef2B ⟨p, u⟩ ⟨q, v⟩ ⟨p', u'⟩ ⟨q', v'⟩ = (befB ⟨p, u⟩ ⟨p', u'⟩ || (decide ((⟨p, u⟩ : St) = ⟨p', u'⟩) && befB ⟨q, v⟩ ⟨q', v'⟩)) from rfl)
  obtain ⟨b1, hb1⟩ : ∃ b1, befB ⟨p, u⟩ ⟨p', u'⟩ = b1 := ⟨_, rfl⟩
  rw [hb1] at Hr ⊢
  clear hb1
  obtain ⟨c0, c1, c2, c3, c4, c5, c6, c7⟩ := G.out.c
  have HB := Lib.hid hB
  clear hB
  cases b1 with
  | true =>
    have He := Lib.hid (show bef2B ⟨p, u⟩ ⟨q, v⟩ ⟨p', u'⟩ ⟨q', v'⟩ = true by rw [Hr.out]; rfl)
    go_wp2_with fail
    go_ret
    exact ⟨ret_bool He.out.symm, G.out.below⟩
  | false =>
    by_cases hp : p = p'
    · subst hp
      by_cases hu : u = u'
      · subst hu
        have He := Lib.hid (show bef2B ⟨p, u⟩ ⟨q, v⟩ ⟨p, u⟩ ⟨q', v'⟩ = befB ⟨q, v⟩ ⟨q', v'⟩ by rw [Hr.out]; simp)
        clear Hr
        go_wp2_with fail
        refine (before63 q q' v v' V1).mono ?_
        rintro e V2 ⟨rfl, hb⟩
        have HG := Lib.hid (G.out.next hb)
        clear hb c0 c1 c2 c3 c4 c5 c6 c7
        go_wp2_with fail
        go_ret
        exact ⟨ret_bool He.out.symm, HG.out.below⟩
      · have hd : (u == u') = false := by rw [beq_eq_false_iff_ne]; exact hu
        have He := Lib.hid (show bef2B ⟨p, u⟩ ⟨q, v⟩ ⟨p, u'⟩ ⟨q', v'⟩ = false by rw [Hr.out, decide_eq_false (p := (⟨p, u⟩ : St) = ⟨p, u'⟩) (fun e => hu (congrArg St.turned e))]; rfl)
        clear Hr hu
        go_wp2_with fail
        go_ret
        exact ⟨ret_bool He.out.symm, G.out.below⟩
    · have hd : (p == p') = false := by rw [beq_eq_false_iff_ne]; exact hp
      have He := Lib.hid (show bef2B ⟨p, u⟩ ⟨q, v⟩ ⟨p', u'⟩ ⟨q', v'⟩ = false by rw [Hr.out, decide_eq_false (p := (⟨p, u⟩ : St) = ⟨p', u'⟩) (fun e => hp (congrArg St.p e))]; rfl)
      clear Hr hp
      go_wp2_with fail
      go_ret
      exact ⟨ret_bool He.out.symm, G.out.below⟩
end Go.Proofs.Ytfmcfalghbaanaa
