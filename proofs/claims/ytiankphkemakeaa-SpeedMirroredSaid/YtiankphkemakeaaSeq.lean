/- The contract of the iterator that each makes: all rules, with their names, as the view shows them. -/
import Derived.Test.YtiankphkemakeaaView
namespace Go.Proofs.Ytiankphkemakeaa
set_option linter.unusedSimpArgs false
set_option linter.unusedVariables false
open Go.RowKit Go.Shelf
attribute [local go_sem] Oper.semAt_some

/-- A name and a rule within their ranges. -/
abbrev Item := { x : Nat × R // x.1 < 1000000 ∧ FitR x.2 }
def encI (x : Item) : Array Value := #[.int .i64 (x.1.1 : Int), .agg #[.int .i64 x.1.2.f, .int .i64 x.1.2.t, .int .i64 x.1.2.m]]
theorem fit_zero : FitR ⟨0, 0, 0⟩ := by unfold FitR; simp
theorem fit_flip {r : R} (h : FitR r) : FitR (flip r) := by unfold FitR flip at *; simp only; omega
theorem fit_vw {r : R} (high : Bool) (h : FitR r) : FitR (vw high r) := by
  cases high with
  | false => exact fit_flip h
  | true => exact h
instance (r : R) : Decidable (FitR r) := by unfold FitR; infer_instance
/-- The item with a number. -/
def item (high : Bool) (ws : List R) (j : Nat) : Item := if h : j < 1000000 ∧ FitR (vw high (rAt ws j)) then ⟨(j, vw high (rAt ws j)), h⟩ else ⟨(0, ⟨0, 0, 0⟩), by decide, fit_zero⟩
theorem item_val (high : Bool) (ws : List R) (j : Nat) (hj : j < ws.length) (hN : ws.length ≤ 1000000) (hr : ∀ r ∈ ws, FitR r) : (item high ws j).1 = (j, vw high (rAt ws j)) := by
  unfold item
  rw [dif_pos ⟨by omega, fit_vw high (by rw [rAt_eq _ _ hj]; exact hr _ (List.getElem_mem hj))⟩]
/-- The first k items. -/
def items (high : Bool) (ws : List R) (k : Nat) : List Item := (List.range k).map (item high ws)
theorem items_succ (high : Bool) (ws : List R) (k : Nat) : items high ws (k + 1) = items high ws k ++ [item high ws k] := by simp [items, List.range_succ]
theorem items_length (high : Bool) (ws : List R) (k : Nat) : (items high ws k).length = k := by simp [items]

/-- The three cells of a sheet with its whole rules in a block. -/
def Box79 (w : World) (B : Nat) (T : Int) (A : Option Addr) (n cap : Nat) (A' : Option Addr) (N cap' : Nat) : Prop :=
  w.cell? ⟨B, 0, none⟩ = some (.int .i64 T) ∧ w.cell? ⟨B, 1, none⟩ = some (.slice A n cap) ∧ w.cell? ⟨B, 2, none⟩ = some (.slice A' N cap')
theorem Box79.below {w w' : World} {B T A n cap A' N cap' D} (h : Box79 w B T A n cap A' N cap') (hb : Below D w w') (hB : B < D) : Box79 w' B T A n cap A' N cap' :=
  ⟨((bcell hb).1 _ _ hB).trans h.1, ((bcell hb).1 _ _ hB).trans h.2.1, ((bcell hb).1 _ _ hB).trans h.2.2⟩

theorem grown_of_below {w w' : World} (h : Below w.heap.size w w') : w.grownBy w' none := ⟨h.os, h.tape, h.output, h.size, fun k hk _ => h.block k hk⟩

/-- The blocks of which S speaks are as they were. -/
def KeepB (S : Nat → Prop) (W W' : World) : Prop := W.heap.size ≤ W'.heap.size ∧ ∀ k, S k → W'.heap[k]? = W.heap[k]?
theorem KeepB.refl (S : Nat → Prop) (W : World) : KeepB S W W := ⟨Nat.le_refl _, fun _ _ => rfl⟩
theorem KeepB.trans {S : Nat → Prop} {A B C : World} (h : KeepB S A B) (k : KeepB S B C) : KeepB S A C := ⟨Nat.le_trans h.1 k.1, fun j hj => (k.2 j hj).trans (h.2 j hj)⟩
theorem KeepB.of_below {S : Nat → Prop} {A B : World} {n : Nat} (h : Below n A B) (hS : ∀ k, S k → k < n) : KeepB S A B := ⟨h.size, fun k hk => h.block k (hS k hk)⟩
theorem KeepB.cell {S : Nat → Prop} {A B : World} (h : KeepB S A B) {b : Nat} (hb : S b) (o : Nat) : B.cell? ⟨b, o, none⟩ = A.cell? ⟨b, o, none⟩ := World.cell?_of_block (w := A) (h.2 b hb)

set_option maxRecDepth 100000 in
set_option maxHeartbeats 2000000 in
theorem each76_ahead (n0 : Nat) (l Bs Bv : Nat) (T : Int) (A A' : Option Addr) (n cap N cap' : Nat) (ws : List R) (hN : N ≤ 1000000) (hfit : ∀ r ∈ ws, FitR r) (J Jx : List Item → World → Prop) (S : Nat → Prop)
    (hY : ∀ pre x W, J pre W → pre.length < N → YieldAt Fence.wide (n0 - 1) Try.prog l (encI x) W fun e W' =>
      (e = .returned (.bool true) ∧ J (pre ++ [x]) W' ∧ KeepB S W W') ∨ (e = .returned (.bool false) ∧ Jx (pre ++ [x]) W'))
    (W : World) (hJ : AbidesFrom W.heap.size J) (hBs : S Bs) (hBv : S Bv) (hS : ∀ k, S k → k < W.heap.size) (hbox : Box79 W Bs T A n cap A' N cap') (hv : W.cell? ⟨Bv, 0, none⟩ = some (.func (.func 65) #[] #[])) (hr : Rules W A' N ws) (hA : ∀ b o, A' = some ⟨b, o, none⟩ → S b) (h0 : J [] W) :
    CallsIn Fence.wide n0 Try.prog 76 #[.func (.yield l) #[] #[], .pointer (some ⟨Bs, 0, none⟩), .pointer (some ⟨Bv, 0, none⟩)] W fun e W' => (∃ v, e = .returned v) ∧
      ((∃ ys, ys = items true ws N ∧ J ys W') ∨ (∃ pre, (∃ k, k ≤ N ∧ pre = items true ws k) ∧ Jx pre W')) := by
  refine callsIn_of_wp Try.func76 rfl trivial ?_ rfl
  simp only [Try.ntmps76, List.size_toArray, List.length_cons, List.length_nil, Nat.reduceAdd, Nat.reduceSub, Array.replicate_succ, Array.replicate_zero, List.push_toArray, List.append_toArray, List.nil_append, List.cons_append]
  have hb2 := hbox.2.2
  gi_wp2_with fail
  have Hbox := Lib.hid hbox
  have Hr := Lib.hid hr
  have HS := Lib.hid hS
  clear hbox hr hb2 hS
  gi_loopw [9] (fun i wr => ∃ k : Nat, k ≤ N ∧ i = .int .i64 k ∧ J (items true ws k) wr ∧ KeepB S W wr) (fun i _ => N - (intOf i).toNat)
  case atStart => exact ⟨0, Nat.zero_le _, rfl, h0, KeepB.refl _ _⟩
  case round =>
    obtain ⟨k, hk, rfl, hJs, hB⟩ := hrel
    have HB := Lib.hid hB
    have HJs := Lib.hid hJs
    by_cases hlt : k < N
    · obtain ⟨hl, hcs⟩ := Hr.out
      obtain ⟨b, o, rfl, hc⟩ := hcs (by omega)
      have hbD : S b := hA b o rfl
      obtain ⟨c0, c1, c2⟩ := hc k hlt
      have e0 := (hB.cell hbD (o + k * 3)).trans c0
      have e1 := (hB.cell hbD (o + k * 3 + 1)).trans c1
      have e2 := (hB.cell hbD (o + k * 3 + 2)).trans c2
      have ev := (hB.cell hBv 0).trans hv
      have hz1 : Bv < wr.heap.size := by have := hB.1; have := HS.out Bv hBv; omega
      skip
      have Hl := Lib.hid hl
      have HbD := Lib.hid hbD
      clear hcs hc hl hB hJs c0 c1 c2 hbD
      have hX : encI (item true ws k) = #[.int .i64 (k : Int), .agg #[.int .i64 (rf ws k), .int .i64 (rt ws k), .int .i64 (rm ws k)]] := by
        unfold encI
        rw [item_val true ws k (by rw [Hl.out]; exact hlt) (by rw [Hl.out]; exact hN) hfit]
        rfl
      have HX := Lib.hid hX
      clear hX
      gi_wp2_with fail
      refine ⟨trivial, (fun h => by cases h), ?_⟩
      refine (callsIn_wide.2 (ahead65 (rf ws k) (rt ws k) (rm ws k) _)).mono ?_
      rintro e w1 ⟨rfl, hb1⟩
      have HJ1 := Lib.hid (hJ _ _ _ none (hJ _ _ _ none HJs.out (World.grownBy_alloc wr _ none) (fun r e => by cases e)) (grown_of_below hb1) (fun r e => by cases e))
      have HB1 := Lib.hid (HB.out.trans (KeepB.of_below (((Below.refl _ _).alloc (Nat.le_refl _) _).trans (hb1.mono (by simp))) (fun k hk => Nat.lt_of_lt_of_le (HS.out k hk) HB.out.1)))
      clear hb1
      obtain ⟨fn, tmps, assign, body, hy, hR⟩ := hY _ (item true ws k) w1 HJ1.out (by rw [items_length]; exact hlt)
      rw [HX.out] at hy
      gi_wp2_with fail
      refine ⟨(fun h => by cases h), ?_⟩
      refine hR.mono ?_
      rintro e W3 (⟨rfl, hJ3, hk3⟩ | ⟨rfl, hJx3⟩)
      · have HJ3 := Lib.hid hJ3
        have HK3 := Lib.hid hk3
        clear hJ3 hk3 hR hy
        gi_wp2_with fail
        go_roundw
        case rel => exact ⟨k + 1, by omega, by go_num, by rw [items_succ]; exact HJ3.out, HB1.out.trans HK3.out⟩
        case measure => simp [intOf]; omega
      · have HJx3 := Lib.hid hJx3
        clear hJx3 hR hy
        gi_wp2_with fail
        refine bodyPost_ret (results_none rfl _ _ _) rfl ?_
        exact ⟨⟨_, rfl⟩, .inr ⟨_, ⟨k + 1, by omega, (items_succ _ _ _).symm⟩, HJx3.out⟩⟩
    · obtain rfl : k = N := by omega
      clear hJs hB
      gi_wp2
      go_end0
      exact ⟨⟨_, rfl⟩, .inl ⟨_, rfl, HJs.out⟩⟩

set_option maxRecDepth 100000 in
set_option maxHeartbeats 2000000 in
theorem each76_ends (n0 : Nat) (l Bs Bv H : Nat) (high : Bool) (T : Int) (A A' : Option Addr) (n cap N cap' : Nat) (ws : List R) (hN : N ≤ 1000000) (hfit : ∀ r ∈ ws, FitR r) (J Jx : List Item → World → Prop) (S : Nat → Prop)
    (hY : ∀ pre x W, J pre W → pre.length < N → YieldAt Fence.wide (n0 - 1) Try.prog l (encI x) W fun e W' =>
      (e = .returned (.bool true) ∧ J (pre ++ [x]) W' ∧ KeepB S W W') ∨ (e = .returned (.bool false) ∧ Jx (pre ++ [x]) W'))
    (W : World) (hJ : AbidesFrom W.heap.size J) (hBs : S Bs) (hBv : S Bv) (hS : ∀ k, S k → k < W.heap.size) (hbox : Box79 W Bs T A n cap A' N cap') (hv : W.cell? ⟨Bv, 0, none⟩ = some (.func (.func 74) #[] #[.pointer (some ⟨H, 0, none⟩)])) (hHS : S H) (hH : W.cell? ⟨H, 0, none⟩ = some (.bool high)) (hr : Rules W A' N ws) (hA : ∀ b o, A' = some ⟨b, o, none⟩ → S b) (h0 : J [] W) :
    CallsIn Fence.wide n0 Try.prog 76 #[.func (.yield l) #[] #[], .pointer (some ⟨Bs, 0, none⟩), .pointer (some ⟨Bv, 0, none⟩)] W fun e W' => (∃ v, e = .returned v) ∧
      ((∃ ys, ys = items high ws N ∧ J ys W') ∨ (∃ pre, (∃ k, k ≤ N ∧ pre = items high ws k) ∧ Jx pre W')) := by
  refine callsIn_of_wp Try.func76 rfl trivial ?_ rfl
  simp only [Try.ntmps76, List.size_toArray, List.length_cons, List.length_nil, Nat.reduceAdd, Nat.reduceSub, Array.replicate_succ, Array.replicate_zero, List.push_toArray, List.append_toArray, List.nil_append, List.cons_append]
  have hb2 := hbox.2.2
  gi_wp2_with fail
  have Hbox := Lib.hid hbox
  have Hr := Lib.hid hr
  have HS := Lib.hid hS
  clear hbox hr hb2 hS
  gi_loopw [9] (fun i wr => ∃ k : Nat, k ≤ N ∧ i = .int .i64 k ∧ J (items high ws k) wr ∧ KeepB S W wr) (fun i _ => N - (intOf i).toNat)
  case atStart => exact ⟨0, Nat.zero_le _, rfl, h0, KeepB.refl _ _⟩
  case round =>
    obtain ⟨k, hk, rfl, hJs, hB⟩ := hrel
    have HB := Lib.hid hB
    have HJs := Lib.hid hJs
    by_cases hlt : k < N
    · obtain ⟨hl, hcs⟩ := Hr.out
      obtain ⟨b, o, rfl, hc⟩ := hcs (by omega)
      have hbD : S b := hA b o rfl
      obtain ⟨c0, c1, c2⟩ := hc k hlt
      have e0 := (hB.cell hbD (o + k * 3)).trans c0
      have e1 := (hB.cell hbD (o + k * 3 + 1)).trans c1
      have e2 := (hB.cell hbD (o + k * 3 + 2)).trans c2
      have ev := (hB.cell hBv 0).trans hv
      have hz1 : Bv < wr.heap.size := by have := hB.1; have := HS.out Bv hBv; omega
      have eH := (hB.cell hHS 0).trans hH
      have hzH : H < wr.heap.size := by have := hB.1; have := HS.out H hHS; omega
      have Hl := Lib.hid hl
      have HbD := Lib.hid hbD
      clear hcs hc hl hB hJs c0 c1 c2 hbD
      have hX : encI (item high ws k) = #[.int .i64 (k : Int), .agg #[.int .i64 (vw high (rAt ws k)).f, .int .i64 (vw high (rAt ws k)).t, .int .i64 (vw high (rAt ws k)).m]] := by
        unfold encI
        rw [item_val high ws k (by rw [Hl.out]; exact hlt) (by rw [Hl.out]; exact hN) hfit]
      have HX := Lib.hid hX
      clear hX
      gi_wp2_with fail
      refine ⟨trivial, (fun h => by cases h), ?_⟩
      refine (callsIn_wide.2 (ends74 high H (rAt ws k) _ (by rw [World.cell?_alloc_past _ _ _ hzH]; exact eH))).mono ?_
      rintro e w1 ⟨rfl, hb1⟩
      have HJ1 := Lib.hid (hJ _ _ _ none (hJ _ _ _ none HJs.out (World.grownBy_alloc wr _ none) (fun r e => by cases e)) (grown_of_below hb1) (fun r e => by cases e))
      have HB1 := Lib.hid (HB.out.trans (KeepB.of_below (((Below.refl _ _).alloc (Nat.le_refl _) _).trans (hb1.mono (by simp))) (fun k hk => Nat.lt_of_lt_of_le (HS.out k hk) HB.out.1)))
      clear hb1
      obtain ⟨fn, tmps, assign, body, hy, hR⟩ := hY _ (item high ws k) w1 HJ1.out (by rw [items_length]; exact hlt)
      rw [HX.out] at hy
      gi_wp2_with fail
      refine ⟨(fun h => by cases h), ?_⟩
      refine hR.mono ?_
      rintro e W3 (⟨rfl, hJ3, hk3⟩ | ⟨rfl, hJx3⟩)
      · have HJ3 := Lib.hid hJ3
        have HK3 := Lib.hid hk3
        clear hJ3 hk3 hR hy
        gi_wp2_with fail
        go_roundw
        case rel => exact ⟨k + 1, by omega, by go_num, by rw [items_succ]; exact HJ3.out, HB1.out.trans HK3.out⟩
        case measure => simp [intOf]; omega
      · have HJx3 := Lib.hid hJx3
        clear hJx3 hR hy
        gi_wp2_with fail
        refine bodyPost_ret (results_none rfl _ _ _) rfl ?_
        exact ⟨⟨_, rfl⟩, .inr ⟨_, ⟨k + 1, by omega, (items_succ _ _ _).symm⟩, HJx3.out⟩⟩
    · obtain rfl : k = N := by omega
      clear hJs hB
      gi_wp2
      go_end0
      exact ⟨⟨_, rfl⟩, .inl ⟨_, rfl, HJs.out⟩⟩

end Go.Proofs.Ytiankphkemakeaa
