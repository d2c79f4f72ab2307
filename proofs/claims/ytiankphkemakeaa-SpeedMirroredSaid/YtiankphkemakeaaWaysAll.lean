/- SpeedWays: fine, an opener of small numbers, the walk, put together. -/
import Derived.Laws.IdiomArrays
import Derived.Test.YtiankphkemakeaaLift
import Derived.Test.YtiankphkemakeaaRTrue
namespace Go.Proofs.Ytiankphkemakeaa
set_option linter.unusedSimpArgs false
set_option linter.unusedVariables false
open Go.RowKit Go.Shelf

theorem clash_yes {T : Nat} {rs : List R} (he : chk T rs = 0) (hs : ¬ Some_ T rs) : clashM T rs = true := by
  cases hc : clashM T rs with
  | true => rfl
  | false => exact absurd ((clash_some_iff he).1 hc) hs
/-- What fine returns. -/
def fineB (T : Int) (n : Nat) (rs : List R) : Bool := decide (n ≤ 70 ∧ chk T rs = 0 ∧ clashM T.toNat rs = false)
theorem fine_no {T : Int} {n : Nat} {rs : List R} (h : ¬ (n ≤ 70 ∧ chk T rs = 0 ∧ clashM T.toNat rs = false)) : fineB T n rs = false := decide_eq_false h

set_option maxRecDepth 100000 in
set_option maxHeartbeats 2000000 in
theorem fine42 (A : Option Addr) (n cap : Nat) (T : Int) (rs : List R) (w : World) (h : Rules w A n rs) (hn : n ≤ maxLen) :
    Calls Try.prog 42 #[.agg #[.int .i64 T, .slice A n cap]] w fun e w' => e = .returned (.bool (fineB T n rs)) ∧ Below w.heap.size w w' := by
  have X0 := Bx.new (T := T) (cap := cap) h
  have Hn := Lib.hid hn
  clear h hn
  obtain ⟨B, hB⟩ : ∃ B, w.heap.size = B := ⟨_, rfl⟩
  rw [hB] at X0
  have c0 := X0.c0
  have c1 := X0.c1
  have hlt := X0.hi
  have HB := Lib.hid hB
  by_cases hg : 70 < n
  · have dg : decide (70 < n) = true := decide_eq_true hg
    have Hm := Lib.hid (fine_no (T := T) (n := n) (rs := rs) (by omega))
    clear hg
    go_enter Try.func42, Try.ntmps42
    go_wp2_with fail
    refine (great14 T A n cap _ Hn.out).mono ?_
    rintro e w' ⟨rfl, rfl⟩
    have X1 := X0.next (below_alloc_ _ (.cells #[.int .i64 T, .slice A n cap] 24))
    clear X0 c0 c1 hlt
    have c0 := X1.c0
    have c1 := X1.c1
    have hlt := X1.hi
    go_wp2_with fail
    go_ret
    exact ⟨by rw [Hm.out]; rfl, X1.below⟩
  · have dg : decide (70 < n) = false := decide_eq_false hg
    have Hg := Lib.hid hg
    clear hg
    go_enter Try.func42, Try.ntmps42
    go_wp2_with fail
    refine (great14 T A n cap _ Hn.out).mono ?_
    rintro e w' ⟨rfl, rfl⟩
    have X1 := X0.next (below_alloc_ _ (.cells #[.int .i64 T, .slice A n cap] 24))
    clear X0 c0 c1 hlt
    have c0 := X1.c0
    have c1 := X1.c1
    have hlt := X1.hi
    go_wp2_with fail
    refine (checkSheet19 A n cap rs T _ X1.rules (by have := Hg.out; omega)).mono ?_
    rintro e w2 ⟨rfl, hb⟩
    have X2 := X1.next hb
    clear hb X1 c0 c1 hlt
    have c0 := X2.c0
    have c1 := X2.c1
    have hlt := X2.hi
    by_cases he : chk T rs = 0
    · have hT := chk_ok he
      obtain ⟨T', rfl⟩ : ∃ T' : Nat, T = (T' : Int) := ⟨T.toNat, by omega⟩
      have He := Lib.hid he
      rw [He.out]
      clear he hT
      go_wp2_with fail
      refine (clashes28 A n cap T' rs _ X2.rules He.out).mono ?_
      rintro e w3 ⟨rfl, hb⟩
      have X3 := X2.next hb
      clear hb X2 c0 c1 hlt
      cases hc : clashM T' rs with
      | true =>
        have Hm := Lib.hid (fine_no (T := T') (n := n) (rs := rs) (by rintro ⟨_, _, h3⟩; rw [Int.toNat_natCast, hc] at h3; cases h3))
        clear hc
        go_wp2_with fail
        go_ret
        exact ⟨by rw [Hm.out]; rfl, X3.below⟩
      | false =>
        have Hm := Lib.hid (show fineB T' n rs = true from decide_eq_true ⟨by have := Hg.out; omega, He.out, by rw [Int.toNat_natCast]; exact hc⟩)
        clear hc
        go_wp2_with fail
        go_ret
        exact ⟨by rw [Hm.out]; rfl, X3.below⟩
    · have he2 : (chk T rs == 0) = false := by rw [beq_eq_false_iff_ne]; exact he
      have Hm := Lib.hid (fine_no (T := T) (n := n) (rs := rs) (fun h => he h.2.1))
      clear he
      go_wp2_with fail
      go_ret
      exact ⟨by rw [Hm.out]; rfl, X2.below⟩
end Go.Proofs.Ytiankphkemakeaa

namespace Go.Proofs.Ytiankphkemakeaa
set_option linter.unusedSimpArgs false
set_option linter.unusedVariables false
open Go.RowKit Go.Shelf

/-- What SpeedWays reads. -/
structure Ws (w : World) (B : Nat) (T : Int) (A : Option Addr) (n cap : Nat) (rs : List R) (Q : Nat) (u0 u1 u2 : Int) (D : Option Addr) (m : Nat) (bs : List Int) (K : Option Addr) (k : Nat) (ks : List Int) (W : World) : Prop where
  bx : Bx w B T A n cap rs W
  u : W.heap[Q]? = some (.cells #[.int .u8 u0, .int .u8 u1, .int .u8 u2] 63 (0, 0))
  by_ : IntsU W D m bs
  nm : Ints W K k ks
theorem Ws.next {w : World} {B : Nat} {T : Int} {A : Option Addr} {n cap : Nat} {rs : List R} {Q : Nat} {u0 u1 u2 : Int} {D : Option Addr} {m : Nat} {bs : List Int} {K : Option Addr} {k : Nat} {ks : List Int} {W W' : World} (h : Ws w B T A n cap rs Q u0 u1 u2 D m bs K k ks W) (hb : Below W.heap.size W W') : Ws w B T A n cap rs Q u0 u1 u2 D m bs K k ks W' :=
  ⟨h.bx.next hb, (hb.block _ (lt_of_block h.u)).trans h.u, h.by_.below hb (Nat.le_refl _), h.nm.below hb (Nat.le_refl _)⟩
theorem Ws.new {w : World} {T : Int} {A : Option Addr} {n cap : Nat} {rs : List R} {u0 u1 u2 : Int} {D : Option Addr} {m : Nat} {bs : List Int} {K : Option Addr} {k : Nat} {ks : List Int} (h : Rules w A n rs) (hb : IntsU w D m bs) (hk : Ints w K k ks) :
    Ws w w.heap.size T A n cap rs (w.heap.size + 1) u0 u1 u2 D m bs K k ks ((w.alloc (.cells #[.int .i64 T, .slice A n cap] 24)).alloc (.cells #[.int .u8 u0, .int .u8 u1, .int .u8 u2] 63)) :=
  ⟨(Bx.new h).next (below_alloc_ _ _), heap_last (by simp), (hb.below (below_alloc_ _ _) (Nat.le_refl _)).below (below_alloc_ _ _) (Nat.le_refl _), (hk.below (below_alloc_ _ _) (Nat.le_refl _)).below (below_alloc_ _ _) (Nat.le_refl _)⟩

set_option maxRecDepth 100000 in
set_option maxHeartbeats 4000000 in
theorem ways9_not (HW : Hid WorksOk) (T u0 u1 u2 : Int) (A D K : Option Addr) (n cap m capm k capk : Nat) (rs : List R) (bs ks : List Int) (w : World) (h : Rules w A n rs) (hb : IntsU w D m bs) (hk : Ints w K k ks) (hn : n ≤ maxLen) (hm : m ≤ maxLen) (hkk : k ≤ maxLen)
    (hno : fineB T n rs = false ∨ 40 < m ∨ 60 < k) :
    Calls Try.prog 9 #[.agg #[.int .i64 T, .slice A n cap], .agg #[.int .u8 u0, .int .u8 u1, .int .u8 u2], .slice D m capm, .slice K k capk] w fun e w' => e = .returned (.bool true) ∧ Below w.heap.size w w' := by
  have X := Ws.new (T := T) (cap := cap) (u0 := u0) (u1 := u1) (u2 := u2) h hb hk
  have Hn := Lib.hid hn
  clear h hb hk hn
  unfold maxLen at hm hkk
  have c0 := X.bx.c0
  have c1 := X.bx.c1
  go_enter Try.func9, Try.ntmps9
  go_wp2_with fail
  refine (fine42 A n cap T rs _ X.bx.rules Hn.out).mono ?_
  rintro e w1 ⟨rfl, hb⟩
  have X1 := X.next hb
  clear X hb c0 c1
  cases hf : fineB T n rs with
  | false =>
    clear hno
    go_wp2_with fail
    refine (HW.out _).mono ?_
    rintro e w2 ⟨rfl, hb⟩
    have X2 := X1.next hb
    clear X1 hb
    go_wp2_with fail
    go_ret
    exact ⟨rfl, X2.bx.below⟩
  | true =>
    by_cases h40 : 40 < m
    · have d40 : decide ((40 : Int) < (m : Int)) = true := decide_eq_true (by omega)
      clear hno
      go_wp2_with fail
      refine (HW.out _).mono ?_
      rintro e w2 ⟨rfl, hb⟩
      have X2 := X1.next hb
      clear X1 hb
      go_wp2_with fail
      go_ret
      exact ⟨rfl, X2.bx.below⟩
    · have h60 : 60 < k := by
        rcases hno with h | h | h
        · rw [hf] at h; cases h
        · omega
        · exact h
      have d40 : decide ((40 : Int) < (m : Int)) = false := decide_eq_false (by omega)
      have d60 : decide ((60 : Int) < (k : Int)) = true := decide_eq_true (by omega)
      clear hno
      go_wp2_with fail
      refine (HW.out _).mono ?_
      rintro e w2 ⟨rfl, hb⟩
      have X2 := X1.next hb
      clear X1 hb
      go_wp2_with fail
      go_ret
      exact ⟨rfl, X2.bx.below⟩
end Go.Proofs.Ytiankphkemakeaa

namespace Go.Proofs.Ytiankphkemakeaa
set_option linter.unusedSimpArgs false
set_option linter.unusedVariables false
open Go.RowKit Go.Shelf

theorem turn_of {u N : Int} (h0 : 0 ≤ u) (h1 : u ≤ 255) (hN : 1 ≤ N) (hN2 : N ≤ 21) : ∃ a : Nat, u % N = (a : Int) ∧ u.tmod N = (a : Int) ∧ (a : Int) < N ∧ IntKind.i64.wrap u = u ∧ IntKind.i64.wrap (a : Int) = (a : Int) := by
  have e1 := Int.emod_nonneg u (show N ≠ 0 by omega)
  have e2 := Int.emod_lt_of_pos u (show 0 < N by omega)
  refine ⟨(u % N).toNat, by omega, by rw [Int.tmod_eq_emod_of_nonneg h0]; omega, by omega, IntWalk.i64_in _ (by omega), IntWalk.i64_in _ (by omega)⟩

/-- append(v, x...) as one operation of a region that draws its order. -/
theorem wp_append_ints {o : Oper} {a : Act} {w : World} {K : Act → World → Prop} {Q : Exit → Act → World → Prop} (s x : Operand) (t e : TypeId)
    (ho : o.op = .call { callee := .builtin .append, args := #[s, x], argTypes := #[t, t] }) (hu : Try.prog.underlying t = some (.slice e)) (hinf : (Try.prog.info? e).map (fun i => (i.zero, i.size, i.bytes)) = some (some (.int .i64 0), 1, 8))
    (base : Nat) (v : Value) (n : Nat) (xs : List Int) (hs : a.eval s = v) (hown : w.ownsRow base e 1 v n (iv xs)) (A : Option Addr) (m c : Nat) (ys : List Int) (hx : a.eval x = .slice A m c) (hr : Ints w A m ys)
    (hbytes : (n + m) * 8 ≤ 140737488355328) (hbase : base ≤ w.heap.size)
    (h : ∀ A' cap' w', w'.ownsRow base e 1 (.slice A' (n + m) cap') (n + m) (iv (xs ++ ys)) → Below base w w' → K (a.put o.dst (.slice A' (n + m) cap')) w') : Oper.wp Try.prog o a w K Q := by
  obtain ⟨A', cap', w', h1, h2, h3⟩ := run_append_ints t e hu hinf w o.type base v n xs hown A m c ys hr hbytes hbase
  unfold Oper.wp execOp
  simp only [ho, resolve, invoke, builtin, Sem.run_bind, Sem.run_pure, Result.andThen_ok, List.map_toArray, List.map_cons, List.map_nil, hs, hx, h1]
  exact h A' cap' w' h2 h3

set_option maxRecDepth 100000 in
set_option maxHeartbeats 8000000 in
theorem ways9_fine (HW : Hid WorksOk) (T : Nat) (u0 u1 u2 : Int) (A D K : Option Addr) (n cap m capm k capk : Nat) (rs : List R) (bs ks : List Int) (w : World) (h : Rules w A n rs) (hb : IntsU w D m bs) (hk : Ints w K k ks) (hn : n ≤ maxLen) (h70 : n ≤ 70) (hm : m ≤ 40) (hkk : k ≤ 60)
    (b0 : 0 ≤ u0 ∧ u0 ≤ 255) (b1 : 0 ≤ u1 ∧ u1 ≤ 255) (b2 : 0 ≤ u2 ∧ u2 ≤ 255)
    (hf : fineB T n rs = true) (he : chk T rs = 0) (hs : Some_ T rs) :
    Calls Try.prog 9 #[.agg #[.int .i64 (T : Int), .slice A n cap], .agg #[.int .u8 u0, .int .u8 u1, .int .u8 u2], .slice D m capm, .slice K k capk] w fun e w' => e = .returned (.bool true) ∧ Below w.heap.size w w' := by
  have X := Ws.new (T := (T : Int)) (cap := cap) (u0 := u0) (u1 := u1) (u2 := u2) h hb hk
  have Hn := Lib.hid hn
  have Hn7 := Lib.hid (show n ≤ 140737488355328 by omega)
  have hT := (chk_ok he).2
  have hT1 : 1 ≤ T := by omega
  have hT2 : T ≤ 20 := by omega
  have He := Lib.hid he
  have Hs_ := Lib.hid hs
  have d40 : decide ((40 : Int) < (m : Int)) = false := decide_eq_false (by omega)
  have d60 : decide ((60 : Int) < (k : Int)) = false := decide_eq_false (by omega)
  have Hm := Lib.hid hm
  have Hk := Lib.hid hkk
  have Hf := Lib.hid hf
  obtain ⟨N, hN⟩ : ∃ N, T + 1 = N := ⟨_, rfl⟩
  have hNi : (T : Int) + 1 = (N : Int) := by omega
  have HN := Lib.hid hN
  obtain ⟨a, a1, a2, a3, a4, a5⟩ := turn_of b0.1 b0.2 (show (1 : Int) ≤ N by omega) (by omega)
  obtain ⟨b, e1, e2, e3, e4, e5⟩ := turn_of b1.1 b1.2 (show (1 : Int) ≤ N by omega) (by omega)
  obtain ⟨c, f1, f2, f3, f4, f5⟩ := turn_of b2.1 b2.2 (show (1 : Int) ≤ N by omega) (by omega)
  have ha : a ≤ T := by omega
  have hb' : b ≤ T := by omega
  have hc : c ≤ T := by omega
  have Ha := Lib.hid ha
  have Hb := Lib.hid hb'
  have Hc := Lib.hid hc
  have hN0 : ¬ ((N : Int) = 0) := by omega
  have Hok := Lib.hid (far_ok he hs)
  obtain ⟨d, hd⟩ : ∃ d, farM T rs = d := ⟨_, rfl⟩
  rw [hd] at Hok
  have Hd := Lib.hid hd
  have bx := Hok.out.bd a b ha hb'
  have bY := Hok.out.bd b c hb' hc
  have bz := Hok.out.bd a c ha hc
  have tri := Hok.out.tri a b c ha hb' hc
  obtain ⟨x, hx⟩ : ∃ x, d a b = x := ⟨_, rfl⟩
  obtain ⟨y, hy⟩ : ∃ y, d b c = y := ⟨_, rfl⟩
  obtain ⟨z, hz⟩ : ∃ z, d a c = z := ⟨_, rfl⟩
  rw [hx] at bx tri
  rw [hy] at bY tri
  rw [hz] at bz tri
  have Hx := Lib.hid hx
  have Hy := Lib.hid hy
  have Hz := Lib.hid hz
  have dxy : decide (x + y < z) = false := decide_eq_false (by omega)
  clear hx hy hz hd
  clear h hb hk hn h70 hm hkk hT he hs hf hN ha hb' hc a3 e3 f3
  obtain ⟨b00, b01⟩ := b0
  obtain ⟨b10, b11⟩ := b1
  obtain ⟨b20, b21⟩ := b2
  obtain ⟨B, hB⟩ : ∃ B, w.heap.size = B := ⟨_, rfl⟩
  have HB := Lib.hid hB
  rw [hB] at X
  have c0 := X.bx.c0
  have c1 := X.bx.c1
  go_enter Try.func9, Try.ntmps9
  go_wp2_with fail
  refine (fine42 A n cap T rs _ X.bx.rules Hn.out).mono ?_
  rintro e w1 ⟨rfl, hb⟩
  have X1 := X.next hb
  clear X hb c0 c1 hB
  rw [Hf.out]
  have c0 := X1.bx.c0
  have c1 := X1.bx.c1
  have q0 : w1.cell? ⟨B + 1, 0, none⟩ = some (.int .u8 u0) := by rw [cell_of_row _ _ 0 _ _ _ X1.u]; rfl
  have q1 : w1.cell? ⟨B + 1, 1, none⟩ = some (.int .u8 u1) := by rw [cell_of_row _ _ 1 _ _ _ X1.u]; rfl
  have q2 : w1.cell? ⟨B + 1, 2, none⟩ = some (.int .u8 u2) := by rw [cell_of_row _ _ 2 _ _ _ X1.u]; rfl
  go_wp2_with fail
  go_quiet (fail)
  go_wp2_with fail
  have hq := drew_below w1 nq w1.heap.size
  have X2 := X1.next hq
  clear X1 hq c0 c1 q0 q1 q2
  refine (way35 A n cap T a b rs _ X2.bx.rules Hn7.out).mono ?_
  rintro e w3 ⟨C1, k1, p1, rfl, hI, hb⟩
  obtain ⟨W1, hW, hg1, hg2, hg3⟩ := wayR_far He.out Hs_.out Ha.out Hb.out
  rw [hW] at hI ⊢
  rw [Hd.out]
  have X3 := X2.next hb
  clear X2 hb hW
  rw [Hx.out]
  clear hI hg1 hg2 hg3
  have c0 := X3.bx.c0
  have c1 := X3.bx.c1
  go_wp2_with fail
  refine (way35 A n cap T b c rs _ X3.bx.rules Hn7.out).mono ?_
  rintro e w4 ⟨C2, k2, p2, rfl, hI, hb⟩
  obtain ⟨W2, hW, hg1, hg2, hg3⟩ := wayR_far He.out Hs_.out Hb.out Hc.out
  rw [hW] at hI ⊢
  rw [Hd.out]
  have X4 := X3.next hb
  clear X3 hb c0 c1 hW
  rw [Hy.out]
  clear hI hg1 hg2 hg3
  have c0 := X4.bx.c0
  have c1 := X4.bx.c1
  go_wp2_with fail
  refine (way35 A n cap T a c rs _ X4.bx.rules Hn7.out).mono ?_
  rintro e w5 ⟨C3, k3, p3, rfl, hI, hb⟩
  obtain ⟨W3, hW, hg1, hg2, hg3⟩ := wayR_far He.out Hs_.out Ha.out Hc.out
  rw [hW] at hI ⊢
  rw [Hd.out]
  have X5 := X4.next hb
  clear X4 hb c0 c1 hW
  rw [Hz.out]
  have HI3 := Lib.hid hI
  have hk3 : k3 ≤ 22 := by have h1 : W3.length = k3 := hI.1; omega
  have Hchk := Lib.hid (show checkWayD T rs a c W3 = (z, 0) by rw [← checkWay_same, way_check He.out Ha.out Hc.out hg1 hg2 hg3, Hd.out, Hz.out])
  clear hI hg1 hg2 hg3
  have c0 := X5.bx.c0
  have c1 := X5.bx.c1
  go_wp2_with fail
  refine (checkWay24 A C3 n cap k3 p3 T a c rs W3 _ X5.bx.rules HI3.out Hn7.out (by omega)).mono ?_
  rintro e w6 ⟨rfl, hb⟩
  rw [Hchk.out]
  have X6 := X5.next hb
  clear X5 hb c0 c1 HI3
  have c0 := X6.bx.c0
  have c1 := X6.bx.c1
  go_wp2_with fail
  refine (true44 A D n cap T m capm rs bs _ X6.bx.rules X6.by_ Hm.out He.out Hs_.out).mono ?_
  rintro e w7 ⟨C4, p4, rfl, hI, hb⟩
  have X7 := X6.next hb
  have HI4 := Lib.hid hI
  clear X6 hb c0 c1 hI
  go_wp2_with fail
  have HTr := Lib.hid (show checkSpeeds T rs (trueL (farM T rs) bs T) = 0 from true_true He.out Hs_.out bs)
  obtain ⟨vs, hvs⟩ : ∃ vs, trueL (farM T rs) bs T = vs := ⟨_, rfl⟩
  rw [hvs] at HI4 HTr
  have hvl : vs.length = T := by rw [← hvs]; exact trueL_len _ _ _
  have kc := keep_small Hok.out (true_keep Hok.out bs T (Nat.le_refl _)) (Nat.le_refl T) Hc.out
  have ka := keep_small Hok.out (true_keep Hok.out bs T (Nat.le_refl _)) (Nat.le_refl T) Ha.out
  rw [← Hd.out, hvs] at kc ka
  have kd := true_le He.out HTr.out Ha.out Hc.out
  rw [Hd.out, Hz.out] at kd
  have pc := pace_at vs c (by have := Hc.out; omega)
  have pa := pace_at vs a (by have := Ha.out; omega)
  obtain ⟨vc, hvc⟩ : ∃ vc, qOf vs c = vc := ⟨_, rfl⟩
  obtain ⟨va, hva⟩ : ∃ va, qOf vs a = va := ⟨_, rfl⟩
  rw [hvc] at kc kd pc
  rw [hva] at ka kd pa
  have Pc := Lib.hid pc
  have Pa := Lib.hid pa
  have dvz : decide (z < vc - va) = false := decide_eq_false (by omega)
  obtain ⟨kc0, kc1⟩ := kc
  obtain ⟨ka0, ka1⟩ := ka
  clear hvs hvl pc pa hvc hva HTr
  refine (of45 C4 T p4 vs c _ HI4.out hT2 ⟨by omega, by have := Hc.out; omega⟩).mono ?_
  rintro e w' ⟨rfl, rfl⟩
  rw [Int.toNat_natCast, Pc.out]
  go_wp2_with fail
  refine (of45 C4 T p4 vs a _ HI4.out hT2 ⟨by omega, by have := Ha.out; omega⟩).mono ?_
  rintro e w' ⟨rfl, rfl⟩
  rw [Int.toNat_natCast, Pa.out]
  have c0 := X7.bx.c0
  have c1 := X7.bx.c1
  go_wp2_with fail
  clear dvz HI4
  refine (checkWay23 A K n cap k capk T a c rs ks _ X7.bx.rules X7.nm Hn7.out (by have := Hk.out; omega)).mono ?_
  rintro e w8 ⟨rfl, hb⟩
  have X8 := X7.next hb
  clear X7 hb c0 c1
  obtain ⟨mw, ew, hcw⟩ : ∃ mw ew, checkWay T rs a c ks = (mw, ew) := ⟨_, _, rfl⟩
  rw [hcw]
  have c0 := X8.bx.c0
  have c1 := X8.bx.c1
  by_cases hew : ew = 0
  · subst hew
    have hle := way_least He.out Hs_.out Ha.out Hc.out hcw
    rw [Hd.out, Hz.out] at hle
    have dmw : decide (mw < z) = false := decide_eq_false (by omega)
    clear hcw hle
    go_wp2_with fail
    refine (far46 A n cap T rs _ X8.bx.rules He.out).mono ?_
    rintro e w9 ⟨G, capG, rb, rc, rfl, hM, hb⟩
    rw [HN.out, Hd.out] at hM
    rw [HN.out]
    have X9 := X8.next hb
    have HM := Lib.hid hM
    clear X8 hb c0 c1 hM
    go_wp2_with fail
    go_loopw [29, 30] (fun v29 v30 wr => ∃ (j : Nat) (A6 : Option Addr) (cap6 : Nat), j ≤ T ∧ v30 = .int .i64 ((j + 1 : Nat) : Int) ∧ v29 = .slice A6 j cap6 ∧ wr.ownsRow w9.heap.size 2 1 (.slice A6 j cap6) j (iv ((List.range j).map fun i => d a (i + 1) - d a 0)) ∧ Below w9.heap.size w9 wr) (fun _ v30 _ => T + 1 - (intOf v30).toNat)
    case atStart => exact ⟨0, none, 0, Nat.zero_le _, rfl, rfl, World.ownsRow_nil _ _ _ _, Below.refl _ _⟩
    case round =>
      obtain ⟨j, A6, cap6, hj, rfl, rfl, hown, hBB⟩ := hrel
      have Hown := Lib.hid hown
      have HBB := Lib.hid hBB
      have X10 := X9.next hBB
      have HM4 := Lib.hid (HM.out.below hBB)
      have hz9 := hBB.size
      clear hown hBB
      by_cases hlt : j < T
      · obtain ⟨t, ht⟩ : ∃ t, j + 1 = t := ⟨_, rfl⟩
        have hN2 := HN.out
        have ha2 := Ha.out
        have oA := HM4.out.cellO (show a < N by omega)
        have eAT := HM4.out.cellI (show a < N by omega) (show t < N by omega)
        have eA0 := HM4.out.cellI (show a < N by omega) (show 0 < N by omega)
        have i0 : (0 : Int) ≤ (t : Int) := by omega
        have i1 : (t : Int) < (N : Int) := by omega
        have i2 : (0 : Int) < (N : Int) := by omega
        have i3 : (0 : Int) ≤ (a : Int) := by omega
        have i4 : (a : Int) < (N : Int) := by omega
        have i5 : a < N := by omega
        have i6 : t < N := by omega
        have i7 : 0 < N := by omega
        have g0 := Hok.out.bd a t Ha.out (by omega)
        have g1 := Hok.out.bd a 0 Ha.out (by omega)
        obtain ⟨x9, hx9⟩ : ∃ x9, d a t = x9 := ⟨_, rfl⟩
        obtain ⟨y9, hy9⟩ : ∃ y9, d a 0 = y9 := ⟨_, rfl⟩
        rw [hx9] at eAT g0
        rw [hy9] at eA0 g1
        have Hx9 := Lib.hid hx9
        have Hy9 := Lib.hid hy9
        have Hsn := Lib.hid (show (List.range (j + 1)).map (fun i => d a (i + 1) - d a 0) = (List.range j).map (fun i => d a (i + 1) - d a 0) ++ [x9 - y9] by
          rw [List.range_succ, List.map_append, ← hx9, ← hy9, ← ht]
          rfl)
        obtain ⟨g00, g01⟩ := g0
        obtain ⟨g10, g11⟩ := g1
        have Ht := Lib.hid ht
        rw [ht]
        obtain ⟨L, hL⟩ : ∃ L, (List.range j).map (fun i => d a (i + 1) - d a 0) = L := ⟨_, rfl⟩
        rw [hL] at Hown Hsn
        have j8 : IntKind.i64.wrap (x9 - y9) = x9 - y9 := IntWalk.i64_in _ (by omega)
        clear hx9 hy9 ht hL hN2 ha2
        go_wp2_with fail
        have hdr : Below wr.heap.size wr wr.drew := drew_below wr 1 wr.heap.size
        have HE1 := Lib.hid (show Below w9.heap.size w9 (wr.alloc (.cells #[.int .i64 (x9 - y9)] 2)).drew from below_drewN (HBB.out.alloc hz9 _) 1)
        have HE2 := Lib.hid (own_below (own_below Hown.out (below_alloc_ wr (.cells #[.int .i64 (x9 - y9)] 2)) (Nat.le_refl _)) (below_drew_ _) (Nat.le_refl _))
        have HE3 := Lib.hid (show (wr.alloc (.cells #[.int .i64 (x9 - y9)] 2)).drew.cell? ⟨wr.heap.size, 0, none⟩ = some (.int .i64 (x9 - y9)) by
          show (wr.alloc (.cells #[.int .i64 (x9 - y9)] 2)).cell? ⟨wr.heap.size, 0, none⟩ = some (.int .i64 (x9 - y9))
          rw [cell_of_row _ _ 0 _ _ _ (heap_alloc_new _ _)]; rfl)
        have HBD := Lib.hid (HBB.out.trans (hdr.mono hz9))
        have hz10 := HBD.out.size
        have Tall := Lib.hid (show ∀ W, Below w9.heap.size w9 W → Below w9.heap.size w9 W ∧ W.cell? ⟨G, a, none⟩ = some (.slice (some ⟨rb a, 0, none⟩) N (rc a)) ∧ W.cell? ⟨rb a, t, none⟩ = some (.int .i64 x9) ∧ W.cell? ⟨rb a, 0, none⟩ = some (.int .i64 y9) from fun W hW => ⟨hW, (HM.out.below hW).cellO i5, by rw [(HM.out.below hW).cellI i5 i6, Hx9.out], by rw [(HM.out.below hW).cellI i5 i7, Hy9.out]⟩)
        clear hdr oA eAT eA0
        (go_region_held3 (fun w' => Below w9.heap.size w9 w' ∧ w'.cell? ⟨G, a, none⟩ = some (.slice (some ⟨rb a, 0, none⟩) N (rc a)) ∧ w'.cell? ⟨rb a, t, none⟩ = some (.int .i64 x9) ∧ w'.cell? ⟨rb a, 0, none⟩ = some (.int .i64 y9))
          (first | (exact Tall.out _ HBD.out) | (exact Tall.out _ HE1.out) | (exact Tall.out _ (HE1.out.trans (by assumption))))
          (first
            | (rw [if_pos (by rfl)]; refine wp_append_ints (.tmp 156) (.tmp 171) 25 2 rfl Try.underlying25 Try.info2 w9.heap.size _ j L rfl HE2.out (some ⟨wr.heap.size, 0, none⟩) 1 1 [x9 - y9] rfl (ints_one HE3.out) (by omega) (by simp; omega) ?_; intro A8 cap8 w8 hown8 hb8)))
        all_goals (
          go_wp2_with fail
          go_roundw
          case rel => exact ⟨j + 1, _, _, by omega, by rw [Ht.out]; go_num, rfl, by rw [Hsn.out]; assumption, HE1.out.trans (by assumption)⟩
          case measure => simp [intOf]; omega)
      · obtain rfl : j = T := by omega
        have hN3 : ((j + 1 : Nat) : Int) = (N : Int) := by have := HN.out; omega
        rw [hN3]
        have HI9 := Lib.hid (show Ints wr A6 j (topL d a j) from Ints.of_own Hown.out)
        have Htop := Lib.hid (show checkSpeeds j rs (topL d a j) = 0 by rw [← Hd.out]; exact top_true He.out Hs_.out Ha.out)
        have hdz := top_far He.out Hs_.out Ha.out Hc.out
        rw [Hd.out, Hz.out] at hdz
        have tlen : (topL d a j).length = j := by simp [topL]
        have pc := pace_at (topL d a j) c (by have := Hc.out; omega)
        have pa := pace_at (topL d a j) a (by have := Ha.out; omega)
        have tc9 := top_at d a j Hc.out
        have ta9 := top_at d a j Ha.out
        have g1 := Hok.out.bd a c Ha.out Hc.out
        have g2 := Hok.out.bd a 0 Ha.out (Nat.zero_le _)
        have g3 := Hok.out.bd a a Ha.out Ha.out
        obtain ⟨tc, htc⟩ : ∃ tc, qOf (topL d a j) c = tc := ⟨_, rfl⟩
        obtain ⟨ta, hta⟩ : ∃ ta, qOf (topL d a j) a = ta := ⟨_, rfl⟩
        rw [htc] at pc tc9 hdz
        rw [hta] at pa ta9 hdz
        have Pc := Lib.hid pc
        have Pa := Lib.hid pa
        have tb : -500000000000 ≤ tc ∧ tc ≤ 500000000000 := by omega
        have tb2 : -500000000000 ≤ ta ∧ ta ≤ 500000000000 := by omega
        obtain ⟨tb0, tb1⟩ := tb
        obtain ⟨tb20, tb21⟩ := tb2
        have c0 := X10.bx.c0
        have c1 := X10.bx.c1
        clear pc pa tc9 ta9 g1 g2 g3 htc hta tlen
        go_wp2_with fail
        refine (checkSpeeds21 A A6 n cap j cap6 j rs (topL d a j) _ X10.bx.rules HI9.out Hn7.out (by omega)).mono ?_
        rintro e w11 ⟨rfl, hb⟩
        rw [Htop.out]
        have X11 := X10.next hb
        have HI11 := Lib.hid (HI9.out.below hb (Nat.le_refl _))
        clear X10 hb c0 c1 HI9
        go_wp2_with fail
        refine (of45 A6 j cap6 (topL d a j) c _ HI11.out hT2 ⟨by omega, by have := Hc.out; omega⟩).mono ?_
        rintro e w' ⟨rfl, rfl⟩
        rw [Int.toNat_natCast, Pc.out]
        go_wp2_with fail
        refine (of45 A6 j cap6 (topL d a j) a _ HI11.out hT2 ⟨by omega, by have := Ha.out; omega⟩).mono ?_
        rintro e w' ⟨rfl, rfl⟩
        rw [Int.toNat_natCast, Pa.out]
        go_wp2_with fail
        refine (HW.out _).mono ?_
        rintro e w12 ⟨rfl, hb⟩
        have X12 := X11.next hb
        clear X11 hb
        go_wp2_with fail
        go_ret
        exact ⟨rfl, X12.bx.below⟩
  · have hew2 : (ew == 0) = false := by rw [beq_eq_false_iff_ne]; exact hew
    clear hcw hew
    go_wp2_with fail
    refine (far46 A n cap T rs _ X8.bx.rules He.out).mono ?_
    rintro e w9 ⟨G, capG, rb, rc, rfl, hM, hb⟩
    rw [HN.out, Hd.out] at hM
    rw [HN.out]
    have X9 := X8.next hb
    have HM := Lib.hid hM
    clear X8 hb c0 c1 hM
    go_wp2_with fail
    go_loopw [29, 30] (fun v29 v30 wr => ∃ (j : Nat) (A6 : Option Addr) (cap6 : Nat), j ≤ T ∧ v30 = .int .i64 ((j + 1 : Nat) : Int) ∧ v29 = .slice A6 j cap6 ∧ wr.ownsRow w9.heap.size 2 1 (.slice A6 j cap6) j (iv ((List.range j).map fun i => d a (i + 1) - d a 0)) ∧ Below w9.heap.size w9 wr) (fun _ v30 _ => T + 1 - (intOf v30).toNat)
    case atStart => exact ⟨0, none, 0, Nat.zero_le _, rfl, rfl, World.ownsRow_nil _ _ _ _, Below.refl _ _⟩
    case round =>
      obtain ⟨j, A6, cap6, hj, rfl, rfl, hown, hBB⟩ := hrel
      have Hown := Lib.hid hown
      have HBB := Lib.hid hBB
      have X10 := X9.next hBB
      have HM4 := Lib.hid (HM.out.below hBB)
      have hz9 := hBB.size
      clear hown hBB
      by_cases hlt : j < T
      · obtain ⟨t, ht⟩ : ∃ t, j + 1 = t := ⟨_, rfl⟩
        have hN2 := HN.out
        have ha2 := Ha.out
        have oA := HM4.out.cellO (show a < N by omega)
        have eAT := HM4.out.cellI (show a < N by omega) (show t < N by omega)
        have eA0 := HM4.out.cellI (show a < N by omega) (show 0 < N by omega)
        have i0 : (0 : Int) ≤ (t : Int) := by omega
        have i1 : (t : Int) < (N : Int) := by omega
        have i2 : (0 : Int) < (N : Int) := by omega
        have i3 : (0 : Int) ≤ (a : Int) := by omega
        have i4 : (a : Int) < (N : Int) := by omega
        have i5 : a < N := by omega
        have i6 : t < N := by omega
        have i7 : 0 < N := by omega
        have g0 := Hok.out.bd a t Ha.out (by omega)
        have g1 := Hok.out.bd a 0 Ha.out (by omega)
        obtain ⟨x9, hx9⟩ : ∃ x9, d a t = x9 := ⟨_, rfl⟩
        obtain ⟨y9, hy9⟩ : ∃ y9, d a 0 = y9 := ⟨_, rfl⟩
        rw [hx9] at eAT g0
        rw [hy9] at eA0 g1
        have Hx9 := Lib.hid hx9
        have Hy9 := Lib.hid hy9
        have Hsn := Lib.hid (show (List.range (j + 1)).map (fun i => d a (i + 1) - d a 0) = (List.range j).map (fun i => d a (i + 1) - d a 0) ++ [x9 - y9] by
          rw [List.range_succ, List.map_append, ← hx9, ← hy9, ← ht]
          rfl)
        obtain ⟨g00, g01⟩ := g0
        obtain ⟨g10, g11⟩ := g1
        have Ht := Lib.hid ht
        rw [ht]
        obtain ⟨L, hL⟩ : ∃ L, (List.range j).map (fun i => d a (i + 1) - d a 0) = L := ⟨_, rfl⟩
        rw [hL] at Hown Hsn
        have j8 : IntKind.i64.wrap (x9 - y9) = x9 - y9 := IntWalk.i64_in _ (by omega)
        clear hx9 hy9 ht hL hN2 ha2
        go_wp2_with fail
        have hdr : Below wr.heap.size wr wr.drew := drew_below wr 1 wr.heap.size
        have HE1 := Lib.hid (show Below w9.heap.size w9 (wr.alloc (.cells #[.int .i64 (x9 - y9)] 2)).drew from below_drewN (HBB.out.alloc hz9 _) 1)
        have HE2 := Lib.hid (own_below (own_below Hown.out (below_alloc_ wr (.cells #[.int .i64 (x9 - y9)] 2)) (Nat.le_refl _)) (below_drew_ _) (Nat.le_refl _))
        have HE3 := Lib.hid (show (wr.alloc (.cells #[.int .i64 (x9 - y9)] 2)).drew.cell? ⟨wr.heap.size, 0, none⟩ = some (.int .i64 (x9 - y9)) by
          show (wr.alloc (.cells #[.int .i64 (x9 - y9)] 2)).cell? ⟨wr.heap.size, 0, none⟩ = some (.int .i64 (x9 - y9))
          rw [cell_of_row _ _ 0 _ _ _ (heap_alloc_new _ _)]; rfl)
        have HBD := Lib.hid (HBB.out.trans (hdr.mono hz9))
        have hz10 := HBD.out.size
        have Tall := Lib.hid (show ∀ W, Below w9.heap.size w9 W → Below w9.heap.size w9 W ∧ W.cell? ⟨G, a, none⟩ = some (.slice (some ⟨rb a, 0, none⟩) N (rc a)) ∧ W.cell? ⟨rb a, t, none⟩ = some (.int .i64 x9) ∧ W.cell? ⟨rb a, 0, none⟩ = some (.int .i64 y9) from fun W hW => ⟨hW, (HM.out.below hW).cellO i5, by rw [(HM.out.below hW).cellI i5 i6, Hx9.out], by rw [(HM.out.below hW).cellI i5 i7, Hy9.out]⟩)
        clear hdr oA eAT eA0
        (go_region_held3 (fun w' => Below w9.heap.size w9 w' ∧ w'.cell? ⟨G, a, none⟩ = some (.slice (some ⟨rb a, 0, none⟩) N (rc a)) ∧ w'.cell? ⟨rb a, t, none⟩ = some (.int .i64 x9) ∧ w'.cell? ⟨rb a, 0, none⟩ = some (.int .i64 y9))
          (first | (exact Tall.out _ HBD.out) | (exact Tall.out _ HE1.out) | (exact Tall.out _ (HE1.out.trans (by assumption))))
          (first
            | (rw [if_pos (by rfl)]; refine wp_append_ints (.tmp 156) (.tmp 171) 25 2 rfl Try.underlying25 Try.info2 w9.heap.size _ j L rfl HE2.out (some ⟨wr.heap.size, 0, none⟩) 1 1 [x9 - y9] rfl (ints_one HE3.out) (by omega) (by simp; omega) ?_; intro A8 cap8 w8 hown8 hb8)))
        all_goals (
          go_wp2_with fail
          go_roundw
          case rel => exact ⟨j + 1, _, _, by omega, by rw [Ht.out]; go_num, rfl, by rw [Hsn.out]; assumption, HE1.out.trans (by assumption)⟩
          case measure => simp [intOf]; omega)
      · obtain rfl : j = T := by omega
        have hN3 : ((j + 1 : Nat) : Int) = (N : Int) := by have := HN.out; omega
        rw [hN3]
        have HI9 := Lib.hid (show Ints wr A6 j (topL d a j) from Ints.of_own Hown.out)
        have Htop := Lib.hid (show checkSpeeds j rs (topL d a j) = 0 by rw [← Hd.out]; exact top_true He.out Hs_.out Ha.out)
        have hdz := top_far He.out Hs_.out Ha.out Hc.out
        rw [Hd.out, Hz.out] at hdz
        have tlen : (topL d a j).length = j := by simp [topL]
        have pc := pace_at (topL d a j) c (by have := Hc.out; omega)
        have pa := pace_at (topL d a j) a (by have := Ha.out; omega)
        have tc9 := top_at d a j Hc.out
        have ta9 := top_at d a j Ha.out
        have g1 := Hok.out.bd a c Ha.out Hc.out
        have g2 := Hok.out.bd a 0 Ha.out (Nat.zero_le _)
        have g3 := Hok.out.bd a a Ha.out Ha.out
        obtain ⟨tc, htc⟩ : ∃ tc, qOf (topL d a j) c = tc := ⟨_, rfl⟩
        obtain ⟨ta, hta⟩ : ∃ ta, qOf (topL d a j) a = ta := ⟨_, rfl⟩
        rw [htc] at pc tc9 hdz
        rw [hta] at pa ta9 hdz
        have Pc := Lib.hid pc
        have Pa := Lib.hid pa
        have tb : -500000000000 ≤ tc ∧ tc ≤ 500000000000 := by omega
        have tb2 : -500000000000 ≤ ta ∧ ta ≤ 500000000000 := by omega
        obtain ⟨tb0, tb1⟩ := tb
        obtain ⟨tb20, tb21⟩ := tb2
        have c0 := X10.bx.c0
        have c1 := X10.bx.c1
        clear pc pa tc9 ta9 g1 g2 g3 htc hta tlen
        go_wp2_with fail
        refine (checkSpeeds21 A A6 n cap j cap6 j rs (topL d a j) _ X10.bx.rules HI9.out Hn7.out (by omega)).mono ?_
        rintro e w11 ⟨rfl, hb⟩
        rw [Htop.out]
        have X11 := X10.next hb
        have HI11 := Lib.hid (HI9.out.below hb (Nat.le_refl _))
        clear X10 hb c0 c1 HI9
        go_wp2_with fail
        refine (of45 A6 j cap6 (topL d a j) c _ HI11.out hT2 ⟨by omega, by have := Hc.out; omega⟩).mono ?_
        rintro e w' ⟨rfl, rfl⟩
        rw [Int.toNat_natCast, Pc.out]
        go_wp2_with fail
        refine (of45 A6 j cap6 (topL d a j) a _ HI11.out hT2 ⟨by omega, by have := Ha.out; omega⟩).mono ?_
        rintro e w' ⟨rfl, rfl⟩
        rw [Int.toNat_natCast, Pa.out]
        go_wp2_with fail
        refine (HW.out _).mono ?_
        rintro e w12 ⟨rfl, hb⟩
        have X12 := X11.next hb
        clear X11 hb
        go_wp2_with fail
        go_ret
        exact ⟨rfl, X12.bx.below⟩
end Go.Proofs.Ytiankphkemakeaa

namespace Go.Proofs.Ytiankphkemakeaa
set_option linter.unusedSimpArgs false
set_option linter.unusedVariables false
open Go.Joins Go.ChangeShapes Go.WideShapes Go.ChangeAt Go.RowKit Go.Deep

set_option maxRecDepth 100000 in
theorem open_listU {H : Type} {enc : TypeId × Value → H} {W : World} {b : Nat} {t e : TypeId} {v : Value} {d : DataW H} {p : List MemPlace} (ht : Try.prog.underlying t = some (.slice e)) (he : Try.prog.underlying e = some (.int .u16)) (hc : Try.prog.cellsOf e = 1)
    (hv : Value.okWide Try.prog W .any b t v) (h : DataW.Trod enc Try.prog W 0 (fun _ => true) true t v d p) :
    ∃ (A : Option Addr) (n cap : Nat) (zs : List Int), v = .slice A n cap ∧ IntsU W A n zs ∧ n ≤ maxLen := by
  obtain ⟨a0, len0, cap0, rfl⟩ := okWide_slice ht hv
  obtain ⟨fuel, hf⟩ := h
  rcases open_ints ht he hc hf with ⟨hcs, hx⟩ | ⟨a, len, cap, zs, hcs, _, hl, hm, hz, hx, hcell, hwz⟩
  · simp [Value.cells] at hcs
    obtain ⟨rfl, rfl, rfl⟩ := hcs
    exact ⟨none, 0, 0, [], rfl, ⟨rfl, fun j => by simp [nth], fun h => absurd h (by omega)⟩, Nat.zero_le _⟩
  · simp [Value.cells] at hcs
    obtain ⟨rfl, rfl, rfl⟩ := hcs
    simp only [if_true] at hz
    refine ⟨some a, len0, cap0, zs.take len0, rfl, ⟨by simp; omega, fun j => ?_, fun hn => ?_⟩, Nat.le_trans hl hm⟩
    · have e1 : IntKind.u16.min = 0 := by decide
      have e2 : IntKind.u16.max = 65535 := by decide
      by_cases hj : j < (zs.take len0).length
      · have h5 := hwz _ (List.mem_of_mem_take (nth_mem hj))
        simpa [Lit.wf, e1, e2] using h5
      · have : nth (zs.take len0) j = 0 := by
          unfold nth List.getD
          rw [List.getElem?_eq_none (by omega)]
          rfl
        omega
    · obtain ⟨bb, off, spot⟩ := a
      have hspot : spot = none := by simpa [Addr.add] using World.cell?_spot (hcell 0 (by omega))
      subst hspot
      refine ⟨bb, off, rfl, fun j hj => ?_⟩
      have := hcell j (by omega)
      rw [add_plain] at this
      rw [this]
      simp [nth, List.getD, List.getElem?_take, hj]
end Go.Proofs.Ytiankphkemakeaa

namespace Go.Proofs.Ytiankphkemakeaa
set_option linter.unusedSimpArgs false
set_option linter.unusedVariables false
open Go.Joins Go.ChangeShapes Go.WideShapes Go.ChangeAt Go.RowKit Go.Deep

set_option maxRecDepth 100000 in
theorem okWide_array3 {P : Program} {w : World} {r : Reach} {b0 : Nat} {t e : TypeId} {v : Value} (ht : P.underlying t = some (.array 3 e)) (h : Value.okWide P w r b0 t v) : ∃ cs, v = .agg cs ∧ cs.size = P.cellsOf t := by
  simp only [Value.okWide, ht] at h
  obtain ⟨cs, h1, h2, _⟩ := h
  exact ⟨cs, h1, h2⟩
theorem u8_bounds {n : Int} (h : (Lit.int .u8 n).wf = true) : 0 ≤ n ∧ n ≤ 255 := by
  have h' : (decide (IntKind.u8.min ≤ n) && decide (n ≤ IntKind.u8.max)) = true := h
  rw [show IntKind.u8.min = 0 from by decide, show IntKind.u8.max = 255 from by decide] at h'
  simp at h'
  exact h'
set_option maxRecDepth 100000 in
theorem speedWays9 (HW : Hid WorksOk) (T u0 u1 u2 : Int) (A D K : Option Addr) (n cap m capm k capk : Nat) (rs : List R) (bs ks : List Int) (w : World) (h : Rules w A n rs) (hb : IntsU w D m bs) (hk : Ints w K k ks) (hn : n ≤ maxLen) (hm : m ≤ maxLen) (hkk : k ≤ maxLen)
    (b0 : 0 ≤ u0 ∧ u0 ≤ 255) (b1 : 0 ≤ u1 ∧ u1 ≤ 255) (b2 : 0 ≤ u2 ∧ u2 ≤ 255) :
    Calls Try.prog 9 #[.agg #[.int .i64 T, .slice A n cap], .agg #[.int .u8 u0, .int .u8 u1, .int .u8 u2], .slice D m capm, .slice K k capk] w fun e w' => e = .returned (.bool true) ∧ Below w.heap.size w w' := by
  by_cases hno : fineB T n rs = false ∨ 40 < m ∨ 60 < k
  · exact ways9_not HW T u0 u1 u2 A D K n cap m capm k capk rs bs ks w h hb hk hn hm hkk hno
  · have hf : fineB T n rs = true := by
      cases e : fineB T n rs with
      | true => rfl
      | false => exact absurd (.inl e) hno
    obtain ⟨h70, he, hc⟩ : n ≤ 70 ∧ chk T rs = 0 ∧ clashM T.toNat rs = false := of_decide_eq_true hf
    have hT := (chk_ok he).2.1
    obtain ⟨T, rfl⟩ := Int.eq_ofNat_of_zero_le (show 0 ≤ T by omega)
    rw [Int.toNat_natCast] at hc
    exact ways9_fine HW T u0 u1 u2 A D K n cap m capm k capk rs bs ks w h hb hk hn h70 (by omega) (by omega) b0 b1 b2 hf he ((clash_some_iff he).1 hc)
end Go.Proofs.Ytiankphkemakeaa

