/- SpeedHeld: the mathematics of the ends, what the walk reads, the walk, put together. -/
import Derived.Test.YtiankphkemakeaaWaysAll
namespace Go.Proofs.Ytiankphkemakeaa
set_option linter.unusedSimpArgs false
set_option linter.unusedVariables false
open Go.RowKit Go.Shelf

/-- The ends of all turns: what Ends returns, if there are speeds. -/
theorem ends_list {T : Nat} {rs : List R} (he : chk T rs = 0) (hs : Some_ T rs) (high : Bool) :
    ∃ L, endsR T rs high = (L, 0) ∧ L.length = T ∧ (∀ a, a < T → nth L a = endM T rs high (a + 1)) ∧ checkSpeeds T rs L = 0 := by
  obtain ⟨g1, g2, g3, g4, g5⟩ := far_facts he hs
  refine ⟨_, endsR_far he hs high, by simp, fun a ha => by simp [nth, List.getD, ha], ?_⟩
  refine (checkSpeeds_iff he _).2 ⟨by simp, fun r hr => ?_⟩
  have f := (good_whole he).fit r hr
  have hq : ∀ v, v ≤ T → qOf ((List.range T).map fun i => endM T rs high (i + 1)) v = endM T rs high v := fun v hv => by
    cases v with
    | zero => unfold endM; rw [g1 0 (by omega)]; cases high <;> rfl
    | succ v => simp [qOf, nth, List.getD, show v < T by omega]
  show qOf ((List.range T).map fun i => endM T rs high (i + 1)) r.t.toNat ≤ qOf ((List.range T).map fun i => endM T rs high (i + 1)) r.f.toNat + r.m
  rw [hq _ (by omega), hq _ (by omega)]
  cases high
  · have a1 := g3 r.f.toNat r.t.toNat 0 (by omega) (by omega) (by omega)
    have a2 := g4 r.f.toNat (by omega) r hr
    rw [g1 _ (by omega)] at a2
    show -(farM T rs r.t.toNat 0) ≤ -(farM T rs r.f.toNat 0) + r.m
    omega
  · exact g4 0 (by omega) r hr

theorem way_up {T : Nat} {rs : List R} (he : chk T rs = 0) (hs : Some_ T rs) {t : Nat} (ht : t ≤ T) :
    ∃ W, wayR T rs 0 t = (W, farM T rs 0 t, 0) ∧ W.length ≤ 22 ∧ checkWayD T rs 0 t W = (farM T rs 0 t, 0) := by
  obtain ⟨W, h1, h2, h3, h4⟩ := wayR_far he hs (Nat.zero_le T) ht
  refine ⟨W, h1, h4, ?_⟩
  have := way_check he (Nat.zero_le T) ht h2 h3 h4
  rw [checkWay_same] at this
  exact this
theorem way_down {T : Nat} {rs : List R} (he : chk T rs = 0) (hs : Some_ T rs) {t : Nat} (ht : t ≤ T) :
    ∃ W, wayR T rs t 0 = (W, farM T rs t 0, 0) ∧ W.length ≤ 22 ∧ checkWayD T rs t 0 W = (farM T rs t 0, 0) := by
  obtain ⟨W, h1, h2, h3, h4⟩ := wayR_far he hs ht (Nat.zero_le T)
  refine ⟨W, h1, h4, ?_⟩
  have := way_check he ht (Nat.zero_le T) h2 h3 h4
  rw [checkWay_same] at this
  exact this
theorem ints_cell {W : World} {b o n : Nat} {zs : List Int} (h : Ints W (some ⟨b, o, none⟩) n zs) {j : Nat} (hj : j < n) : W.cell? ⟨b, o + j, none⟩ = some (.int .i64 (nth zs j)) := by
  obtain ⟨b2, o2, e, hc⟩ := h.2 (by omega)
  cases e
  exact hc j hj

/-- What SpeedHeld reads: the arguments, both ends, the span, both lists. -/
structure Hw (w : World) (B : Nat) (T : Nat) (A : Option Addr) (n cap : Nat) (rs : List R) (D : Option Addr) (m : Nat) (bs : List Int) (K : Option Addr) (k : Nat) (ks : List Int) (W : World) : Prop where
  bx : Bx w B (T : Int) A n cap rs W
  by_ : IntsU W D m bs
  giv : Ints W K k ks
theorem Hw.next {w : World} {B T : Nat} {A : Option Addr} {n cap : Nat} {rs : List R} {D : Option Addr} {m : Nat} {bs : List Int} {K : Option Addr} {k : Nat} {ks : List Int} {W W' : World} (hb : Below W.heap.size W W') (h : Hw w B T A n cap rs D m bs K k ks W) : Hw w B T A n cap rs D m bs K k ks W' :=
  ⟨h.bx.next hb, h.by_.below hb (Nat.le_refl _), h.giv.below hb (Nat.le_refl _)⟩
theorem Hw.new {w : World} {T : Nat} {A : Option Addr} {n cap : Nat} {rs : List R} {D : Option Addr} {m : Nat} {bs : List Int} {K : Option Addr} {k : Nat} {ks : List Int} (h : Rules w A n rs) (hb : IntsU w D m bs) (hk : Ints w K k ks) :
    Hw w w.heap.size T A n cap rs D m bs K k ks (w.alloc (.cells #[.int .i64 (T : Int), .slice A n cap] 24)) :=
  ⟨Bx.new h, hb.below (below_alloc_ _ _) (Nat.le_refl _), hk.below (below_alloc_ _ _) (Nat.le_refl _)⟩
/-- A block of two numbers. -/
structure Rb7 (W : World) (Q : Nat) (lo hi : Int) : Prop where
  hp : W.heap[Q]? = some (.cells #[.int .i64 lo, .int .i64 hi] 43 (0, 0))
theorem Rb7.next {W W' : World} {Q : Nat} {lo hi : Int} (hb : Below W.heap.size W W') (h : Rb7 W Q lo hi) : Rb7 W' Q lo hi := ⟨(hb.block _ (lt_of_block h.hp)).trans h.hp⟩
theorem Rb7.c0 {W : World} {Q : Nat} {lo hi : Int} (h : Rb7 W Q lo hi) : W.cell? ⟨Q, 0, none⟩ = some (.int .i64 lo) := by rw [cell_of_row _ _ 0 _ _ _ h.hp]; rfl
theorem Rb7.c1 {W : World} {Q : Nat} {lo hi : Int} (h : Rb7 W Q lo hi) : W.cell? ⟨Q, 1, none⟩ = some (.int .i64 hi) := by rw [cell_of_row _ _ 1 _ _ _ h.hp]; rfl
structure Hv (w : World) (B : Nat) (T : Nat) (A : Option Addr) (n cap : Nat) (rs : List R) (D : Option Addr) (m : Nat) (bs : List Int) (K : Option Addr) (k : Nat) (ks : List Int) (C1 C2 : Option Addr) (L1 L2 : List Int) (W : World) : Prop where
  hw : Hw w B T A n cap rs D m bs K k ks W
  i1 : Ints W C1 T L1
  i2 : Ints W C2 T L2
theorem Hv.next {w : World} {B T : Nat} {A : Option Addr} {n cap : Nat} {rs : List R} {D : Option Addr} {m : Nat} {bs : List Int} {K : Option Addr} {k : Nat} {ks : List Int} {C1 C2 : Option Addr} {L1 L2 : List Int} {W W' : World} (hb : Below W.heap.size W W') (h : Hv w B T A n cap rs D m bs K k ks C1 C2 L1 L2 W) : Hv w B T A n cap rs D m bs K k ks C1 C2 L1 L2 W' :=
  ⟨h.hw.next hb, h.i1.below hb (Nat.le_refl _), h.i2.below hb (Nat.le_refl _)⟩
structure Hu (w : World) (B : Nat) (T : Nat) (A : Option Addr) (n cap : Nat) (rs : List R) (D : Option Addr) (m : Nat) (bs : List Int) (K : Option Addr) (k : Nat) (ks : List Int) (C1 C2 : Option Addr) (L1 L2 : List Int) (Q : Nat) (lo hi : Int) (W : World) : Prop where
  hv : Hv w B T A n cap rs D m bs K k ks C1 C2 L1 L2 W
  rb : Rb7 W Q lo hi
theorem Hu.next {w : World} {B T : Nat} {A : Option Addr} {n cap : Nat} {rs : List R} {D : Option Addr} {m : Nat} {bs : List Int} {K : Option Addr} {k : Nat} {ks : List Int} {C1 C2 : Option Addr} {L1 L2 : List Int} {Q : Nat} {lo hi : Int} {W W' : World} (hb : Below W.heap.size W W') (h : Hu w B T A n cap rs D m bs K k ks C1 C2 L1 L2 Q lo hi W) : Hu w B T A n cap rs D m bs K k ks C1 C2 L1 L2 Q lo hi W' :=
  ⟨h.hv.next hb, h.rb.next hb⟩
structure Hz (w0 : World) (w : World) (B : Nat) (T : Nat) (A : Option Addr) (n cap : Nat) (rs : List R) (D : Option Addr) (m : Nat) (bs : List Int) (K : Option Addr) (k : Nat) (ks : List Int) (C1 C2 : Option Addr) (L1 L2 : List Int) (Q : Nat) (lo hi : Int) (W : World) : Prop where
  hu : Hu w B T A n cap rs D m bs K k ks C1 C2 L1 L2 Q lo hi W
  b : Below w0.heap.size w0 W
theorem Hz.next {w0 : World} {w : World} {B T : Nat} {A : Option Addr} {n cap : Nat} {rs : List R} {D : Option Addr} {m : Nat} {bs : List Int} {K : Option Addr} {k : Nat} {ks : List Int} {C1 C2 : Option Addr} {L1 L2 : List Int} {Q : Nat} {lo hi : Int} {W W' : World} (hb : Below W.heap.size W W') (h : Hz w0 w B T A n cap rs D m bs K k ks C1 C2 L1 L2 Q lo hi W) : Hz w0 w B T A n cap rs D m bs K k ks C1 C2 L1 L2 Q lo hi W' :=
  ⟨h.hu.next hb, h.b.trans (hb.mono h.b.size)⟩
structure Hdl (w0 : World) (w : World) (B : Nat) (T : Nat) (A : Option Addr) (n cap : Nat) (rs : List R) (D : Option Addr) (m : Nat) (bs : List Int) (K : Option Addr) (k : Nat) (ks : List Int) (C1 C2 : Option Addr) (L1 L2 : List Int) (Q : Nat) (lo hi : Int) (C4 : Option Addr) (vs : List Int) (Z p4 capk : Nat) (W0 W : World) : Prop where
  hz : Hz w0 w B T A n cap rs D m bs K k ks C1 C2 L1 L2 Q lo hi W
  i5 : Ints W C4 T vs
  z : W.heap[Z]? = some (.cells #[.slice C4 T p4, .slice K k capk] 25 (0, 0))
  b0 : Below W0.heap.size W0 W
theorem Hdl.next {w0 : World} {w : World} {B T : Nat} {A : Option Addr} {n cap : Nat} {rs : List R} {D : Option Addr} {m : Nat} {bs : List Int} {K : Option Addr} {k : Nat} {ks : List Int} {C1 C2 : Option Addr} {L1 L2 : List Int} {Q : Nat} {lo hi : Int} {C4 : Option Addr} {vs : List Int} {Z p4 capk : Nat} {W0 W W' : World} (hb : Below W.heap.size W W') (h : Hdl w0 w B T A n cap rs D m bs K k ks C1 C2 L1 L2 Q lo hi C4 vs Z p4 capk W0 W) : Hdl w0 w B T A n cap rs D m bs K k ks C1 C2 L1 L2 Q lo hi C4 vs Z p4 capk W0 W' :=
  ⟨h.hz.next hb, h.i5.below hb (Nat.le_refl _), (hb.block _ (lt_of_block h.z)).trans h.z, h.b0.trans (hb.mono h.b0.size)⟩
/-- The list that the loop looks at: the first one is that of true speeds. -/
theorem Hdl.pick {w0 : World} {w : World} {B T : Nat} {A : Option Addr} {n cap : Nat} {rs : List R} {D : Option Addr} {m : Nat} {bs : List Int} {K : Option Addr} {k : Nat} {ks : List Int} {C1 C2 : Option Addr} {L1 L2 : List Int} {Q : Nat} {lo hi : Int} {C4 : Option Addr} {vs : List Int} {Z p4 capk : Nat} {W0 : World} {j : Nat} (hj : j < 2) (hT : T ≤ 40) (hk : k ≤ 40) (hv : checkSpeeds T rs vs = 0) :
    ∃ Cj nj pj zs, (∀ W, Hdl w0 w B T A n cap rs D m bs K k ks C1 C2 L1 L2 Q lo hi C4 vs Z p4 capk W0 W → Ints W Cj nj zs ∧ W.cell? ⟨Z, j, none⟩ = some (.slice Cj nj pj)) ∧ nj ≤ 40 ∧ (j = 0 → checkSpeeds T rs zs = 0) := by
  have : j = 0 ∨ j = 1 := by omega
  rcases this with rfl | rfl
  · exact ⟨C4, T, p4, vs, fun W h => ⟨h.i5, by rw [cell_of_row _ _ 0 _ _ _ h.z]; rfl⟩, hT, fun _ => hv⟩
  · exact ⟨K, k, capk, ks, fun W h => ⟨h.hz.hu.hv.hw.giv, by rw [cell_of_row _ _ 1 _ _ _ h.z]; rfl⟩, hk, fun h => by cases h⟩
end Go.Proofs.Ytiankphkemakeaa

namespace Go.Proofs.Ytiankphkemakeaa
set_option linter.unusedSimpArgs false
set_option linter.unusedVariables false
open Go.RowKit Go.Shelf

@[simp] def hel202 : Oper := { dst := some 202, op := Op.move (Operand.tmp 26), type := 28, pos := "outright.go:57", after := #[{ on := 11, ground := Ground.guard }], guard := some (11, true) }
theorem hel202_fold : ({ dst := some 202, op := Op.move (Operand.tmp 26), type := 28, pos := "outright.go:57", after := #[{ on := 11, ground := Ground.guard }], guard := some (11, true) } : Oper) = hel202 := rfl
@[simp] def hel203 : Oper := { dst := some 203, op := Op.binOp BinOp.neq 28 (Operand.tmp 202) (Operand.const (Value.int IntKind.i64 0)) 28, type := 4, pos := "outright.go:57", after := #[{ on := 12, ground := Ground.data }, { on := 11, ground := Ground.guard }], guard := some (11, true) }
theorem hel203_fold : ({ dst := some 203, op := Op.binOp BinOp.neq 28 (Operand.tmp 202) (Operand.const (Value.int IntKind.i64 0)) 28, type := 4, pos := "outright.go:57", after := #[{ on := 12, ground := Ground.data }, { on := 11, ground := Ground.guard }], guard := some (11, true) } : Oper) = hel203 := rfl

set_option maxRecDepth 100000 in
set_option maxHeartbeats 8000000 in
theorem held7_fine (HW : Hid WorksOk) (T : Nat) (u : Int) (A D K : Option Addr) (n cap m capm k capk : Nat) (rs : List R) (bs ks : List Int) (w : World) (h : Rules w A n rs) (hb : IntsU w D m bs) (hk : Ints w K k ks) (hn : n ≤ maxLen) (h70 : n ≤ 70) (hm : m ≤ 40) (hkk : k ≤ 40)
    (b0 : 0 ≤ u ∧ u ≤ 255) (hf : fineB T n rs = true) (he : chk T rs = 0) (hs : Some_ T rs) :
    Calls Try.prog 7 #[.agg #[.int .i64 (T : Int), .slice A n cap], .slice D m capm, .slice K k capk, .int .u8 u] w fun e w' => e = .returned (.bool true) ∧ Below w.heap.size w w' := by
  have X := Hw.new (T := T) (cap := cap) h hb hk
  have Hn := Lib.hid hn
  have Hn7 := Lib.hid (show n ≤ 140737488355328 by omega)
  have hT := (chk_ok he).2
  have hT1 : 1 ≤ T := by omega
  have hT2 : T ≤ 20 := by omega
  have He := Lib.hid he
  have Hs_ := Lib.hid hs
  have d40 : decide ((40 : Int) < (m : Int)) = false := decide_eq_false (by omega)
  have d60 : decide ((40 : Int) < (k : Int)) = false := decide_eq_false (by omega)
  have Hm := Lib.hid hm
  have Hk := Lib.hid hkk
  have Hf := Lib.hid hf
  have hT0 : ¬ ((T : Int) = 0) := by omega
  obtain ⟨a, a1, a2, a3, a4, a5⟩ := turn_of b0.1 b0.2 (show (1 : Int) ≤ T by omega) (by omega)
  obtain ⟨t, ht⟩ : ∃ t : Nat, a + 1 = t := ⟨_, rfl⟩
  have ht1 : (1 : Int) + (a : Int) = (t : Int) := by omega
  have ht2 : (t : Int) - 1 = (a : Int) := by omega
  have ht3 : IntKind.i64.wrap (t : Int) = (t : Int) := IntWalk.i64_in _ (by omega)
  have i0 : (0 : Int) ≤ (a : Int) := by omega
  have hta : t ≤ T := by omega
  have ht0 : 1 ≤ t := by omega
  have Ht := Lib.hid ht
  have Hta := Lib.hid hta
  have Ht0 := Lib.hid ht0
  have Hok := Lib.hid (far_ok he hs)
  obtain ⟨d, hd⟩ : ∃ d, farM T rs = d := ⟨_, rfl⟩
  rw [hd] at Hok
  have Hd := Lib.hid hd
  have bx := Hok.out.bd t 0 hta (Nat.zero_le _)
  have bY := Hok.out.bd 0 t (Nat.zero_le _) hta
  obtain ⟨L1, g1, g2, g3, g4⟩ := ends_list he hs false
  obtain ⟨L2, g5, g6, g7, g8⟩ := ends_list he hs true
  have G1 := Lib.hid g1
  have G2 := Lib.hid g2
  have G4 := Lib.hid g4
  have G5 := Lib.hid g5
  have G6 := Lib.hid g6
  have G8 := Lib.hid g8
  have e3 : nth L1 a = -(d t 0) := by rw [g3 a (by omega), ← hd, ← ht]; rfl
  have e7 : nth L2 a = d 0 t := by rw [g7 a (by omega), ← hd, ← ht]; rfl
  obtain ⟨x, hx⟩ : ∃ x, -(d t 0) = x := ⟨_, rfl⟩
  obtain ⟨y, hy⟩ : ∃ y, d 0 t = y := ⟨_, rfl⟩
  have hx2 : d t 0 = -x := by omega
  rw [hx2] at bx
  rw [hx] at e3
  rw [hy] at bY e7
  have bx0 : -209715200000 ≤ x := by omega
  have bx1 : x ≤ 209715200000 := by omega
  have Hx := Lib.hid hx2
  have Hy := Lib.hid hy
  have E3 := Lib.hid e3
  have E7 := Lib.hid e7
  obtain ⟨W1, v1, v2, v3⟩ := way_up he hs hta
  obtain ⟨W2, v4, v5, v6⟩ := way_down he hs hta
  rw [hd, hy] at v1 v3
  rw [hd, hx2] at v4 v6
  have V1 := Lib.hid v1
  have V2 := Lib.hid v2
  have V3 := Lib.hid v3
  have V4 := Lib.hid v4
  have V5 := Lib.hid v5
  have V6 := Lib.hid v6
  clear v1 v2 v3 v4 v5 v6
  have Hspan := Lib.hid (show spanR T rs t = (x, y, 0) by rw [spanR_far he hs ht0 hta, hd, hx, hy])
  have HTrue := Lib.hid (show checkSpeeds T rs (trueL (farM T rs) bs T) = 0 from true_true he hs bs)
  have HIn := Lib.hid (show ∀ vs, checkSpeeds T rs vs = 0 → x ≤ nth vs a ∧ nth vs a ≤ y from fun vs hv => by
    have := true_span he hv hta
    rw [hd, hx, hy, ← ht, qOf_succ] at this
    exact this)
  have HIl := Lib.hid (show ∀ vs, checkSpeeds T rs vs = 0 → vs.length = T from fun vs hv => ((checkSpeeds_iff he vs).1 hv).1)
  clear hx hx2 bx hy hd g1 g2 g3 g4 g5 g6 g7 g8 e3 e7
  clear h hb hk hn h70 hm hkk hT he hs hf ht hta ht0
  obtain ⟨b00, b01⟩ := b0
  obtain ⟨B, hB⟩ : ∃ B, w.heap.size = B := ⟨_, rfl⟩
  have HB := Lib.hid hB
  rw [hB] at X
  have c0 := X.bx.c0
  have c1 := X.bx.c1
  go_enter Try.func7, Try.ntmps7
  go_wp2_with fail
  refine (fine42 A n cap T rs _ X.bx.rules Hn.out).mono ?_
  rintro e w1 ⟨rfl, hb⟩
  have X1 := X.next hb
  clear X hb c0 c1 hB
  rw [Hf.out]
  have c0 := X1.bx.c0
  have c1 := X1.bx.c1
  go_wp2_with fail
  refine (ends31 A n cap T false rs _ X1.bx.rules Hn7.out).mono ?_
  rintro e w2 ⟨C1, k1, p1, rfl, hI, hb⟩
  rw [G1.out] at hI ⊢
  have hI : Ints w2 C1 k1 L1 := hI
  obtain rfl : T = k1 := by rw [← hI.1, G2.out]
  obtain ⟨ob1, o1, rfl, _⟩ := hI.2 (by omega)
  have X2 := X1.next hb
  have I1 := Lib.hid hI
  clear X1 hb c0 c1 hI
  have c0 := X2.bx.c0
  have c1 := X2.bx.c1
  go_wp2_with fail
  refine (ends31 A n cap T true rs _ X2.bx.rules Hn7.out).mono ?_
  rintro e w3 ⟨C2, k2, p2, rfl, hI, hb⟩
  rw [G5.out] at hI ⊢
  have hI : Ints w3 C2 k2 L2 := hI
  obtain rfl : T = k2 := by rw [← hI.1, G6.out]
  obtain ⟨ob2, o2, rfl, _⟩ := hI.2 (by omega)
  have X3 : Hv w B T A n cap rs D m bs K k ks (some ⟨ob1, o1, none⟩) (some ⟨ob2, o2, none⟩) L1 L2 w3 := ⟨X2.next hb, I1.out.below hb (Nat.le_refl _), hI⟩
  clear X2 hb c0 c1 hI I1
  have c0 := X3.hw.bx.c0
  have c1 := X3.hw.bx.c1
  go_wp2_with fail
  refine (checkSpeeds22 A (some ⟨ob1, o1, none⟩) n cap T p1 T rs L1 _ X3.hw.bx.rules X3.i1 Hn7.out (by omega)).mono ?_
  rintro e w4 ⟨rfl, hb⟩
  have X4 := X3.next hb
  rw [G4.out]
  clear X3 hb c0 c1
  have c0 := X4.hw.bx.c0
  have c1 := X4.hw.bx.c1
  go_wp2_with fail
  refine (checkSpeeds22 A (some ⟨ob2, o2, none⟩) n cap T p2 T rs L2 _ X4.hw.bx.rules X4.i2 Hn7.out (by omega)).mono ?_
  rintro e w5 ⟨rfl, hb⟩
  have X5 := X4.next hb
  rw [G8.out]
  clear X4 hb c0 c1
  have c0 := X5.hw.bx.c0
  have c1 := X5.hw.bx.c1
  go_wp2_with fail
  refine (checkSpeeds21 A (some ⟨ob1, o1, none⟩) n cap T p1 T rs L1 _ X5.hw.bx.rules X5.i1 Hn7.out (by omega)).mono ?_
  rintro e w6 ⟨rfl, hb⟩
  have X6 := X5.next hb
  rw [G4.out]
  clear X5 hb c0 c1
  have c0 := X6.hw.bx.c0
  have c1 := X6.hw.bx.c1
  go_wp2_with fail
  refine (checkSpeeds21 A (some ⟨ob2, o2, none⟩) n cap T p2 T rs L2 _ X6.hw.bx.rules X6.i2 Hn7.out (by omega)).mono ?_
  rintro e w7 ⟨rfl, hb⟩
  have X7 := X6.next hb
  rw [G8.out]
  clear X6 hb c0 c1
  have c0 := X7.hw.bx.c0
  have c1 := X7.hw.bx.c1
  go_wp2_with fail
  refine (span29 A n cap T t rs _ X7.hw.bx.rules Hn7.out).mono ?_
  rintro e w8 ⟨rfl, hb⟩
  have X8 := X7.next hb
  rw [Hspan.out]
  clear X7 hb c0 c1
  have c0 := X8.hw.bx.c0
  have c1 := X8.hw.bx.c1
  have hlt := X8.hw.bx.hi
  go_wp2_with fail
  have X9 : Hu w B T A n cap rs D m bs K k ks (some ⟨ob1, o1, none⟩) (some ⟨ob2, o2, none⟩) L1 L2 w8.heap.size x y (w8.alloc (.cells #[.int .i64 x, .int .i64 y] 43)) := ⟨X8.next (below_alloc_ _ _), ⟨heap_alloc_new _ _⟩⟩
  obtain ⟨W9, hW9⟩ : ∃ W9, w8.alloc (.cells #[.int .i64 x, .int .i64 y] 43) = W9 := ⟨_, rfl⟩
  rw [hW9] at X9 ⊢
  obtain ⟨Q, hQ⟩ : ∃ Q, w8.heap.size = Q := ⟨_, rfl⟩
  rw [hQ] at X9 ⊢
  clear hW9 hQ X8 c0 c1 hlt
  refine (way35 A n cap T 0 t rs _ X9.hv.hw.bx.rules Hn7.out).mono ?_
  rintro e w10 ⟨C3, k3, p3, rfl, hI, hb⟩
  rw [V1.out] at hI ⊢
  have X10 := X9.next hb
  have I3 := Lib.hid (show Ints w10 C3 k3 W1 from hI)
  clear X9 hb hI
  have c0 := X10.hv.hw.bx.c0
  have c1 := X10.hv.hw.bx.c1
  go_wp2_with fail
  refine (way35 A n cap T t 0 rs _ X10.hv.hw.bx.rules Hn7.out).mono ?_
  rintro e w11 ⟨C4, k4, p4, rfl, hI, hb⟩
  rw [V4.out] at hI ⊢
  have X11 := X10.next hb
  have I4 := Lib.hid (show Ints w11 C4 k4 W2 from hI)
  have I3b := Lib.hid (I3.out.below hb (Nat.le_refl _))
  clear X10 hb hI c0 c1 I3
  have Tall := Lib.hid (show ∀ W, Hz w11 w B T A n cap rs D m bs K k ks (some ⟨ob1, o1, none⟩) (some ⟨ob2, o2, none⟩) L1 L2 Q x y W → Hz w11 w B T A n cap rs D m bs K k ks (some ⟨ob1, o1, none⟩) (some ⟨ob2, o2, none⟩) L1 L2 Q x y W ∧ W.cell? ⟨Q, 0, none⟩ = some (.int .i64 x) ∧ W.cell? ⟨Q, 1, none⟩ = some (.int .i64 y) ∧ W.cell? ⟨ob1, o1 + a, none⟩ = some (.int .i64 x) ∧ W.cell? ⟨ob2, o2 + a, none⟩ = some (.int .i64 y) from
    fun W hW => ⟨hW, hW.hu.rb.c0, hW.hu.rb.c1, by rw [ints_cell hW.hu.hv.i1 (show a < T by omega), E3.out], by rw [ints_cell hW.hu.hv.i2 (show a < T by omega), E7.out]⟩)
  have G2x := Tall.out _ ⟨X11, Below.refl _ _⟩
  have I34 := Lib.hid (show ∀ W, Below w11.heap.size w11 W → Ints W C3 k3 W1 ∧ Ints W C4 k4 W2 from fun W hW => ⟨I3b.out.below hW (Nat.le_refl _), I4.out.below hW (Nat.le_refl _)⟩)
  have hk3 := Lib.hid (show k3 ≤ 22 by have := I3b.out.1; have := V2.out; omega)
  have hk4 := Lib.hid (show k4 ≤ 22 by have := I4.out.1; have := V5.out; omega)
  go_wp2_with fail
  have hwn : IntKind.i64.wrap (-x) = -x := IntWalk.i64_in _ (by omega)
  have X12 := Lib.hid (show Hz w11 w B T A n cap rs D m bs K k ks (some ⟨ob1, o1, none⟩) (some ⟨ob2, o2, none⟩) L1 L2 Q x y ((w11.alloc (.cells #[.int .i64 x, .int .i64 y] 43)).drew) from Hz.next (below_drew_ _) (Hz.next (below_alloc_ _ _) ⟨X11, Below.refl _ _⟩))
  clear X11 I3b I4
  (go_region_held3 (fun w' => Hz w11 w B T A n cap rs D m bs K k ks (some ⟨ob1, o1, none⟩) (some ⟨ob2, o2, none⟩) L1 L2 Q x y w' ∧ w'.cell? ⟨Q, 0, none⟩ = some (.int .i64 x) ∧ w'.cell? ⟨Q, 1, none⟩ = some (.int .i64 y) ∧ w'.cell? ⟨ob1, o1 + a, none⟩ = some (.int .i64 x) ∧ w'.cell? ⟨ob2, o2 + a, none⟩ = some (.int .i64 y))
    (first | (go_split_ands; exact Tall.out _ (by assumption)) | (go_split_ands; exact Tall.out _ (Hz.next (by assumption) (by assumption))) | (go_split_ands; exact Tall.out _ (Hz.next (below_alloc_ _ _) (by assumption))) | (go_split_ands; exact Tall.out _ (Hz.next (below_drew_ _) (by assumption))))
    (first
      | (go_at_call 43; refine (rg43 _ _ _).mono ?_; rintro e w' ⟨rfl, rfl⟩)))
  have X12 := X12.out
  obtain ⟨W12, hW12⟩ : ∃ W12, (w11.alloc (.cells #[.int .i64 x, .int .i64 y] 43)).drew = W12 := ⟨_, rfl⟩
  rw [hW12] at X12 ⊢
  clear hW12
  have c0 := X12.hu.hv.hw.bx.c0
  have c1 := X12.hu.hv.hw.bx.c1
  go_wp2_with fail
  refine (checkWay24 A C3 n cap k3 p3 T 0 t rs W1 _ X12.hu.hv.hw.bx.rules (I34.out _ X12.b).1 Hn7.out (by have := hk3.out; omega)).mono ?_
  rintro e w13 ⟨rfl, hb⟩
  rw [V3.out]
  have X13 := X12.next hb
  clear X12 hb c0 c1
  have c0 := X13.hu.hv.hw.bx.c0
  have c1 := X13.hu.hv.hw.bx.c1
  go_wp2_with fail
  refine (checkWay24 A C4 n cap k4 p4 T t 0 rs W2 _ X13.hu.hv.hw.bx.rules (I34.out _ X13.b).2 Hn7.out (by have := hk4.out; omega)).mono ?_
  rintro e w14 ⟨rfl, hb⟩
  rw [V6.out]
  have X14 := X13.next hb
  clear X13 hb c0 c1
  have c0 := X14.hu.hv.hw.bx.c0
  have c1 := X14.hu.hv.hw.bx.c1
  go_wp2_with fail
  refine (true44 A D n cap T m capm rs bs _ X14.hu.hv.hw.bx.rules X14.hu.hv.hw.by_ Hm.out He.out Hs_.out).mono ?_
  rintro e w15 ⟨C5, p5, rfl, hI, hb⟩
  have X15 := X14.next hb
  have I5 := Lib.hid hI
  clear X14 hb c0 c1 hI
  go_wp2_with fail
  obtain ⟨vs, hvs⟩ : ∃ vs, trueL (farM T rs) bs T = vs := ⟨_, rfl⟩
  rw [hvs] at I5 HTrue
  have X16 : Hdl w11 w B T A n cap rs D m bs K k ks (some ⟨ob1, o1, none⟩) (some ⟨ob2, o2, none⟩) L1 L2 Q x y C5 vs w15.heap.size p5 capk (w15.alloc (.cells #[.slice C5 T p5, .slice K k capk] 25)) (w15.alloc (.cells #[.slice C5 T p5, .slice K k capk] 25)) :=
    ⟨X15.next (below_alloc_ _ _), I5.out.below (below_alloc_ _ _) (Nat.le_refl _), heap_alloc_new _ _, Below.refl _ _⟩
  obtain ⟨W16, hW16⟩ : ∃ W16, w15.alloc (.cells #[.slice C5 T p5, .slice K k capk] 25) = W16 := ⟨_, rfl⟩
  rw [hW16] at X16 ⊢
  obtain ⟨Z, hZ⟩ : ∃ Z, w15.heap.size = Z := ⟨_, rfl⟩
  rw [hZ] at X16 ⊢
  clear hW16 hZ X15 I5 hvs Tall I34
  go_loopw [25] (fun v25 wr => ∃ j : Nat, j ≤ 2 ∧ v25 = .int .i64 (j : Int) ∧ Below W16.heap.size W16 wr) (fun v25 _ => 2 - (intOf v25).toNat)
  case atStart => exact ⟨0, Nat.zero_le _, rfl, Below.refl _ _⟩
  case round =>
    obtain ⟨j, hj, rfl, hBB⟩ := hrel
    have X17 := X16.next hBB
    clear X16
    by_cases hlt : j < 2
    · obtain ⟨Cj, nj, pj, zs, hpick, hn40, hz0⟩ := Hdl.pick (w0 := w11) (w := w) (B := B) (A := A) (n := n) (cap := cap) (D := D) (m := m) (bs := bs) (K := K) (k := k) (ks := ks) (C1 := some ⟨ob1, o1, none⟩) (C2 := some ⟨ob2, o2, none⟩) (L1 := L1) (L2 := L2) (Q := Q) (lo := x) (hi := y) (C4 := C5) (Z := Z) (p4 := p5) (capk := capk) (W0 := W16) hlt (by omega) Hk.out HTrue.out
      have q0 : (0 : Int) ≤ (j : Int) := by omega
      have q1 : (j : Int) < 2 := by omega
      have Hpick := Lib.hid hpick
      have Hn40 := Lib.hid (show nj ≤ 1000 by omega)
      have Tall := Lib.hid (show ∀ W, Hdl w11 w B T A n cap rs D m bs K k ks (some ⟨ob1, o1, none⟩) (some ⟨ob2, o2, none⟩) L1 L2 Q x y C5 vs Z p5 capk W16 W → Hdl w11 w B T A n cap rs D m bs K k ks (some ⟨ob1, o1, none⟩) (some ⟨ob2, o2, none⟩) L1 L2 Q x y C5 vs Z p5 capk W16 W ∧ W.cell? ⟨B, 0, none⟩ = some (.int .i64 T) ∧ W.cell? ⟨B, 1, none⟩ = some (.slice A n cap) ∧ W.cell? ⟨Z, j, none⟩ = some (.slice Cj nj pj) from
        fun W hW => ⟨hW, hW.hz.hu.hv.hw.bx.c0, hW.hz.hu.hv.hw.bx.c1, (Hpick.out W hW).2⟩)
      obtain ⟨E, hE⟩ : ∃ E, checkSpeeds T rs zs = E := ⟨_, rfl⟩
      have HE := Lib.hid hE
      rw [hE] at hz0
      have Hz0 := Lib.hid hz0
      clear hpick hn40 hE hz0 hBB hj
      have c0 := (Tall.out _ X17).2.1
      have c1 := (Tall.out _ X17).2.2.1
      have cz := (Tall.out _ X17).2.2.2
      go_wp2_with fail
      (go_region_held3 (fun w' => Hdl w11 w B T A n cap rs D m bs K k ks (some ⟨ob1, o1, none⟩) (some ⟨ob2, o2, none⟩) L1 L2 Q x y C5 vs Z p5 capk W16 w' ∧ w'.cell? ⟨B, 0, none⟩ = some (.int .i64 T) ∧ w'.cell? ⟨B, 1, none⟩ = some (.slice A n cap) ∧ w'.cell? ⟨Z, j, none⟩ = some (.slice Cj nj pj))
        (first | (go_split_ands; exact Tall.out _ (by assumption)) | (go_split_ands; exact Tall.out _ (Hdl.next (by assumption) (by assumption))) | (go_split_ands; exact Tall.out _ (Hdl.next (below_drew_ _) (by assumption))))
        (first
          | (go_at_call 21; go_split_ands; refine (checkSpeeds21 A Cj n cap nj pj T rs zs _ ?_ ?_ Hn7.out Hn40.out).mono ?_; (exact Bx.rules (Hw.bx (Hv.hw (Hu.hv (Hz.hu (Hdl.hz (by assumption))))))); (exact (Hpick.out _ (by assumption)).1); rintro e w18 ⟨rfl, hb18⟩; rw [HE.out])))
      go_wp2_with fail
      have X18 : Hdl w11 w B T A n cap rs D m bs K k ks (some ⟨ob1, o1, none⟩) (some ⟨ob2, o2, none⟩) L1 L2 Q x y C5 vs Z p5 capk W16 w18 := (And.left (b := w18.cell? ⟨B, 0, none⟩ = some (.int .i64 T) ∧ w18.cell? ⟨B, 1, none⟩ = some (.slice A n cap) ∧ w18.cell? ⟨Z, j, none⟩ = some (.slice Cj nj pj)) (by assumption))
      clear X17
      obtain ⟨c0, c1, cz⟩ := (Tall.out _ X18).2
      by_cases hE : E = 0
      · obtain ⟨hzl, hzi⟩ := (Hpick.out _ X18).1
        have hlen := HIl.out zs (by rw [HE.out, hE])
        have hin := HIn.out zs (by rw [HE.out, hE])
        obtain ⟨ob3, o3, rfl, _⟩ := hzi (by omega)
        have Hcv := Lib.hid (show ∀ W, Hdl w11 w B T A n cap rs D m bs K k ks (some ⟨ob1, o1, none⟩) (some ⟨ob2, o2, none⟩) L1 L2 Q x y C5 vs Z p5 capk W16 W → W.cell? ⟨ob3, o3 + a, none⟩ = some (.int .i64 (nth zs a)) from fun W hW => ints_cell (Hpick.out W hW).1 (by omega))
        have q2 : (a : Int) < (nj : Int) := by omega
        obtain ⟨v9, hv9⟩ : ∃ v9, nth zs a = v9 := ⟨_, rfl⟩
        rw [hv9] at hin Hcv
        have dv1 : decide (v9 < x) = false := decide_eq_false (by omega)
        have dv2 : decide (y < v9) = false := decide_eq_false (by omega)
        clear hzl hzi hlen hin hv9
        subst hE
        by_cases hj0 : j = 0
        · have dj : ((j : Int) == 0) = true := by rw [hj0]; rfl
          clear hj0
          (go_region_held3 (fun w' => Hdl w11 w B T A n cap rs D m bs K k ks (some ⟨ob1, o1, none⟩) (some ⟨ob2, o2, none⟩) L1 L2 Q x y C5 vs Z p5 capk W16 w' ∧ w'.cell? ⟨B, 0, none⟩ = some (.int .i64 T) ∧ w'.cell? ⟨B, 1, none⟩ = some (.slice A n cap) ∧ w'.cell? ⟨Z, j, none⟩ = some (.slice (some ⟨ob3, o3, none⟩) nj pj))
        (first | (go_split_ands; exact Tall.out _ (by assumption)) | (go_split_ands; exact Tall.out _ (Hdl.next (by assumption) (by assumption))) | (go_split_ands; exact Tall.out _ (Hdl.next (below_drew_ _) (by assumption))))
        (first
          | (go_at_call 22; go_split_ands; refine (checkSpeeds22 A (some ⟨ob3, o3, none⟩) n cap nj pj T rs zs _ ?_ ?_ Hn7.out Hn40.out).mono ?_; (exact Bx.rules (Hw.bx (Hv.hw (Hu.hv (Hz.hu (Hdl.hz (by assumption))))))); (exact (Hpick.out _ (by assumption)).1); rintro e w19 ⟨rfl, hb19⟩; rw [HE.out])))
          have X19 : Hdl w11 w B T A n cap rs D m bs K k ks (some ⟨ob1, o1, none⟩) (some ⟨ob2, o2, none⟩) L1 L2 Q x y C5 vs Z p5 capk W16 w19 := (And.left (b := w19.cell? ⟨B, 0, none⟩ = some (.int .i64 T) ∧ w19.cell? ⟨B, 1, none⟩ = some (.slice A n cap) ∧ w19.cell? ⟨Z, j, none⟩ = some (.slice (some ⟨ob3, o3, none⟩) nj pj)) (by assumption))
          go_wp2_with fail
          obtain ⟨c0, c1, cz⟩ := (Tall.out _ X19).2
          have cx := X19.hz.hu.rb.c0
          have cy := X19.hz.hu.rb.c1
          have cv := Hcv.out _ X19
          go_quiet (fail)
          go_wp2_with fail
          go_roundw
          case rel => exact ⟨j + 1, by omega, by go_num, (X19.next (drew_below w19 nq w19.heap.size)).b0⟩
          case measure => simp [intOf]; omega
        · have dj : ((j : Int) == 0) = false := by rw [beq_eq_false_iff_ne]; omega
          clear hj0
          rw [hel202_fold, hel203_fold]
          (go_region_held3 (fun w' => Hdl w11 w B T A n cap rs D m bs K k ks (some ⟨ob1, o1, none⟩) (some ⟨ob2, o2, none⟩) L1 L2 Q x y C5 vs Z p5 capk W16 w' ∧ w'.cell? ⟨B, 0, none⟩ = some (.int .i64 T) ∧ w'.cell? ⟨B, 1, none⟩ = some (.slice A n cap) ∧ w'.cell? ⟨Z, j, none⟩ = some (.slice (some ⟨ob3, o3, none⟩) nj pj))
        (first | (go_split_ands; exact Tall.out _ (by assumption)) | (go_split_ands; exact Tall.out _ (Hdl.next (by assumption) (by assumption))) | (go_split_ands; exact Tall.out _ (Hdl.next (below_drew_ _) (by assumption))))
        (first
          | (go_at_call 22; go_split_ands; refine (checkSpeeds22 A (some ⟨ob3, o3, none⟩) n cap nj pj T rs zs _ ?_ ?_ Hn7.out Hn40.out).mono ?_; (exact Bx.rules (Hw.bx (Hv.hw (Hu.hv (Hz.hu (Hdl.hz (by assumption))))))); (exact (Hpick.out _ (by assumption)).1); rintro e w19 ⟨rfl, hb19⟩; rw [HE.out])))
          have X19 : Hdl w11 w B T A n cap rs D m bs K k ks (some ⟨ob1, o1, none⟩) (some ⟨ob2, o2, none⟩) L1 L2 Q x y C5 vs Z p5 capk W16 w19 := (And.left (b := w19.cell? ⟨B, 0, none⟩ = some (.int .i64 T) ∧ w19.cell? ⟨B, 1, none⟩ = some (.slice A n cap) ∧ w19.cell? ⟨Z, j, none⟩ = some (.slice (some ⟨ob3, o3, none⟩) nj pj)) (by assumption))
          go_wp2_with fail
          obtain ⟨c0, c1, cz⟩ := (Tall.out _ X19).2
          have cx := X19.hz.hu.rb.c0
          have cy := X19.hz.hu.rb.c1
          have cv := Hcv.out _ X19
          go_quiet (fail)
          go_wp2_with fail
          go_roundw
          case rel => exact ⟨j + 1, by omega, by go_num, (X19.next (drew_below w19 nq w19.heap.size)).b0⟩
          case measure => simp [intOf]; omega
      · have hj0 : ¬ j = 0 := fun h => hE (Hz0.out h)
        have dE : (E == 0) = false := by rw [beq_eq_false_iff_ne]; exact hE
        have dj : ((j : Int) == 0) = false := by rw [beq_eq_false_iff_ne]; omega
        clear hj0 hE
        rw [hel202_fold, hel203_fold]
        (go_region_held3 (fun w' => Hdl w11 w B T A n cap rs D m bs K k ks (some ⟨ob1, o1, none⟩) (some ⟨ob2, o2, none⟩) L1 L2 Q x y C5 vs Z p5 capk W16 w' ∧ w'.cell? ⟨B, 0, none⟩ = some (.int .i64 T) ∧ w'.cell? ⟨B, 1, none⟩ = some (.slice A n cap) ∧ w'.cell? ⟨Z, j, none⟩ = some (.slice Cj nj pj))
        (first | (go_split_ands; exact Tall.out _ (by assumption)) | (go_split_ands; exact Tall.out _ (Hdl.next (by assumption) (by assumption))) | (go_split_ands; exact Tall.out _ (Hdl.next (below_drew_ _) (by assumption))))
        (first
          | (go_at_call 22; go_split_ands; refine (checkSpeeds22 A Cj n cap nj pj T rs zs _ ?_ ?_ Hn7.out Hn40.out).mono ?_; (exact Bx.rules (Hw.bx (Hv.hw (Hu.hv (Hz.hu (Hdl.hz (by assumption))))))); (exact (Hpick.out _ (by assumption)).1); rintro e w19 ⟨rfl, hb19⟩; rw [HE.out])))
        have X19 : Hdl w11 w B T A n cap rs D m bs K k ks (some ⟨ob1, o1, none⟩) (some ⟨ob2, o2, none⟩) L1 L2 Q x y C5 vs Z p5 capk W16 w19 := (And.left (b := w19.cell? ⟨B, 0, none⟩ = some (.int .i64 T) ∧ w19.cell? ⟨B, 1, none⟩ = some (.slice A n cap) ∧ w19.cell? ⟨Z, j, none⟩ = some (.slice Cj nj pj)) (by assumption))
        go_wp2_with fail
        obtain ⟨c0, c1, cz⟩ := (Tall.out _ X19).2
        have cx := X19.hz.hu.rb.c0
        have cy := X19.hz.hu.rb.c1
        go_quiet (fail)
        go_wp2_with fail
        go_roundw
        case rel => exact ⟨j + 1, by omega, by go_num, (X19.next (drew_below w19 nq w19.heap.size)).b0⟩
        case measure => simp [intOf]; omega
    · obtain rfl : j = 2 := by omega
      go_wp2_with fail
      refine (HW.out _).mono ?_
      rintro e w20 ⟨rfl, hb⟩
      have X20 := X17.next hb
      go_wp2_with fail
      go_ret
      exact ⟨rfl, X20.hz.hu.hv.hw.bx.below⟩

set_option maxRecDepth 100000 in
set_option maxHeartbeats 4000000 in
theorem held7_not (HW : Hid WorksOk) (T u : Int) (A D K : Option Addr) (n cap m capm k capk : Nat) (rs : List R) (w : World) (h : Rules w A n rs) (hn : n ≤ maxLen) (hm : m ≤ maxLen) (hkk : k ≤ maxLen)
    (hno : fineB T n rs = false ∨ 40 < m ∨ 40 < k) :
    Calls Try.prog 7 #[.agg #[.int .i64 T, .slice A n cap], .slice D m capm, .slice K k capk, .int .u8 u] w fun e w' => e = .returned (.bool true) ∧ Below w.heap.size w w' := by
  have X := Bx.new (T := T) (cap := cap) h
  have Hn := Lib.hid hn
  clear h hn
  unfold maxLen at hm hkk
  have c0 := X.c0
  have c1 := X.c1
  go_enter Try.func7, Try.ntmps7
  go_wp2_with fail
  refine (fine42 A n cap T rs _ X.rules Hn.out).mono ?_
  rintro e w1 ⟨rfl, hb⟩
  have X1 := X.next hb
  clear X hb c0 c1
  cases hf : fineB T n rs with
  | false =>
    clear hno
    go_wp2_with fail
    refine (HW.out _).mono ?_
    rintro e w2 ⟨rfl, hb⟩
    have X2 := X1.next hb
    clear X1 hb
    go_wp2_with fail
    go_ret
    exact ⟨rfl, X2.below⟩
  | true =>
    by_cases h40 : 40 < m
    · have d40 : decide ((40 : Int) < (m : Int)) = true := decide_eq_true (by omega)
      clear hno
      go_wp2_with fail
      refine (HW.out _).mono ?_
      rintro e w2 ⟨rfl, hb⟩
      have X2 := X1.next hb
      clear X1 hb
      go_wp2_with fail
      go_ret
      exact ⟨rfl, X2.below⟩
    · have h60 : 40 < k := by
        rcases hno with h | h | h
        · rw [hf] at h; cases h
        · omega
        · exact h
      have d40 : decide ((40 : Int) < (m : Int)) = false := decide_eq_false (by omega)
      have d60 : decide ((40 : Int) < (k : Int)) = true := decide_eq_true (by omega)
      clear hno
      go_wp2_with fail
      refine (HW.out _).mono ?_
      rintro e w2 ⟨rfl, hb⟩
      have X2 := X1.next hb
      clear X1 hb
      go_wp2_with fail
      go_ret
      exact ⟨rfl, X2.below⟩

theorem speedHeld7 (HW : Hid WorksOk) (T u : Int) (A D K : Option Addr) (n cap m capm k capk : Nat) (rs : List R) (bs ks : List Int) (w : World) (h : Rules w A n rs) (hb : IntsU w D m bs) (hk : Ints w K k ks) (hn : n ≤ maxLen) (hm : m ≤ maxLen) (hkk : k ≤ maxLen)
    (b0 : 0 ≤ u ∧ u ≤ 255) :
    Calls Try.prog 7 #[.agg #[.int .i64 T, .slice A n cap], .slice D m capm, .slice K k capk, .int .u8 u] w fun e w' => e = .returned (.bool true) ∧ Below w.heap.size w w' := by
  by_cases hno : fineB T n rs = false ∨ 40 < m ∨ 40 < k
  · exact held7_not HW T u A D K n cap m capm k capk rs w h hn hm hkk hno
  · have hf : fineB T n rs = true := by
      cases e : fineB T n rs with
      | true => rfl
      | false => exact absurd (.inl e) hno
    obtain ⟨h70, he, hc⟩ : n ≤ 70 ∧ chk T rs = 0 ∧ clashM T.toNat rs = false := of_decide_eq_true hf
    have hT := (chk_ok he).2.1
    obtain ⟨T, rfl⟩ := Int.eq_ofNat_of_zero_le (show 0 ≤ T by omega)
    rw [Int.toNat_natCast] at hc
    exact held7_fine HW T u A D K n cap m capm k capk rs bs ks w h hb hk hn h70 (by omega) (by omega) b0 hf he ((clash_some_iff he).1 hc)
end Go.Proofs.Ytiankphkemakeaa
