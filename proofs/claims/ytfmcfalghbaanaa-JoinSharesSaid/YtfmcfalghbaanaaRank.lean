/- Stage 2: the number of a join (rank54). -/
import Derived.Test.YtfmcfalghbaanaaTop
import Derived.Test.YtfmcfalghbaanaaJT2
import Derived.Test.YtfmcfalghbaanaaMk
import Derived.Test.YtfmcfalghbaanaaEql
namespace Go.Proofs.Ytfmcfalghbaanaa
set_option linter.unusedSimpArgs false
set_option linter.unusedVariables false
open Go.RowKit Go.Shelf
attribute [local go_sem] Oper.semAt_some
attribute [local go_sem ↓] exec_load78
attribute [local go_sem ↓] at_load78
attribute [local go_sem ↓] exec_eql28
attribute [local go_sem ↓] at_eql28

/-- Steps' cells stay where their block does. -/
theorem Sts.keep {W W' : World} {C : Option Addr} {n : Nat} {ss : List St} {Mut : Nat → Prop} (h : Sts W C n ss) (hK : Keeps Mut W W') (hm : ∀ k o, Mut k → C ≠ some ⟨k, o, none⟩) : Sts W' C n ss := by
  refine ⟨h.1, fun hn => ?_⟩
  obtain ⟨b, o, e, hc⟩ := h.2 hn
  have hb := lt_of_cell (hc 0 hn).1
  have hk : ∀ j, W'.cell? ⟨b, j, none⟩ = W.cell? ⟨b, j, none⟩ := keep_cells hK hb (fun hm2 => hm b o hm2 e)
  exact ⟨b, o, e, fun j hj => by simp only [hk]; exact hc j hj⟩
theorem sts_not_map {W : World} {C : Option Addr} {n M nn : Nat} {ss : List St} {T : Nat → Nat → Bool} {cs : List Nat} {n' : Nat} (h : Sts W C n ss) (hn : 0 < n) (hm : Memo W M nn T cs n') (o : Nat) : C ≠ some ⟨M, o, none⟩ := by
  intro e
  obtain ⟨b, o2, e2, hc⟩ := h.2 hn
  rw [e2] at e
  injection e with e
  injection e with e _
  subst e
  obtain ⟨c, t, f, h1⟩ := cell_block (hc 0 hn).1
  obtain ⟨es, clock, h2⟩ := hm.isMap
  rw [h1] at h2
  cases h2
theorem pcs_lt {W : World} {A : Option Addr} {n : Nat} {ps : List Pc} (h : Pcs W A n ps) (hn : 0 < n) : ∀ k, (∃ o, A = some ⟨k, o, none⟩) → k < W.heap.size := by
  rintro k ⟨o, e⟩
  obtain ⟨b, o2, e2, hc⟩ := h.2 hn
  have := lt_of_cell (hc 0 hn).1
  rw [e2] at e
  injection e with e
  injection e with e _
  omega
theorem sts_lt {W : World} {C : Option Addr} {n : Nat} {ss : List St} (h : Sts W C n ss) (hn : 0 < n) : ∀ k, (∃ o, C = some ⟨k, o, none⟩) → k < W.heap.size := by
  rintro k ⟨o, e⟩
  obtain ⟨b, o2, e2, hc⟩ := h.2 hn
  have := lt_of_cell (hc 0 hn).1
  rw [e2] at e
  injection e with e
  injection e with e _
  omega
/-- A state lies in a block. -/
def StaB (W : World) (B : Nat) (a : Sta) : Prop := ∃ (p : Nat) (t : Bool), W.heap[B]? = some (.cells (staV p t a.pcs) 91 (0, 0)) ∧ a.last = (if t then 2 * p + 1 else 2 * p)
theorem StaB.keep {Mut : Nat → Prop} {W W' : World} {B : Nat} {a : Sta} (h : StaB W B a) (hK : Keeps Mut W W') (hm : ¬ Mut B) : StaB W' B a := by
  obtain ⟨p, t, h1, h2⟩ := h
  exact ⟨p, t, (hK.block _ (lt_of_block h1) hm).trans h1, h2⟩
theorem StaB.lt {W : World} {B : Nat} {a : Sta} (h : StaB W B a) : B < W.heap.size := by
  obtain ⟨p, t, h1, h2⟩ := h
  exact lt_of_block h1
/-- How far a number of a join has come. -/
structure RkI (n nn M b5 b6 : Nat) (T : Nat → Nat → Bool) (cs : List Nat) (ls : List Nat) (W3 : World) (k : Nat) (W : World) : Prop where
  le : k ≤ n
  num : ∃ base a, W.heap[b5]? = some (.cells #[.int .i64 ((base : Nat) : Int)] 2 (0, 0)) ∧ base ≤ k * (16 * 4294967296) ∧ StaB W b6 a ∧ a = runS ⟨0, 0⟩ (ls.take k) ∧ AtJ T cs n (ls.take k) (n - k) a base
  memo : Memo W M (nn + k * (16 * 17 ^ 9)) T cs n
  keep : Keeps (fun j => j = b5 ∨ j = b6 ∨ j = M) W3 W
/-- How far it has come among the states behind one. -/
def RjI (b5 b6 M nn base k1 : Nat) (T : Nat → Nat → Bool) (cs : List Nat) (n : Nat) (a : Sta) (s : Nat) (W5 : World) (pre : List Sta) (W : World) : Prop :=
  W.heap[b5]? = some (.cells #[.int .i64 ((base + (pre.map (cntA T cs n)).sum : Nat) : Int)] 2 (0, 0)) ∧ StaB W b6 a ∧ (∀ x ∈ pre, x.last ≠ s) ∧ Memo W M (nn + pre.length * 17 ^ 9) T cs n ∧ Keeps (fun j => j = b5 ∨ j = b6 ∨ j = M) W5 W
/-- The state with the step has been found. -/
def RjX (b5 b6 M nn base k1 : Nat) (T : Nat → Nat → Bool) (cs : List Nat) (n : Nat) (a : Sta) (s : Nat) (W5 : World) (c : Code) (pre : List Sta) (W : World) : Prop :=
  c = .exit 2 ∧ ∃ pre' b, pre = pre' ++ [b] ∧ b.last = s ∧ W.heap[b5]? = some (.cells #[.int .i64 ((base + (pre'.map (cntA T cs n)).sum : Nat) : Int)] 2 (0, 0)) ∧ StaB W b6 b ∧ Memo W M (nn + pre'.length * 17 ^ 9) T cs n ∧ Keeps (fun j => j = b5 ∨ j = b6 ∨ j = M) W5 W
theorem StaB.abides {B B0 : Nat} {a : Sta} (h : B < B0) : Abides B0 (fun W => StaB W B a) := fun W W' hx hK => hx.keep hK (by omega)
theorem RjI.abides {b5 b6 M nn base k1 B0 n : Nat} {T : Nat → Nat → Bool} {cs : List Nat} {a : Sta} {s : Nat} {W5 : World} {pre : List Sta} (h1 : b5 < B0) (h2 : b6 < B0) (h3 : M < B0) (h4 : W5.heap.size ≤ B0) : Abides B0 (RjI b5 b6 M nn base k1 T cs n a s W5 pre) := fun A B h hK =>
  ⟨(hK.block _ (lt_of_block h.1) (by omega)).trans h.1, h.2.1.keep hK (by omega), h.2.2.1, h.2.2.2.1.keep hK (by omega), keeps_abides h4 _ _ h.2.2.2.2 hK⟩
theorem RjX.abides {b5 b6 M nn base k1 B0 n : Nat} {T : Nat → Nat → Bool} {cs : List Nat} {a : Sta} {s : Nat} {W5 : World} {c : Code} {pre : List Sta} (h1 : b5 < B0) (h2 : b6 < B0) (h3 : M < B0) (h4 : W5.heap.size ≤ B0) : Abides B0 (RjX b5 b6 M nn base k1 T cs n a s W5 c pre) := fun A B h hK => by
  obtain ⟨hc, pre', b, e1, e2, e3, e4, e5, e6⟩ := h
  exact ⟨hc, pre', b, e1, e2, (hK.block _ (lt_of_block e3) (by omega)).trans e3, e4.keep hK (by omega), e5.keep hK (by omega), keeps_abides h4 _ _ e6 hK⟩
theorem set3 {W : World} {k p6 q6 p q : Nat} {t6 t : Bool} (h : W.heap[k]? = some (.cells (staV p6 t6 q6) 91 (0, 0))) : (((W.setCell ⟨k, 0, none⟩ (.int .i64 (p : Int))).setCell ⟨k, 1, none⟩ (.bool t)).setCell ⟨k, 2, none⟩ (.int .u64 (q : Int))).heap[k]? = some (.cells (staV p t q) 91 (0, 0)) :=
  set_same 2 _ (set_same 1 _ (set_same 0 _ h))
theorem keeps_set3 (W : World) (k p q : Nat) (t : Bool) : Keeps (fun j => j = k) W (((W.setCell ⟨k, 0, none⟩ (.int .i64 (p : Int))).setCell ⟨k, 1, none⟩ (.bool t)).setCell ⟨k, 2, none⟩ (.int .u64 (q : Int))) :=
  ((keeps_setCell _ _ _ _).trans (keeps_setCell _ _ _ _)).trans (keeps_setCell _ _ _ _)
theorem bud_step (mm j : Nat) {x T9 : Nat} (h : x ≤ T9) : mm + j * T9 + x ≤ mm + (j + 1) * T9 := by rw [Nat.add_mul]; omega

set_option maxRecDepth 100000 in
set_option maxHeartbeats 4000000 in
theorem rank54 (X : Array Value) (A : Option Addr) (n cap : Nat) (off lo hi : Int) (T : Nat → Nat → Bool) (M : Nat) (ps : List Pc) (hX : Brd X A n cap off lo hi T M) (hn1 : 1 ≤ n) (hn : n ≤ 8) (C : Option Addr) (cp : Nat) (ls : List Nat) (nn : Nat) (w : World)
    (hp : Pcs w A n ps) (hm : Memo w M nn T (codesL ps) n) (hnn : nn + 128 * 17 ^ 9 ≤ 1000000000000000000) (hs : Sts w C n (ls.map stC)) (hlen : ls.length = n) (hw : IsWay T (codesL ps) ⟨0, 0⟩ ls) :
    Calls Try.prog 54 #[.agg X, .slice C n cp] w fun e w' => ∃ v : Nat, e = .returned (.int .i64 (v : Int)) ∧ (joins T (codesL ps) n)[v]? = some ls ∧ Memo w' M (nn + 128 * 17 ^ 9) T (codesL ps) n ∧ Keeps (fun j => j = M) w w' := by
  have hMw := hm.lt
  have hsz := hX.size
  have e3 : (((w.alloc (.cells X 78)).alloc (.cells #[.int .i64 0] 2)).alloc (.cells #[.int .i64 0, .bool false, .int .u64 0] 91)).heap[w.heap.size]? = some (.cells X 78 (0, 0)) := hal_old (hal_old (heap_alloc_new_ _ _))
  have e5 : (((w.alloc (.cells X 78)).alloc (.cells #[.int .i64 0] 2)).alloc (.cells #[.int .i64 0, .bool false, .int .u64 0] 91)).heap[w.heap.size + 1]? = some (.cells #[.int .i64 0] 2 (0, 0)) := hal_old (hal_new (by simp))
  have e6 : (((w.alloc (.cells X 78)).alloc (.cells #[.int .i64 0] 2)).alloc (.cells #[.int .i64 0, .bool false, .int .u64 0] 91)).heap[w.heap.size + 1 + 1]? = some (.cells (staV 0 false 0) 91 (0, 0)) := hal_new (by simp)
  have hk3 : Keeps (fun _ => False) w (((w.alloc (.cells X 78)).alloc (.cells #[.int .i64 0] 2)).alloc (.cells #[.int .i64 0, .bool false, .int .u64 0] 91)) := ((keep_alloc _ _ _).trans (keep_alloc _ _ _)).trans (keep_alloc _ _ _)
  have hs3 := eq_le (show (((w.alloc (.cells X 78)).alloc (.cells #[.int .i64 0] 2)).alloc (.cells #[.int .i64 0, .bool false, .int .u64 0] 91)).heap.size = w.heap.size + 3 by simp)
  have hwlen : ∀ j, j < n → ∃ s, ls[j]? = some s ∧ s ∈ codesL ps ∧ s < 16 := fun j hj => by
    obtain ⟨h1, h2⟩ := (way_iff _ _ _ _).1 hw
    exact ⟨ls[j], List.getElem?_eq_getElem (by omega), h1 _ (List.getElem_mem _), by have := codes_ok ps _ (h1 _ (List.getElem_mem (by omega : j < ls.length))); have := hp.1; omega⟩
  have Hp := Lib.hid hp
  have Hm := Lib.hid hm
  have Hnn := Lib.hid hnn
  have Hs := Lib.hid hs
  have Hw := Lib.hid hw
  have Hlen := Lib.hid hlen
  have HX := Lib.hid hX
  have E3 := Lib.hid e3
  have E5 := Lib.hid e5
  have E6 := Lib.hid e6
  have K3 := Lib.hid hk3
  have Hwl := Lib.hid hwlen
  clear hp hm hnn hs hw hlen e3 e5 e6 hk3 hX hwlen
  refine (callsIn_wide (n := 5)).1 ?_
  refine callsIn_of_wp_marks Try.func54 rfl trivial ?_ rfl
  simp only [Try.ntmps54, List.size_toArray, List.length_cons, List.length_nil, Nat.reduceAdd, Nat.reduceSub, Array.replicate_succ, Array.replicate_zero, List.push_toArray, List.append_toArray, List.nil_append, List.cons_append]
  gi_wp2_with fail
  obtain ⟨W3, hW3⟩ : ∃ W3, ((w.alloc (.cells X 78)).alloc (.cells #[.int .i64 0] 2)).alloc (.cells #[.int .i64 0, .bool false, .int .u64 0] 91) = W3 := ⟨_, rfl⟩
  rw [hW3] at E3 E5 E6 K3 hs3 ⊢
  clear hW3
  rename_i Q' K' hK'
  refine wpIn_loop (fun a W => ∃ (k : Nat) (v8 v14 v15 v16 v17 v18 v19 v31 : Value) (ds : List Deferred), a = { tmps := #[.agg X, .slice C n cp, .pointer (some ⟨w.heap.size, 0, none⟩), undef, .int .i64 0, .pointer (some ⟨w.heap.size + 1, 0, none⟩), .pointer (some ⟨w.heap.size + 1 + 1, 0, none⟩), undef, v8, undef, .agg #[.int .i64 0, .bool false, .int .u64 0], .slice C n cp, .int .i64 (n : Int), .int .i64 (k : Int), v14, v15, v16, v17, v18, v19, undef, undef, undef, undef, undef, undef, undef, undef, undef, undef, undef, v31, undef], defers := ds } ∧ RkI n nn M (w.heap.size + 1) (w.heap.size + 1 + 1) T (codesL ps) ls W3 k W ∧ Marks W3.heap.size W ds)
    (fun a _ => n - (intOf (a.tmps.getD 13 undef)).toNat) ?start ?round
  case start =>
    refine ⟨0, _, _, _, _, _, _, _, _, [], rfl, ⟨Nat.zero_le _, ⟨0, ⟨0, 0⟩, by simpa using E5.out, by omega, ⟨0, false, E6.out, rfl⟩, rfl, by rw [Nat.sub_zero]; exact AtJ.start _ _ _⟩, ?_, Keeps.refl _ _⟩, trivial⟩
    rw [Nat.zero_mul, Nat.add_zero]
    exact Hm.out.keep K3.out (fun e => e)
  case round =>
    rintro a W ⟨k, v8, v14, v15, v16, v17, v18, v19, v31, ds, rfl, hI, hD⟩
    obtain ⟨hkn, ⟨base, a, hb5, hbase, hb6, ha, hat⟩, hmemo, hkeep⟩ := hI
    have HD := Lib.hid hD
    have Hb5 := Lib.hid hb5
    have Hb6 := Lib.hid hb6
    have Hbase := Lib.hid hbase
    have Ha := Lib.hid ha
    have Hat := Lib.hid hat
    have Hmemo := Lib.hid hmemo
    have Hkeep := Lib.hid hkeep
    clear hD hb5 hb6 hbase ha hat hmemo hkeep
    by_cases hk : k < n
    · have dk : decide ((k : Int) < (n : Int)) = true := decide_eq_true (by omega)
      obtain ⟨s, hs1, hs2, hs3x⟩ := Hwl.out k hk
      obtain ⟨sp, st, _, hst, hsx⟩ := stE_form s
      have Hsx := Lib.hid hsx
      clear hsx
      obtain ⟨bC, oC, rfl, hcC⟩ := Hs.out.2 (by omega)
      have hCk : ∀ j, (j = w.heap.size + 1 ∨ j = w.heap.size + 1 + 1 ∨ j = M) → ∀ o, (some ⟨bC, oC, none⟩ : Option Addr) ≠ some ⟨j, o, none⟩ := by
        rintro j hj o e
        have h1 := sts_lt Hs.out (by omega) bC ⟨oC, rfl⟩
        have h2 := sts_not_map Hs.out (by omega) Hm.out oC
        injection e with e
        injection e with e _
        rcases hj with rfl | rfl | rfl
        · omega
        · omega
        · exact h2 (by rw [e])
      have hSW := (Hs.out.keep K3.out (fun _ _ e => e.elim)).keep Hkeep.out (fun j o hj => hCk j hj o)
      have hsA : sAt (ls.map stC) k = ⟨(sp : Int), st⟩ := by
        have hkl : k < ls.length := by have := Hlen.out; omega
        have h1 : ls[k] = s := by have := List.getElem?_eq_getElem hkl; rw [this] at hs1; exact Option.some.inj hs1
        rw [sAt_map hkl, h1, hst]
      obtain ⟨b', o', e', hc'⟩ := hSW.2 (by omega)
      cases e'
      obtain ⟨g0, g1⟩ := hc' k hk
      rw [hsA] at g0 g1
      simp only at g0 g1
      clear hc' hcC hsA
      clear hSW
      obtain ⟨q, q', hae⟩ : ∃ q q', a = ⟨q', q⟩ := ⟨_, _, rfl⟩
      subst hae
      obtain ⟨p, t, hb6, hx⟩ := Hb6.out
      have hwl : W3.heap.size ≤ W.heap.size := Hkeep.out.size
      have hb3 := (Hkeep.out.block _ (by omega) (by omega)).trans E3.out
      have c3 : runO Try.prog (ld 78) (.pointer (some ⟨w.heap.size, 0, none⟩)) (W.alloc (.cells #[.int .i64 (sp : Int), .bool st] 28)) = .ok (.value (.agg X)) _ := run_ld78 (hal_old hb3) hsz
      have c60 : (W.alloc (.cells #[.int .i64 (sp : Int), .bool st] 28)).cell? ⟨w.heap.size + 1 + 1, 0, none⟩ = some (.int .i64 (p : Int)) := by rw [cell_row (hal_old hb6)]; rfl
      have c61 : (W.alloc (.cells #[.int .i64 (sp : Int), .bool st] 28)).cell? ⟨w.heap.size + 1 + 1, 1, none⟩ = some (.bool t) := by rw [cell_row (hal_old hb6)]; rfl
      have c62 : (W.alloc (.cells #[.int .i64 (sp : Int), .bool st] 28)).cell? ⟨w.heap.size + 1 + 1, 2, none⟩ = some (.int .u64 (q : Int)) := by rw [cell_row (hal_old hb6)]; rfl
      gi_wp2_with fail
      clear c3 c60 c61 c62
      have EV3 := Lib.hid (hal_old (o := .cells #[.int .i64 (sp : Int), .bool st] 28) hb3)
      have EV5 := Lib.hid (hal_old (o := .cells #[.int .i64 (sp : Int), .bool st] 28) Hb5.out)
      have EV6 := Lib.hid (hal_old (o := .cells #[.int .i64 (sp : Int), .bool st] 28) hb6)
      have EVs := Lib.hid (heap_alloc_new_ W (.cells #[.int .i64 (sp : Int), .bool st] 28))
      have HkV := Lib.hid (keep_alloc W (Mut := fun _ => False) (.cells #[.int .i64 (sp : Int), .bool st] 28))
      have hsV := eq_le (World.size_alloc W (.cells #[.int .i64 (sp : Int), .bool st] 28))
      obtain ⟨V, hV⟩ : ∃ V, W.alloc (.cells #[.int .i64 (sp : Int), .bool st] 28) = V := ⟨_, rfl⟩
      rw [hV] at EV3 EV5 EV6 EVs HkV hsV ⊢
      clear hV hb3 hb6
      refine ⟨trivial, (callsIn_wide.2 (behind70 _ _ _)).mono ?_⟩
      rintro e w5 ⟨rfl, rfl⟩
      gi_wp2_with fail
      have hk5 : Keeps (fun _ => False) V ((V.alloc (.cells X 78)).alloc (.cells #[.int .i64 (p : Int), .bool t, .int .u64 (q : Int)] 91)) := (keep_alloc _ _ _).trans (keep_alloc _ _ _)
      have e8 : ((V.alloc (.cells X 78)).alloc (.cells #[.int .i64 (p : Int), .bool t, .int .u64 (q : Int)] 91)).heap[V.heap.size]? = some (.cells X 78 (0, 0)) := hal_old (heap_alloc_new_ _ _)
      have e9 : ((V.alloc (.cells X 78)).alloc (.cells #[.int .i64 (p : Int), .bool t, .int .u64 (q : Int)] 91)).heap[V.heap.size + 1]? = some (.cells (staV p t q) 91 (0, 0)) := hal_new (by simp)
      have hs5 := eq_le (show ((V.alloc (.cells X 78)).alloc (.cells #[.int .i64 (p : Int), .bool t, .int .u64 (q : Int)] 91)).heap.size = V.heap.size + 2 by simp)
      obtain ⟨W5, hW5⟩ : ∃ W5, (V.alloc (.cells X 78)).alloc (.cells #[.int .i64 (p : Int), .bool t, .int .u64 (q : Int)] 91) = W5 := ⟨_, rfl⟩
      rw [hW5] at hk5 e8 e9 hs5 ⊢
      clear hW5
      have F3 := Lib.hid ((hk5.block _ (lt_of_block EV3.out) (fun e => e)).trans EV3.out)
      have F5 := Lib.hid ((hk5.block _ (lt_of_block EV5.out) (fun e => e)).trans EV5.out)
      have F6 := Lib.hid ((hk5.block _ (lt_of_block EV6.out) (fun e => e)).trans EV6.out)
      have Fs := Lib.hid ((hk5.block _ (lt_of_block EVs.out) (fun e => e)).trans EVs.out)
      have HKW := Lib.hid (show Keeps (fun j => j = w.heap.size + 1 ∨ j = w.heap.size + 1 + 1 ∨ j = M) W3 W5 from Hkeep.out.trans (HkV.out.none.trans hk5.none))
      have HkW5 := Lib.hid (show Keeps (fun _ => False) W W5 from HkV.out.trans hk5)
      have hAk : ∀ j, (j = w.heap.size + 1 ∨ j = w.heap.size + 1 + 1 ∨ j = M) → ∀ o, A ≠ some ⟨j, o, none⟩ := by
        rintro j hj o e
        have h1 := pcs_lt Hp.out (by omega) j ⟨o, e⟩
        have h2 := pcs_not_map Hp.out (by omega) Hm.out o
        rcases hj with rfl | rfl | rfl
        · omega
        · omega
        · exact h2 e
      have hpc5 := (Hp.out.keep K3.out (fun _ _ e => e.elim)).keep HKW.out (fun j o hj => hAk j hj o)
      have hneed := pcs_lt Hp.out (by omega)
      have hla : left n (runS ⟨0, 0⟩ (ls.take k)) + k = n := by
        have h1 := (way_append T (codesL ps) (ls.take k) (ls.drop k) ⟨0, 0⟩).1 (by rw [List.take_append_drop]; exact Hw.out)
        have hco := codes_ok ps
        rw [Hp.out.1] at hco
        have h2 := run_left hco _ _ h1.1
        rw [left_start, List.length_take] at h2
        have := Hlen.out
        omega
      have hla2 := hla
      rw [← Ha.out] at hla2
      have hqx : q < 2 ^ n ∧ q' < 16 := by
        have h1 := (way_append T (codesL ps) (ls.take k) (ls.drop k) ⟨0, 0⟩).1 (by rw [List.take_append_drop]; exact Hw.out)
        have hco := codes_ok ps
        rw [Hp.out.1] at hco
        have h2 := run_lt hco _ ⟨0, 0⟩ (Nat.two_pow_pos n) h1.1
        rw [← Ha.out] at h2
        refine ⟨h2, ?_⟩
        rcases List.eq_nil_or_concat (ls.take k) with h3 | ⟨l0, y, h3⟩
        · have h4 := Ha.out
          rw [h3] at h4
          have := congrArg Sta.last h4
          simp [runS] at this
          omega
        · have h4 := Ha.out
          rw [h3, List.concat_eq_append] at h4
          have h5 := congrArg Sta.last h4
          simp [runS, goS] at h5
          have h6 : y ∈ ls.take k := by rw [h3]; simp
          obtain ⟨j, hj, hjy⟩ := List.getElem_of_mem h6
          rw [List.getElem_take] at hjy
          obtain ⟨s2, g1, g2, g3⟩ := Hwl.out j (by simp at hj; omega)
          have h7 := List.getElem?_eq_getElem (l := ls) (i := j) (by simp at hj; omega)
          rw [h7] at g1
          have := Option.some.inj g1
          omega
      obtain ⟨hq, hx16⟩ := hqx
      have hq256 : q < 256 := Nat.lt_of_lt_of_le hq (pow_lt_ ⟨n, by omega⟩)
      have hp8 : p < 8 := by cases t <;> simp at hx <;> omega
      have Hla := Lib.hid hla2
      have Hx := Lib.hid hx
      have Hq := Lib.hid hq
      have hlen := eq_le Hp.out.1
      have hcl : (codesL ps).length ≤ 16 := Nat.le_trans (codes_len_ ps ps.length) (by have := Hp.out.1; omega)
      have Hwl2 := Lib.hid hwl
      clear hla hla2 hx hq
      obtain ⟨mm, hmm⟩ : ∃ mm, nn + k * (16 * 17 ^ 9) = mm := ⟨_, rfl⟩
      have hmb : mm + 16 * 17 ^ 9 ≤ 1000000000000000000 := by
        have h1 := Hnn.out
        have h2 : (k + 1) * (16 * 17 ^ 9) ≤ 8 * (16 * 17 ^ 9) := Nat.mul_le_mul_right _ (by omega)
        rw [Nat.add_mul] at h2
        omega
      have Hmm := Lib.hid hmm
      have Hmb := Lib.hid hmb
      have HmW := Lib.hid (show Memo W M mm T (codesL ps) n by rw [← hmm]; exact Hmemo.out)
      clear hmm hmb
      refine wpIn_rangeL (gf := 77) (lb := #[.pointer (some ⟨V.heap.size + 1, 0, none⟩), .pointer (some ⟨V.heap.size, 0, none⟩)]) rfl (enters_of Try.func77 (by kernel_rfl) rfl) (behind_seq X A n cap off lo hi T M V.heap.size (V.heap.size + 1) p q q' t ps W5 e8 HX.out e9 hpc5 hn1 hn hq256 Hx.out hx16)
        (by rintro k (rfl | rfl | h); omega; omega; have := hneed k h; omega) (fun _ => rfl) (fun j => j = w.heap.size + 1 ∨ j = w.heap.size + 1 + 1 ∨ j = M) (by
          intro j hj
          have hj2 : j < V.heap.size := by rcases hj with e | e | e <;> omega
          refine ⟨by omega, ?_⟩
          rintro (h | h | ⟨o, h⟩)
          · omega
          · omega
          · exact hAk j hj o h)
        (RjI (w.heap.size + 1) (w.heap.size + 1 + 1) M mm base 0 T (codesL ps) n ⟨q', q⟩ s W5) (RjX (w.heap.size + 1) (w.heap.size + 1 + 1) M mm base 0 T (codesL ps) n ⟨q', q⟩ s W5) (fun pre => RjI.abides (by omega) (by omega) (by omega) (Nat.le_refl _)) (fun c pre => RjX.abides (by omega) (by omega) (by omega) (Nat.le_refl _)) ?start2 ?round2 ?done2 ?stop2
      case start2 =>
        exact ⟨by simpa using F5.out, ⟨p, t, F6.out, Hx.out⟩, by simp, by simpa using HmW.out.keep HkW5.out (fun e => e), Keeps.refl _ _⟩
      case done2 =>
        intro D2 W9 hD2 hDW hI9 hKd
        exfalso
        have h1 : goS ⟨q', q⟩ s ∈ nexts T (codesL ps) ⟨q', q⟩ := by
          refine next_mem hs2 ?_
          have h2 := (way_append T (codesL ps) (ls.take k) (ls.drop k) ⟨0, 0⟩).1 (by rw [List.take_append_drop]; exact Hw.out)
          have hkl : k < ls.length := by have := Hlen.out; omega
          rw [List.drop_eq_getElem_cons hkl] at h2
          have h3 : ls[k] = s := by have := List.getElem?_eq_getElem hkl; rw [this] at hs1; exact Option.some.inj hs1
          rw [h3, ← Ha.out] at h2
          exact h2.2.2.1
        exact hI9.2.2.1 _ h1 rfl
      case stop2 =>
        intro D2 c pre x post W9 hD2 hDW hxs hI9 hKd
        obtain ⟨rfl, pre', b, hpre, hbs, hb5, hb6, hmem, hkp⟩ := hI9
        obtain ⟨rfl, hbx⟩ := List.append_inj' hpre rfl
        obtain rfl : x = b := by simpa using hbx
        have HB5 := Lib.hid hb5
        have HB6 := Lib.hid hb6
        have HKP := Lib.hid hkp
        have HME := Lib.hid hmem
        have HKd := Lib.hid hKd
        have HXS := Lib.hid hxs
        have hD2x := eq_le (Nat.add_zero D2)
        clear hb5 hb6 hkp hmem hKd hxs hpre hbx
        have hw1 : IntKind.i64.wrap ((k : Int) + 1) = (k : Int) + 1 := IntWalk.i64_in _ (by omega)
        gi_wp2_with fail
        have hco := codes_ok ps
        rw [Hp.out.1] at hco
        have hxm : x ∈ nexts T (codesL ps) ⟨q', q⟩ := by rw [HXS.out]; simp
        have hx1 := (next_last hxm).1
        rw [hbs] at hx1
        have hkl : k < ls.length := by have := Hlen.out; omega
        have hsk : ls[k] = s := by have := List.getElem?_eq_getElem hkl; rw [this] at hs1; exact Option.some.inj hs1
        have htk : ls.take (k + 1) = ls.take k ++ [s] := by rw [List.take_succ_eq_append_getElem hkl, hsk]
        have hlk : left n ⟨q', q⟩ = (n - k - 1) + 1 := by have := Hla.out; omega
        have hat := Hat.out
        rw [show n - k = (n - k - 1) + 1 by omega] at hat
        have hat2 := AtJ.next hco hlk hat HXS.out
        rw [hbs, ← htk] at hat2
        have hsum := sum_le (pre.map (cntA T (codesL ps) n)) 4294967296 (fun y hy => by
          obtain ⟨z, _, rfl⟩ := List.mem_map.1 hy
          exact cntA_le hn hcl z)
        rw [List.length_map] at hsum
        have hpl : pre.length + 1 ≤ 16 := by
          have h1 := congrArg List.length HXS.out
          have h2 := nexts_len (T := T) (a := ⟨q', q⟩) hcl
          rw [List.length_append, List.length_cons] at h1
          omega
        have hsum2 : pre.length * 4294967296 ≤ 16 * 4294967296 := Nat.mul_le_mul_right _ (by omega)
        refine ⟨⟨k + 1, _, _, _, _, _, _, _, _, _, rfl, ⟨by omega, ⟨base + (pre.map (cntA T (codesL ps) n)).sum, x, HB5.out, ?_, HB6.out, ?_, ?_⟩, ?_, HKW.out.trans HKP.out⟩, ?_⟩, ?_⟩
        · have := Hbase.out
          rw [Nat.add_mul]
          omega
        · rw [htk, hx1, Ha.out]
          unfold runS
          rw [List.foldl_append]
          rfl
        · rw [show n - (k + 1) = n - k - 1 by omega]; exact hat2
        · refine HME.out.mono ?_
          rw [← Hmm.out, Nat.add_mul]
          have h3 : pre.length * 17 ^ 9 ≤ 16 * 17 ^ 9 := Nat.mul_le_mul_right _ (by omega)
          omega
        · have hK9 : Keeps (fun j => j = w.heap.size + 1 ∨ j = w.heap.size + 1 + 1 ∨ j = M) W W9 := HkW5.out.none.trans HKP.out
          have := HkW5.out.size
          exact Marks.push HD.out (HD.out.keep hK9 (by rintro k (e | e | e) <;> omega)) Hwl2.out (by omega) hDW HKd.out
        · show n - (intOf (.int .i64 ((k : Int) + 1))).toNat < n - (intOf (.int .i64 (k : Int))).toNat
          simp only [intOf]
          omega
      case round2 =>
        intro l pre b post W6 hxs hl1 hl2 hr hI m
        obtain ⟨p2, t2, hE, hbl⟩ := staE_form b
        rw [hE]
        have hbm : b ∈ nexts T (codesL ps) ⟨q', q⟩ := by rw [hxs]; simp
        obtain ⟨hb1, hb2, hb3⟩ := next_last hbm
        have hs16 := codes_ok ps _ hb2
        have hbq : b.pcs < 2 ^ n := by rw [hb1]; exact go_lt Hq.out (by omega)
        have hlb : left n b + 1 = left n ⟨q', q⟩ := by rw [hb1]; exact left_go (by omega) hb3
        have hp2 : p2 < 8 := by cases t2 <;> simp at hbl <;> omega
        have hb16 : b.last < 16 := by omega
        have hprelen : pre.length + 1 ≤ 16 := by
          have h1 := congrArg List.length hxs
          have h2 := nexts_len (T := T) (a := ⟨q', q⟩) hcl
          rw [List.length_append, List.length_cons] at h1
          omega
        have Hby := Lib.hid (heap_alloc_new_ W6 (.cells #[.int .i64 (p2 : Int), .bool t2, .int .u64 (b.pcs : Int)] 91))
        have HXS := Lib.hid hxs
        have Hbl := Lib.hid hbl
        have Hlb := Lib.hid hlb
        have Hpl := Lib.hid hprelen
        have Hbq := Lib.hid hbq
        clear hE hxs hbm hb1 hb2 hb3 hbl hlb hprelen hbq hr
        gi_wp2_with fail
        refine ⟨keep_alloc _ _ _, ?_⟩
        intro W9 hB9 hI9
        have hb5 := hI9.1
        obtain ⟨c9, hc9⟩ : ∃ c9, base + (pre.map (cntA T (codesL ps) n)).sum = c9 := ⟨_, rfl⟩
        rw [hc9] at hb5
        have G5 := Lib.hid hb5
        have G6 := Lib.hid hI9.2.1
        have GN := Lib.hid hI9.2.2.1
        have GM := Lib.hid hI9.2.2.2.1
        have GK := Lib.hid hI9.2.2.2.2
        have G3 := Lib.hid ((hI9.2.2.2.2.block _ (lt_of_block F3.out) (by omega)).trans F3.out)
        have Gs := Lib.hid ((hI9.2.2.2.2.block _ (lt_of_block Fs.out) (by omega)).trans Fs.out)
        have G8 := Lib.hid ((hB9.keeps.block _ (by simp) (by omega)).trans Hby.out)
        have hs9 := hB9.keeps.size
        simp only [World.size_alloc] at hs9
        have Hc9 := Lib.hid hc9
        clear hI hI9 hB9 hc9 hb5
        have s0 : W9.cell? ⟨W.heap.size, 0, none⟩ = some (.int .i64 (sp : Int)) := by rw [cell_row Gs.out]; rfl
        have s1 : W9.cell? ⟨W.heap.size, 1, none⟩ = some (.bool st) := by rw [cell_row Gs.out]; rfl
        have y0 : W9.cell? ⟨W6.heap.size, 0, none⟩ = some (.int .i64 (p2 : Int)) := by rw [cell_row G8.out]; rfl
        have y1 : W9.cell? ⟨W6.heap.size, 1, none⟩ = some (.bool t2) := by rw [cell_row G8.out]; rfl
        have y2 : W9.cell? ⟨W6.heap.size, 2, none⟩ = some (.int .u64 (b.pcs : Int)) := by rw [cell_row G8.out]; rfl
        by_cases hbs : b.last = s
        · have hE : ∀ W', runE Try.prog 28 (.agg #[.int .i64 (p2 : Int), .bool t2]) (.agg #[.int .i64 (sp : Int), .bool st]) W' = .ok (.value (.bool true)) W' := fun W' => by rw [run_eqlC Hbl.out Hsx.out, decide_eq_true hbs]
          obtain ⟨p6, t6, g6, g6x⟩ := G6.out
          have z0 : W9.cell? ⟨w.heap.size + 1 + 1, 0, none⟩ = some (.int .i64 (p6 : Int)) := by rw [cell_row g6]; rfl
          have z1 : W9.cell? ⟨w.heap.size + 1 + 1, 1, none⟩ = some (.bool t6) := by rw [cell_row g6]; rfl
          have z2 : W9.cell? ⟨w.heap.size + 1 + 1, 2, none⟩ = some (.int .u64 (q : Int)) := by rw [cell_row g6]; rfl
          have f0 : W9.frozen? ⟨w.heap.size + 1 + 1, 0, none⟩ = false := frozen_row g6
          have f1 : W9.frozen? ⟨w.heap.size + 1 + 1, 1, none⟩ = false := frozen_row g6
          have f2 : W9.frozen? ⟨w.heap.size + 1 + 1, 2, none⟩ = false := frozen_row g6
          have Hg6 := Lib.hid g6
          have Hbs := Lib.hid hbs
          clear g6 g6x hbs
          gi_wp2_with fail
          have hK := keeps_set3 W9 (w.heap.size + 1 + 1) p2 b.pcs t2
          refine ⟨hK.mono (fun j _ e => .inr (.inl e)), rfl, pre, b, rfl, Hbs.out, ?_, ⟨p2, t2, set3 Hg6.out, Hbl.out⟩, GM.out.keep hK (by omega), GK.out.trans (hK.mono (fun j _ e => .inr (.inl e)))⟩
          rw [Hc9.out]
          exact (hK.block _ (lt_of_block G5.out) (by omega)).trans G5.out
        · have hE : ∀ W', runE Try.prog 28 (.agg #[.int .i64 (p2 : Int), .bool t2]) (.agg #[.int .i64 (sp : Int), .bool st]) W' = .ok (.value (.bool false)) W' := fun W' => by rw [run_eqlC Hbl.out Hsx.out, decide_eq_false hbs]
          have Hbs := Lib.hid hbs
          clear hbs
          have hc9b : c9 ≤ 8 * (16 * 4294967296) + 16 * 4294967296 := by
            rw [← Hc9.out]
            have h1 := sum_le (pre.map (cntA T (codesL ps) n)) 4294967296 (fun y hy => by
              obtain ⟨z, _, rfl⟩ := List.mem_map.1 hy
              exact cntA_le hn hcl z)
            rw [List.length_map] at h1
            have h2 := Hpl.out
            have h3 : pre.length * 4294967296 ≤ 16 * 4294967296 := Nat.mul_le_mul_right _ (by omega)
            have h4 := Hbase.out
            have h5 : k * (16 * 4294967296) ≤ 8 * (16 * 4294967296) := Nat.mul_le_mul_right _ (by omega)
            omega
          have hcb : cntA T (codesL ps) n b ≤ 4294967296 := cntA_le hn hcl b
          have GP := Lib.hid (hpc5.keep GK.out (fun j o hj => hAk j hj o))
          have HS := Lib.hid (show ∀ W', Keeps (fun j => j = M) W9 W' → (fun W' => Keeps (fun j => j = M) W9 W' ∧ W'.cell? ⟨w.heap.size + 1, 0, none⟩ = some (.int .i64 (c9 : Int)) ∧ runO Try.prog (ld 78) (.pointer (some ⟨w.heap.size, 0, none⟩)) W' = .ok (.value (.agg X)) W' ∧ W'.cell? ⟨W6.heap.size, 0, none⟩ = some (.int .i64 (p2 : Int)) ∧ W'.cell? ⟨W6.heap.size, 1, none⟩ = some (.bool t2) ∧ W'.cell? ⟨W6.heap.size, 2, none⟩ = some (.int .u64 (b.pcs : Int))) W' from fun W' hk => by
            have g5 := (hk.block _ (lt_of_block G5.out) (by omega)).trans G5.out
            have g8 := (hk.block _ (lt_of_block G8.out) (by omega)).trans G8.out
            have g3 := (hk.block _ (lt_of_block G3.out) (by omega)).trans G3.out
            exact ⟨hk, by rw [cell_row g5]; rfl, run_ld78 g3 hsz, by rw [cell_row g8]; rfl, by rw [cell_row g8]; rfl, by rw [cell_row g8]; rfl⟩)
          gi_wp2_with fail
          refine region_R (z := 5) (S := (fun W' => Keeps (fun j => j = M) W9 W' ∧ W'.cell? ⟨w.heap.size + 1, 0, none⟩ = some (.int .i64 (c9 : Int)) ∧ runO Try.prog (ld 78) (.pointer (some ⟨w.heap.size, 0, none⟩)) W' = .ok (.value (.agg X)) W' ∧ W'.cell? ⟨W6.heap.size, 0, none⟩ = some (.int .i64 (p2 : Int)) ∧ W'.cell? ⟨W6.heap.size, 1, none⟩ = some (.bool t2) ∧ W'.cell? ⟨W6.heap.size, 2, none⟩ = some (.int .u64 (b.pcs : Int)))) (by kernel_rfl) ?_
          have hS0 := HS.out W9.drew (Keeps.of_new (drew_b W9 1))
          refine anyR_take (i := 0) (v := .int .i64 (c9 : Int)) rfl (by decide) (by kernel_rfl) (by kernel_rfl) (by kernel_rfl) (by kernel_rfl) (fun _ _ _ h => h) (Or.inl ⟨by rfl, by intro W' hSw; (try dsimp only at hSw); go_simp⟩) hS0 ?_
          simp only [Act.put, List.setIfInBounds_toArray, List.set_cons_zero, List.set_cons_succ]
          refine anyR_take (i := 1) (oi := { dst := some 27, op := Op.load 78 (Operand.tmp 2), type := 78, pos := "state.go:93", after := #[], guard := none }) (v := .agg X) rfl (by decide) (by kernel_rfl) (by kernel_rfl) (by kernel_rfl) (by kernel_rfl) (fun _ _ _ h => h) (Or.inl ⟨by rfl, by intro W' hSw; (try dsimp only at hSw); go_simp⟩) hS0 ?_
          simp only [Act.put, List.setIfInBounds_toArray, List.set_cons_zero, List.set_cons_succ]
          refine anyR_take (i := 2) (v := .agg #[.int .i64 (p2 : Int), .bool t2, .int .u64 (b.pcs : Int)]) rfl (by decide) (by kernel_rfl) (by kernel_rfl) (by kernel_rfl) (by kernel_rfl) (fun _ _ _ h => h) (Or.inl ⟨by rfl, by intro W' hSw; (try dsimp only at hSw); go_simp⟩) hS0 ?_
          simp only [Act.put, List.setIfInBounds_toArray, List.set_cons_zero, List.set_cons_succ]
          refine anyR_one (i := 3) (by kernel_rfl) rfl (by rfl) ?_
          intro K hK
          have HKK := Lib.hid hK
          clear hK hS0
          go_simp
          have hlb8 : left n b ≤ 8 := Nat.le_trans (left_le n b) hn
          have h17 : 17 ^ (left n b + 1) ≤ 17 ^ 9 := Nat.pow_le_pow_right (by omega) (by omega)
          have hbud : mm + pre.length * 17 ^ 9 + 17 ^ (left n b + 1) ≤ 1000000000000000000 := by
            have h1 := Hmb.out
            have h2 : pre.length * 17 ^ 9 ≤ 15 * 17 ^ 9 := Nat.mul_le_mul_right _ (by have := Hpl.out; omega)
            omega
          refine ⟨trivial, wide_d, CallsIn.inRound l ((callsIn_wide.2 (count51 X A n cap off lo hi T M ps HX.out hn1 hn (left n b) p2 b.pcs b.last _ t2 _ (GP.out.below (drew_b W9 1) (Nat.le_refl _)) (GM.out.keep (Mut := fun _ => False) (Keeps.of_new (drew_b W9 1)) (fun e => e)) hbud Hbq.out hb16 Hbl.out rfl)).mono ?_)⟩
          rintro e W10 ⟨rfl, hm10, hk10⟩
          have hk11 : Keeps (fun j => j = M) W9 W10 := (Keeps.of_new (drew_b W9 1)).trans hk10
          have hS0 := HS.out W10 hk11
          refine HKK.out _ _ (fun _ _ => hS0) ?_
          have HM10 := Lib.hid (hm10.mono (nn' := mm + (pre.length + 1) * 17 ^ 9) (bud_step _ _ h17))
          have HK11 := Lib.hid hk11
          clear hm10 hk10 hk11 HKK K hbud h17
          obtain ⟨d9, hd9⟩ : ∃ d9, cntA T (codesL ps) n b = d9 := ⟨_, rfl⟩
          have hcb2 : d9 ≤ 4294967296 := by rw [← hd9]; exact hcb
          rw [show cntA T (codesL ps) n { last := b.last, pcs := b.pcs } = d9 from hd9]
          have Hd9 := Lib.hid hd9
          clear hd9 hcb
          have hwr : IntKind.i64.wrap ((c9 : Int) + (d9 : Int)) = (c9 : Int) + (d9 : Int) := IntWalk.i64_in _ (by omega)
          refine anyR_free (i := 4) (v := .int .i64 ((c9 : Int) + (d9 : Int))) rfl (by decide) (by kernel_rfl) (by kernel_rfl) (by kernel_rfl) (fun _ _ _ h => h) (Or.inl ⟨by rfl, by intro W' _; go_simp⟩) hS0 ?_
          simp only [Act.put, List.setIfInBounds_toArray, List.set_cons_zero, List.set_cons_succ]
          refine anyR_one (i := 5) (by kernel_rfl) rfl (by rfl) ?_
          intro K hK
          have HKK := Lib.hid hK
          clear hK hS0 hwr
          have h710 := (HK11.out.block _ (lt_of_block G5.out) (by omega)).trans G5.out
          have hcell : W10.cell? ⟨w.heap.size + 1, 0, none⟩ = some (.int .i64 (c9 : Int)) := by rw [cell_row h710]; rfl
          have hfroz : W10.frozen? ⟨w.heap.size + 1, 0, none⟩ = false := frozen_row h710
          go_simp
          refine HKK.out _ _ (fun e => absurd rfl e) ?_
          refine anyR_done (by kernel_rfl) ?_ _
          have hset := keeps_setCell W10 (w.heap.size + 1) 0 (.int .i64 ((c9 : Int) + (d9 : Int)))
          have hK : Keeps (fun j => j = w.heap.size + 1 ∨ j = w.heap.size + 1 + 1 ∨ j = M) W9 (W10.setCell ⟨w.heap.size + 1, 0, none⟩ (.int .i64 ((c9 : Int) + (d9 : Int)))) := (HK11.out.mono (fun _ _ e => .inr (.inr e))).trans (hset.mono (fun _ _ e => .inl e))
          have hst6 := (G6.out.keep HK11.out (by omega)).keep hset (by omega)
          clear hcell hfroz
          gi_wp2_with fail
          refine ⟨hK, ?_, hst6, ?_, ?_, GK.out.trans hK⟩
          · rw [set_same 0 _ h710, List.map_append, List.sum_append]
            have e1 : base + ((pre.map (cntA T (codesL ps) n)).sum + ([b].map (cntA T (codesL ps) n)).sum) = c9 + d9 := by
              rw [← Nat.add_assoc, Hc9.out]; simp [Hd9.out]
            rw [e1]
            simp
          · intro y hy
            rcases List.mem_append.1 hy with h1 | h1
            · exact GN.out y h1
            · simp only [List.mem_singleton] at h1
              rw [h1]; exact Hbs.out
          · rw [List.length_append, List.length_singleton]
            exact HM10.out.keep hset (by omega)
    · have dk : decide ((k : Int) < (n : Int)) = false := decide_eq_false (by omega)
      have c5 : W.cell? ⟨w.heap.size + 1, 0, none⟩ = some (.int .i64 (base : Int)) := by rw [cell_row Hb5.out]; rfl
      gi_wp2_with fail
      obtain rfl : k = n := by omega
      refine Marks.leaves ds W HD.out (fun W' hK' => ?_)
      have hat := Hat.out
      rw [Nat.sub_self] at hat
      have hj := hat.nil
      rw [← Hlen.out, List.take_length] at hj
      rw [Hlen.out] at hj
      have hM : M < W3.heap.size := by omega
      have hmem := (Hmemo.out.mono (nn' := nn + 128 * 17 ^ 9) (by omega)).keep hK' (by rintro ⟨e, _⟩; omega)
      refine ⟨_, results_tmp rfl _ _ _, base, rfl, hj, hmem, ?_⟩
      have h1 := K3.out.none.trans (Hkeep.out.mono (Mut' := fun j => j = M ∨ w.heap.size ≤ j) (fun j _ e => by rcases e with e | e | e <;> omega))
      have h2 := h1.trans (hK'.mono (fun j _ e => .inr (by omega)))
      exact h2.mono (fun j hj e => by rcases e with e | e <;> omega)
end Go.Proofs.Ytfmcfalghbaanaa
