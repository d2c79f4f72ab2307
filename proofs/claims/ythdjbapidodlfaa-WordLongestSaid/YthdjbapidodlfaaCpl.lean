/- Stage 4: matches, yielded in order. -/
import Derived.Test.YthdjbapidodlfaaRgf
import Derived.Test.YthdjbapidodlfaaLy
import Derived.Test.YthdjbapidodlfaaRgo
import Derived.Scope
import Derived.ControlIn
import Derived.LoopIn
namespace Go.Proofs.Ythdjbapidodlfaa
set_option linter.unusedSimpArgs false
set_option linter.unusedVariables false
open Go.RowKit Go.Shelf

/-- The deferred calls are marks, each on a block of its own, from lo on. -/
def Marks (lo : Nat) (W : World) : List Deferred → Prop
  | [] => True
  | d :: ds => (∃ D, d = { target := .collected D, args := #[] } ∧ lo ≤ D ∧ D < W.heap.size ∧ W.heap[D]? = some (.deferred (some [])) ∧ (∀ d' ∈ ds, d' ≠ { target := .collected D, args := #[] })) ∧ Marks lo W ds
theorem Marks.keep {lo : Nat} {Mut : Nat → Prop} {W W' : World} {ds : List Deferred} (h : Marks lo W ds) (hK : Keeps Mut W W') (hm : ∀ k, Mut k → k < lo) : Marks lo W' ds := by
  induction ds with
  | nil => trivial
  | cons d ds ih =>
    obtain ⟨⟨D, h1, h2, h3, h4, h5⟩, h6⟩ := h
    exact ⟨⟨D, h1, h2, Nat.lt_of_lt_of_le h3 hK.size, (hK.block D h3 (fun e => by have := hm D e; omega)).trans h4, h5⟩, ih h6⟩
theorem Marks.old {lo : Nat} {W : World} {ds : List Deferred} (h : Marks lo W ds) : ∀ d ∈ ds, ∀ D, W.heap.size ≤ D → d ≠ { target := .collected D, args := #[] } := by
  induction ds with
  | nil => simp
  | cons d ds ih =>
    obtain ⟨⟨D, h1, h2, h3, h4, h5⟩, h6⟩ := h
    intro d' hd D' hD e
    rcases List.mem_cons.1 hd with rfl | hd
    · rw [h1] at e
      simp only [Deferred.mk.injEq, Target.collected.injEq, and_true] at e
      omega
    · exact ih h6 d' hd D' hD e
theorem Marks.push {lo D : Nat} {W0 W : World} {ds : List Deferred} (h0 : Marks lo W0 ds) (h : Marks lo W ds) (hlo : lo ≤ W0.heap.size) (hD : W0.heap.size ≤ D) (hDW : D < W.heap.size) (hd : W.heap[D]? = some (.deferred (some []))) :
    Marks lo W ({ target := .collected D, args := #[] } :: ds) :=
  ⟨⟨D, rfl, Nat.le_trans hlo hD, hDW, hd, fun d' hd' => h0.old d' hd' D hD⟩, h⟩
/-- What is no mark stays when the marks are taken. -/
theorem Marks.leaves {F : Fence} {n : Nat} {P : Program} {fn : Func} {tmps : Array Value} {R : Ending → World → Prop} {lo : Nat} (ds : List Deferred) (W : World) (h : Marks lo W ds)
    (hR : ∀ W', Keeps (fun j => lo ≤ j ∧ W.heap[j]? = some (.deferred (some []))) W W' → LeavesInM F n P fn tmps R [] .returning W') : LeavesInM F n P fn tmps R ds .returning W := by
  induction ds generalizing W with
  | nil => exact hR W (Keeps.refl _ _)
  | cons d ds ih =>
    obtain ⟨⟨D, rfl, h2, h3, h4, h5⟩, h6⟩ := h
    refine ⟨by simp, .inl ⟨D, _, rfl, run_takeDeferred h4, ?_⟩⟩
    have hp : Keeps (fun j => j = D) W (W.putObj D (.deferred none)) := Keeps.putObj _ _ _ rfl
    have hm : Marks lo (W.putObj D (.deferred none)) ds := by
      clear ih hR
      induction ds with
      | nil => trivial
      | cons d ds ih2 =>
        obtain ⟨⟨E, e1, e2, e3, e4, e5⟩, e6⟩ := h6
        have hE : E ≠ D := fun e => h5 d (by simp) (by rw [e1, e])
        exact ⟨⟨E, e1, e2, Nat.lt_of_lt_of_le e3 hp.size, (hp.block E e3 hE).trans e4, e5⟩, ih2 e6 (fun d' hd => h5 d' (List.mem_cons_of_mem _ hd))⟩
    refine ih _ hm (fun W' hK => hR W' ?_)
    refine (hp.mono (fun k _ e => by subst e; exact ⟨h2, h4⟩)).trans (hK.mono (fun k hk e => ?_))
    by_cases hkD : k = D
    · subst hkD; exact ⟨h2, h4⟩
    · refine ⟨e.1, ?_⟩
      have := World.putObj_heap_other (w := W) (o := Obj.deferred none) hkD
      rw [← this]; exact e.2
end Go.Proofs.Ythdjbapidodlfaa

namespace Go.Proofs.Ythdjbapidodlfaa
set_option linter.unusedSimpArgs false
set_option linter.unusedVariables false
open Go.RowKit Go.Shelf
attribute [local go_sem ↓] exec_app at_app
attribute [local go_sem] Oper.semAt_some

/-- The word i of the hearer h. -/
def wdA (L : List (List Int)) (h i : Nat) : Nat := (iAt (lAt L h) i).toNat
/-- The matches that go on from a place, over d hearers from h on. -/
def cmpS (nm : List Int) (L : List (List Int)) (cl : Int) : Nat → List Int → Nat → List (List Int)
  | 0, p, _ => [p]
  | d + 1, p, h => (List.range (lAt L h).length).flatMap fun i => if iAt nm (wdA L h i) = cl then cmpS nm L cl d (p.set h (i : Int)) (h + 1) else []
def cmpK (nm : List Int) (L : List (List Int)) (cl : Int) (d : Nat) (p : List Int) (h k : Nat) : List (List Int) :=
  (List.range k).flatMap fun i => if iAt nm (wdA L h i) = cl then cmpS nm L cl d (p.set h (i : Int)) (h + 1) else []
theorem cmpK_succ (nm : List Int) (L : List (List Int)) (cl : Int) (d : Nat) (p : List Int) (h k : Nat) : cmpK nm L cl d p h (k + 1) = cmpK nm L cl d p h k ++ (if iAt nm (wdA L h k) = cl then cmpS nm L cl d (p.set h (k : Int)) (h + 1) else []) := by
  simp [cmpK, List.range_succ]
theorem cmpS_split (nm : List Int) (L : List (List Int)) (cl : Int) (d : Nat) (p : List Int) (h k : Nat) (hk : k < (lAt L h).length) : ∃ rest, cmpS nm L cl (d + 1) p h = cmpK nm L cl d p h k ++ (if iAt nm (wdA L h k) = cl then cmpS nm L cl d (p.set h (k : Int)) (h + 1) else []) ++ rest := by
  obtain ⟨t, ht⟩ : ∃ t, (lAt L h).length = k + 1 + t := ⟨(lAt L h).length - (k + 1), by omega⟩
  refine ⟨((List.range t).map (fun i => k + 1 + i)).flatMap fun i => if iAt nm (wdA L h i) = cl then cmpS nm L cl d (p.set h (i : Int)) (h + 1) else [], ?_⟩
  rw [← cmpK_succ]
  simp only [cmpS, cmpK, ht]
  rw [List.range_add, List.flatMap_append]
/-- A place as the program holds it. -/
def plA (p : List Int) : Value := .agg #[.int .i64 (iAt p 0), .int .i64 (iAt p 1), .int .i64 (iAt p 2), .int .i64 (iAt p 3)]
theorem flat4 {p : List Int} (h : p.length = 4) : flatI p = [.int .i64 (iAt p 0), .int .i64 (iAt p 1), .int .i64 (iAt p 2), .int .i64 (iAt p 3)] := by
  match p, h with
  | [a, b, c, d], _ => rfl
def RowP (W : World) (P : Nat) (q : List Int) : Prop := q.length = 4 ∧ W.heap[P]? = some (.cells (flatI q).toArray 79 (0, 0))
theorem RowP.cell {W : World} {P : Nat} {q : List Int} (h : RowP W P q) {j : Nat} (hj : j < 4) : W.cell? ⟨P, j, none⟩ = some (.int .i64 (iAt q j)) := by
  rw [cell_row h.2, iAt_eq (by rw [h.1]; exact hj), List.getElem?_toArray]
  simp [flatI, show j < q.length by rw [h.1]; exact hj]
theorem RowP.fz {W : World} {P : Nat} {q : List Int} (h : RowP W P q) (j : Nat) : W.frozen? ⟨P, j, none⟩ = false := frozen_row h.2
theorem RowP.put {W : World} {P : Nat} {q : List Int} (h : RowP W P q) (j : Nat) (v : Int) : RowP (W.setCell ⟨P, j, none⟩ (.int .i64 v)) P (q.set j v) := by
  refine ⟨by rw [List.length_set]; exact h.1, ?_⟩
  rw [set_same _ _ h.2]
  simp [flatI, List.map_set]
theorem RowP.keep {W W' : World} {P : Nat} {q : List Int} {Mut : Nat → Prop} (h : RowP W P q) (hK : Keeps Mut W W') (hm : ¬ Mut P) : RowP W' P q :=
  ⟨h.1, (hK.block _ (lt_of_block h.2) hm).trans h.2⟩
theorem rowP_new {W : World} {p : List Int} (h : p.length = 4) : RowP (W.alloc (.cells #[.int .i64 (iAt p 0), .int .i64 (iAt p 1), .int .i64 (iAt p 2), .int .i64 (iAt p 3)] 79)) W.heap.size p :=
  ⟨h, by rw [flat4 h]; exact heap_alloc_new_ _ _⟩
theorem Grow.from {O O' : Nat → Prop} {W V W' : World} (h : Grow O O' V W') (hs : W.heap.size ≤ V.heap.size) : Grow O O' W W' :=
  ⟨h.1, fun k e => (h.2 k e).imp (fun x => x) (fun x => ⟨Nat.le_trans hs x.1, x.2⟩)⟩
theorem Grow.trans {O O' O2 : Nat → Prop} {W V W' : World} (h : Grow O O' W V) (k : Grow O' O2 V W') (hs : W.heap.size ≤ V.heap.size) (hs2 : V.heap.size ≤ W'.heap.size) : Grow O O2 W W' :=
  ⟨fun j e => k.1 j (h.1 j e), fun j e => by
    rcases k.2 j e with e1 | e1
    · rcases h.2 j e1 with e2 | e2
      · exact .inl e2
      · exact .inr ⟨e2.1, by omega⟩
    · exact .inr ⟨by omega, e1.2⟩⟩
theorem keeps_old {Mut : Nat → Prop} {W W' : World} (h : Keeps (fun k => Mut k ∨ W.heap.size ≤ k) W W') : Keeps Mut W W' :=
  ⟨h.os, h.tape, h.output, h.size, fun k hk hm => h.block k hk (by rintro (e | e); exact hm e; omega)⟩
set_option maxRecDepth 100000 in
set_option maxHeartbeats 16000000 in
theorem complete75 {B D : Nat} {A : Option Addr} {n cap : Nat} {nm : List Int} {M : Nat} {A2 : Option Addr} {m cap2 : Nat} {L : List (List Int)} (hL : LV L m) (w0 : World) (hB0 : Bo w0 B D A n cap nm M A2 m cap2 L) (l : Nat) (Mut : Nat → Prop) (J Jx : List (List Int) → (Nat → Prop) → World → Prop) (xs : List (List Int)) (N0 : Nat) (hN0 : w0.heap.size ≤ N0)
    (hMut : ∀ k, Mut k → w0.heap.size ≤ k ∧ k < N0) (hJ : ∀ pre, AbO N0 (J pre))
    (hY : ∀ pre x post W1 O, xs = pre ++ x :: post → N0 ≤ W1.heap.size → (∀ k, O k → N0 ≤ k ∧ k < W1.heap.size) → J pre O W1 → Yld Try.prog l #[plA x] W1 fun e W' =>
      (e = .returned (.bool true) ∧ ∃ O', Grow O O' W1 W' ∧ J (pre ++ [x]) O' W' ∧ Keeps (fun k => Mut k ∨ O k) W1 W') ∨ (e = .returned (.bool false) ∧ ∃ O', Grow O O' W1 W' ∧ Jx (pre ++ [x]) O' W' ∧ Keeps (fun k => Mut k ∨ O k) W1 W')) (cl : Int) (P2 Q : Nat) (hP2 : N0 ≤ P2) (hQ : N0 ≤ Q) :
    ∀ (d h : Nat) (p : List Int) (pre0 post0 : List (List Int)) (W1 : World) (O : Nat → Prop), h + d = m → 1 ≤ h → p.length = 4 → xs = pre0 ++ cmpS nm L cl d p h ++ post0 → N0 ≤ W1.heap.size → (∀ k, O k → N0 ≤ k ∧ k < W1.heap.size) → ¬ O P2 → ¬ O Q → J pre0 O W1 →
      Below w0.heap.size w0 W1 → W1.cell? ⟨P2, 0, none⟩ = some (.pointer (some ⟨D, 0, none⟩)) → W1.cell? ⟨Q, 0, none⟩ = some (.int .i64 cl) →
      Calls Try.prog 75 #[.pointer (some ⟨B, 0, none⟩), plA p, .int .i64 (h : Int), .func (.func 87) #[] #[.pointer (some ⟨P2, 0, none⟩), .pointer (some ⟨Q, 0, none⟩)], .func (.yield l) #[] #[]] W1 fun e W' =>
        (e = .returned (.bool true) ∧ ∃ O', Grow O O' W1 W' ∧ J (pre0 ++ cmpS nm L cl d p h) O' W' ∧ Keeps (fun k => Mut k ∨ O k) W1 W') ∨ (e = .returned (.bool false) ∧ ∃ O', Grow O O' W1 W' ∧ (∃ pre x post, xs = pre ++ x :: post ∧ Jx (pre ++ [x]) O' W') ∧ Keeps (fun k => Mut k ∨ O k) W1 W') := by
  intro d
  induction d with
  | zero =>
    intro h p pre0 post0 W1 O hd h1 hp hxs hN hO hO2 hOq hj hbl hc2 hcq
    have hKV : Keeps (fun k => Mut k ∨ O k) W1 (W1.alloc (.cells #[.int .i64 (iAt p 0), .int .i64 (iAt p 1), .int .i64 (iAt p 2), .int .i64 (iAt p 3)] 79)) := keep_alloc _ _ _
    have hrow := rowP_new (W := W1) hp
    have b1 := (hB0.below (hbl.trans ((keep_alloc (fun _ => False) W1 (.cells #[.int .i64 (iAt p 0), .int .i64 (iAt p 1), .int .i64 (iAt p 2), .int .i64 (iAt p 3)] 79)).new.mono hbl.size)) (Nat.le_refl _)).c1
    have p0 := hrow.cell (j := 0) (by omega)
    have p1 := hrow.cell (j := 1) (by omega)
    have p2 := hrow.cell (j := 2) (by omega)
    have p3 := hrow.cell (j := 3) (by omega)
    obtain rfl : h = m := by omega
    have hxs0 : xs = pre0 ++ p :: post0 := by rw [hxs]; simp [cmpS]
    have hy0 := hY pre0 p post0 (W1.alloc (.cells #[.int .i64 (iAt p 0), .int .i64 (iAt p 1), .int .i64 (iAt p 2), .int .i64 (iAt p 3)] 79)) O hxs0 (Nat.le_trans hN hKV.size) (fun k e => ⟨(hO k e).1, Nat.lt_of_lt_of_le (hO k e).2 hKV.size⟩) (hJ _ _ _ _ hj (keep_alloc _ _ _)) (3 - 1)
    have HKV := Lib.hid hKV
    have Hxs := Lib.hid hxs0
    obtain ⟨fn, tmps, assign, body, hy, hR⟩ := hy0
    unfold plA at hy ⊢
    clear hrow hKV hbl hJ hY hc2 hcq hxs hxs0 hj hO hO2 hOq
    refine (callsIn_wide (n := 3)).1 ?_
    refine callsIn_of_wp Try.func75 rfl trivial ?_ rfl
    simp only [Try.ntmps75, List.size_toArray, List.length_cons, List.length_nil, Nat.reduceAdd, Nat.reduceSub, Array.replicate_succ, Array.replicate_zero, List.push_toArray, List.append_toArray, List.nil_append, List.cons_append]
    gi_wp2_with fail
    refine hR.mono ?_
    rintro e W2 (⟨rfl, O', hG, hj2, hK2⟩ | ⟨rfl, O', hG, hj2, hK2⟩)
    · have HJ2 := Lib.hid hj2
      have HK2 := Lib.hid (HKV.out.trans hK2)
      have HG := Lib.hid (hG.from HKV.out.size)
      clear hj2 hK2 hG hy hR p0 p1 p2 p3 b1
      gi_wp2_with fail
      go_ret
      exact .inl ⟨rfl, _, HG.out, HJ2.out, HK2.out⟩
    · have HJ2 := Lib.hid hj2
      have HK2 := Lib.hid (HKV.out.trans hK2)
      have HG := Lib.hid (hG.from HKV.out.size)
      clear hj2 hK2 hG hy hR p0 p1 p2 p3 b1
      gi_wp2_with fail
      go_ret
      exact .inr ⟨rfl, _, HG.out, ⟨_, _, _, Hxs.out, HJ2.out⟩, HK2.out⟩
  | succ d ih =>
    intro h p pre0 post0 W1 O hd h1 hp hxs hN hO hO2 hOq hj hbl hc2 hcq
    have hKV : Keeps (fun k => Mut k ∨ O k) W1 (W1.alloc (.cells #[.int .i64 (iAt p 0), .int .i64 (iAt p 1), .int .i64 (iAt p 2), .int .i64 (iAt p 3)] 79)) := keep_alloc _ _ _
    have hrow := rowP_new (W := W1) hp
    have hblV : Below w0.heap.size w0 (W1.alloc (.cells #[.int .i64 (iAt p 0), .int .i64 (iAt p 1), .int .i64 (iAt p 2), .int .i64 (iAt p 3)] 79)) := hbl.trans ((keep_alloc (fun _ => False) W1 _).new.mono hbl.size)
    have hbo := hB0.below hblV (Nat.le_refl _)
    have b1 := hbo.c1
    obtain ⟨b, o, rfl, hcw⟩ := hB0.lns.2 (by omega)
    obtain ⟨C, c, y0, yI, yc⟩ := hcw h (by omega)
    have x0 := (hblV.cell (p := ⟨b, o + h, none⟩) (lt_of_cell y0)).trans y0
    obtain ⟨q, hq⟩ : ∃ q, (lAt L h).length = q := ⟨_, rfl⟩
    rw [hq] at x0 yI yc
    have hq8 : q ≤ 8 := by rw [← hq]; exact hL.le8 h (by omega)
    have hm4 := hL.hi
    have hjV := hJ _ _ _ _ hj (keep_alloc _ W1 (.cells #[.int .i64 (iAt p 0), .int .i64 (iAt p 1), .int .i64 (iAt p 2), .int .i64 (iAt p 3)] 79))
    have dne : ¬ (h : Int) = (m : Int) := by omega
    have j0 : (0 : Int) ≤ (h : Int) := by omega
    have j1 : (h : Int) < (m : Int) := by omega
    have j4 : (h : Int) < 4 := by omega
    have HKV := Lib.hid hKV
    have HRow := Lib.hid hrow
    have HJV := Lib.hid hjV
    have Hbl := Lib.hid hbl
    have Hxs := Lib.hid hxs
    have HB0 := Lib.hid hB0
    have HMut := Lib.hid hMut
    have HIh := Lib.hid ih
    have HL := Lib.hid hL
    have HI0 := Lib.hid yI
    have Hc2 := Lib.hid hc2
    have Hcq := Lib.hid hcq
    have HN := Lib.hid hN
    have HJa := Lib.hid hJ
    have Hq := Lib.hid hq
    have Hd := Lib.hid hd
    have Hp := Lib.hid hp
    have HO := Lib.hid hO
    have HO2 := Lib.hid hO2
    have HOq := Lib.hid hOq
    clear hrow hKV hblV hbo hcw y0 yI hbl hJ hY hc2 hcq hxs hj hjV hB0 hMut hL ih hq hO hO2 hOq
    unfold plA
    refine (callsIn_wide (n := 3)).1 ?_
    refine callsIn_of_wp Try.func75 rfl trivial ?_ rfl
    simp only [Try.ntmps75, List.size_toArray, List.length_cons, List.length_nil, Nat.reduceAdd, Nat.reduceSub, Array.replicate_succ, Array.replicate_zero, List.push_toArray, List.append_toArray, List.nil_append, List.cons_append]
    gi_wp2_with fail
    obtain ⟨V, hV⟩ : ∃ V, (W1.alloc (.cells #[.int .i64 (iAt p 0), .int .i64 (iAt p 1), .int .i64 (iAt p 2), .int .i64 (iAt p 3)] 79)) = V := ⟨_, rfl⟩
    obtain ⟨P, hP⟩ : ∃ P, W1.heap.size = P := ⟨_, rfl⟩
    have hVs : V.heap.size = W1.heap.size + 1 := by rw [← hV]; simp
    rw [hV] at HKV HRow HJV ⊢
    rw [hP] at HRow hVs ⊢
    have HVs := Lib.hid hVs
    have HP := Lib.hid hP
    clear hV hP b1 x0 hVs
    rw [show ((h : Int) == (m : Int)) = false from by rw [beq_eq_false_iff_ne]; exact dne]
    gi_loopw [10, 11, 12, 31] (fun r i x a wr => ∃ k : Nat, k ≤ q ∧ a = .int .i64 (k : Int) ∧ Hid (∃ s, RowP wr P s ∧ (∀ v, s.set h v = p.set h v) ∧ ∃ O', J (pre0 ++ cmpK nm L cl d p h k) O' wr ∧ Grow O O' V wr ∧ Keeps (fun k => Mut k ∨ O k) W1 wr)) (fun r i x a _ => q - (intOf a).toNat)
    case atStart => exact ⟨0, Nat.zero_le _, rfl, Lib.hid ⟨p, HRow.out, fun _ => rfl, O, by simpa [cmpK] using HJV.out, Grow.refl _ _ _, HKV.out⟩⟩
    case round =>
      obtain ⟨k, hk, rfl, HI⟩ := hrel
      by_cases hlt : k < q
      · have e1 : iAt (lAt L h) k = ((wdA L h k : Nat) : Int) ∧ wdA L h k ≤ 100 := by
          obtain ⟨u, hu, hu1, hu2⟩ := HL.out.wd h (by have := Hd.out; omega) (iAt (lAt L h) k) (by rw [iAt_eq (by rw [Hq.out]; exact hlt)]; exact List.getElem_mem _)
          unfold wdA
          rw [hu]
          exact ⟨by simp, by simpa using hu2⟩
        obtain ⟨rest, hsp⟩ := cmpS_split nm L cl d p h k (by rw [Hq.out]; exact hlt)
        have hkk := cmpK_succ nm L cl d p h k
        obtain ⟨bC, oC, rfl, hcC⟩ := HI0.out.2 (by omega)
        obtain ⟨u, hu⟩ : ∃ u, wdA L h k = u := ⟨_, rfl⟩
        rw [hu] at e1 hsp hkk
        obtain ⟨s, hrs, hsv, O1, hj, hG, hK⟩ := HI.out
        have hVw := (show V.heap.size ≤ wr.heap.size by have := lt_of_block hrs.2; have := HVs.out; omega)
        have hO1 : ∀ k, O1 k → (N0 ≤ k ∧ k < wr.heap.size) ∧ (O k ∨ P + 1 ≤ k) := fun k e => by
          have h1 := HVs.out
          have h2 := hK.size
          have h3 := HN.out
          have h4 := HP.out
          rcases hG.2 k e with e1 | e1
          · exact ⟨⟨(HO.out k e1).1, by have := (HO.out k e1).2; omega⟩, .inl e1⟩
          · exact ⟨⟨by omega, e1.2⟩, .inr (by omega)⟩
        have hblr : Below w0.heap.size w0 wr := Hbl.out.trans (hK.below Hbl.out.size (fun k hk e => by
          rcases e with e | e
          · have := (HMut.out k e).1; omega
          · have := (HO.out k e).1; omega))
        have x1 := (hblr.cell (p := ⟨bC, oC + k, none⟩) (lt_of_cell (hcC k hlt))).trans (hcC k hlt)
        rw [e1.1] at x1
        have hu100 := e1.2
        have i0 : (0 : Int) ≤ (k : Int) := by omega
        have i1 : (k : Int) < (q : Int) := by omega
        have z2 : wr.cell? ⟨P2, 0, none⟩ = some (.pointer (some ⟨D, 0, none⟩)) := by
          rw [keep_cells hK (lt_of_cell Hc2.out) (fun e => e.elim (fun e => by have := (HMut.out _ e).2; omega) HO2.out)]; exact Hc2.out
        have zq : wr.cell? ⟨Q, 0, none⟩ = some (.int .i64 cl) := by
          rw [keep_cells hK (lt_of_cell Hcq.out) (fun e => e.elim (fun e => by have := (HMut.out _ e).2; omega) HOq.out)]; exact Hcq.out
        have key := kin87 D A n cap nm M u P2 Q cl wr (HB0.out.below hblr (Nat.le_refl _)).dic hu100 z2 zq
        have Hsp := Lib.hid hsp
        have Hkk := Lib.hid hkk
        have HRs := Lib.hid hrs
        have Hsv := Lib.hid hsv
        have HJ := Lib.hid hj
        have HK := Lib.hid hK
        have HG := Lib.hid hG
        have HO1 := Lib.hid hO1
        have HVw := Lib.hid hVw
        have Hblr := Lib.hid hblr
        have Z2 := Lib.hid z2
        have Zq := Lib.hid zq
        clear hsp hkk hrs hsv hj hK hblr z2 zq e1 hu hcC HI hG hO1 hVw
        by_cases hcc : iAt nm u = cl
        · rw [decide_eq_true hcc] at key
          rw [if_pos hcc] at Hsp Hkk
          clear hcc
          gi_wp2_with fail
          refine ⟨trivial, (callsIn_wide.2 key).mono ?_⟩
          rintro e w2 ⟨rfl, hb2⟩
          have hr2 := (HRs.out.keep (Keeps.of_new (Mut := fun _ => False) hb2) (fun e => e))
          have hput := hr2.put h (k : Int)
          have hsv' := Hsv.out (k : Int)
          rw [hsv'] at hput
          have hsz := HK.out.size
          have hP0 := HP.out
          have hPlt := lt_of_block HRs.out.2
          have g0 : w2.cell? ⟨P, h, none⟩ = some (.int .i64 (iAt s h)) := hr2.cell (by omega)
          have g1 := hr2.fz h
          have hkS : Keeps (fun k => k = P) wr (w2.setCell ⟨P, h, none⟩ (.int .i64 (k : Int))) := (Keeps.of_new hb2).trans (keeps_setCell _ _ _ _)
          have hnP : ¬ O1 P := fun e => by
            have h1 := HVs.out
            rcases (HO1.out P e).2 with e1 | e1
            · have := (HO.out P e1).2; omega
            · omega
          have hkN : Keeps (fun k => N0 ≤ k ∧ ¬ O1 k) wr (w2.setCell ⟨P, h, none⟩ (.int .i64 (k : Int))) := hkS.mono (fun k _ e => ⟨by have := HN.out; omega, by rw [e]; exact hnP⟩)
          have hkW : Keeps (fun k => Mut k ∨ O k) W1 (w2.setCell ⟨P, h, none⟩ (.int .i64 (k : Int))) := keeps_old ((HK.out.mono (fun _ _ e => .inl e)).trans (hkS.mono (fun k _ e => .inr (by omega))))
          have hbS : Below w0.heap.size w0 (w2.setCell ⟨P, h, none⟩ (.int .i64 (k : Int))) := Hblr.out.trans (hkS.below Hblr.out.size (fun k hk e => by have := HN.out; omega))
          have z2 : (w2.setCell ⟨P, h, none⟩ (.int .i64 (k : Int))).cell? ⟨P2, 0, none⟩ = some (.pointer (some ⟨D, 0, none⟩)) := by
            rw [keep_cells hkS (lt_of_cell Z2.out) (fun e => by have := lt_of_cell Hc2.out; omega)]; exact Z2.out
          have zq : (w2.setCell ⟨P, h, none⟩ (.int .i64 (k : Int))).cell? ⟨Q, 0, none⟩ = some (.int .i64 cl) := by
            rw [keep_cells hkS (lt_of_cell Zq.out) (fun e => by have := lt_of_cell Hcq.out; omega)]; exact Zq.out
          have ihc := HIh.out (h + 1) (p.set h (k : Int)) (pre0 ++ cmpK nm L cl d p h k) (rest ++ post0) (w2.setCell ⟨P, h, none⟩ (.int .i64 (k : Int))) O1 (by omega) (by omega) (by rw [List.length_set]; exact hp) (by rw [Hxs.out, Hsp.out]; simp [List.append_assoc]) (Nat.le_trans HN.out hkW.size) (fun k e => ⟨((HO1.out k e).1).1, by have := ((HO1.out k e).1).2; have := hkS.size; omega⟩) (fun e => (HO1.out _ e).2.elim HO2.out (fun e1 => by have := lt_of_cell Hc2.out; omega)) (fun e => (HO1.out _ e).2.elim HOq.out (fun e1 => by have := lt_of_cell Hcq.out; omega)) (HJa.out _ _ _ _ HJ.out hkN) hbS z2 zq
          unfold plA at ihc
          have p0 := hput.cell (j := 0) (by omega)
          have p1 := hput.cell (j := 1) (by omega)
          have p2 := hput.cell (j := 2) (by omega)
          have p3 := hput.cell (j := 3) (by omega)
          have HPut := Lib.hid hput
          have HkW := Lib.hid hkW
          have HkSs := Lib.hid hkS.size
          have HnP := Lib.hid hnP
          rw [show (((h + 1 : Nat) : Int)) = (h : Int) + 1 from by omega] at ihc
          clear hr2 hput hsv' hsz hkS hkN hkW hbS z2 zq hb2 key x1 hnP
          gi_wp2_with fail
          refine ⟨trivial, (callsIn_wide.2 ihc).mono ?_⟩
          rintro e w3 (⟨rfl, O2, hG3, hj3, hK3⟩ | ⟨rfl, O2, hG3, hx3, hK3⟩)
          · have hG4 : Grow O O2 V w3 := HG.out.trans (hG3.from HkSs.out) HVw.out (Nat.le_trans HkSs.out hK3.size)
            have hK4 : Keeps (fun k => Mut k ∨ O k) W1 w3 := keeps_old ((HkW.out.mono (fun _ _ e => .inl e)).trans (hK3.mono (fun k _ e => e.elim (fun e => .inl (.inl e)) (fun e => (HO1.out k e).2.elim (fun e => .inl (.inr e)) (fun e => .inr (by have := HP.out; omega))))))
            have HN3 := Lib.hid (show ∃ s, RowP w3 P s ∧ (∀ v, s.set h v = p.set h v) ∧ ∃ O', J (pre0 ++ cmpK nm L cl d p h (k + 1)) O' w3 ∧ Grow O O' V w3 ∧ Keeps (fun k => Mut k ∨ O k) W1 w3 from
              ⟨p.set h (k : Int), HPut.out.keep hK3 (fun e => e.elim (fun e => by have := (HMut.out _ e).2; have := HN.out; omega) HnP.out), fun v => by rw [List.set_set], O2, by rw [Hkk.out, ← List.append_assoc]; exact hj3, hG4, hK4⟩)
            clear hj3 hK3 hG3 hG4 hK4 ihc p0 p1 p2 p3 g0 g1
            gi_wp2_with fail
            go_roundw
            case rel => exact ⟨k + 1, by omega, by go_num, HN3⟩
            case measure => simp [intOf]; omega
          · have HX3 := Lib.hid hx3
            have HG4 := Lib.hid (show Grow O O2 W1 w3 from (HG.out.trans (hG3.from HkSs.out) HVw.out (Nat.le_trans HkSs.out hK3.size)).from (by have := HVs.out; have := HP.out; omega))
            have HK3 := Lib.hid (show Keeps (fun k => Mut k ∨ O k) W1 w3 from keeps_old ((HkW.out.mono (fun _ _ e => .inl e)).trans (hK3.mono (fun k _ e => e.elim (fun e => .inl (.inl e)) (fun e => (HO1.out k e).2.elim (fun e => .inl (.inr e)) (fun e => .inr (by have := HP.out; omega)))))))
            clear hx3 hK3 hG3 ihc p0 p1 p2 p3 g0 g1
            gi_wp2_with fail
            go_ret
            exact .inr ⟨rfl, _, HG4.out, HX3.out, HK3.out⟩
        · rw [decide_eq_false hcc] at key
          rw [if_neg hcc, List.append_nil] at Hkk
          clear hcc
          gi_wp2_with fail
          refine ⟨trivial, (callsIn_wide.2 key).mono ?_⟩
          rintro e w2 ⟨rfl, hb2⟩
          have HN2 := Lib.hid (show ∃ s, RowP w2 P s ∧ (∀ v, s.set h v = p.set h v) ∧ ∃ O', J (pre0 ++ cmpK nm L cl d p h (k + 1)) O' w2 ∧ Grow O O' V w2 ∧ Keeps (fun k => Mut k ∨ O k) W1 w2 from
            ⟨s, HRs.out.keep (Keeps.of_new (Mut := fun _ => False) hb2) (fun e => e), Hsv.out, O1, by rw [Hkk.out]; exact HJa.out _ _ _ _ HJ.out (Keeps.of_new hb2), HG.out.trans ((Grow.refl O1 wr w2)) HVw.out hb2.size, HK.out.trans (Keeps.of_new hb2)⟩)
          clear hb2 key x1
          gi_wp2_with fail
          go_roundw
          case rel => exact ⟨k + 1, by omega, by go_num, HN2⟩
          case measure => simp [intOf]; omega
      · have e : k = q := by omega
        subst e
        obtain ⟨s, hrs, hsv, O1, hj, hG, hK⟩ := HI.out
        have HG := Lib.hid (show Grow O O1 W1 wr from hG.from (by have := HVs.out; have := HP.out; omega))
        have HFin := Lib.hid (show J (pre0 ++ cmpS nm L cl (d + 1) p h) O1 wr by
          have e2 : cmpS nm L cl (d + 1) p h = cmpK nm L cl d p h (lAt L h).length := rfl
          rw [e2, Hq.out]; exact hj)
        have HK := Lib.hid hK
        clear hrs hsv hj hK HI hG
        gi_wp2_with fail
        go_ret
        exact .inl ⟨rfl, _, HG.out, HFin.out, HK.out⟩
end Go.Proofs.Ythdjbapidodlfaa
