/- Stage 4: what is known of matches. -/
import Derived.Test.YthdjbapidodlfaaR30
namespace Go.Proofs.Ythdjbapidodlfaa
set_option linter.unusedSimpArgs false
set_option linter.unusedVariables false
open Go.RowKit Go.Shelf
attribute [local go_sem ↓] exec_app at_app
attribute [local go_sem] Oper.semAt_some

/-- Up to where the first k hearers have written at the end. -/
def whK (L : List (List Int)) (k : Nat) : List Int := (List.range k).foldl (fun p h => p.set h ((lAt L h).length : Int)) [0, 0, 0, 0]
theorem whK_succ (L : List (List Int)) (k : Nat) : whK L (k + 1) = (whK L k).set k ((lAt L k).length : Int) := by simp [whK, List.range_succ, List.foldl_append]
/-- A match as it is in the lines read from their ends, for the first k hearers. -/
def trK (L : List (List Int)) (p : List Int) (k : Nat) : List Int := (List.range k).foldl (fun q h => q.set h (((lAt L h).length : Int) - 1 - iAt p h)) p
theorem trK_succ (L : List (List Int)) (p : List Int) (k : Nat) : trK L p (k + 1) = (trK L p k).set k (((lAt L k).length : Int) - 1 - iAt p k) := by simp [trK, List.range_succ, List.foldl_append]
theorem trK_later (L : List (List Int)) (p : List Int) (k j : Nat) (h : k ≤ j) : iAt (trK L p k) j = iAt p j := by
  induction k with
  | zero => rfl
  | succ k ih =>
    rw [trK_succ]
    have := ih (by omega)
    unfold iAt at this ⊢
    rw [List.getD_eq_getElem?_getD, List.getElem?_set_ne (by omega), ← List.getD_eq_getElem?_getD]
    exact this
theorem res_place {fn : Func} {pt : Tmp} (hf : fn.results = #[.cell pt 79]) {tmps : Array Value} {W : World} {Z : Nat} {q : List Int} (hz : tmps.getD pt undef = .pointer (some ⟨Z, 0, none⟩)) (h : RowP W Z q) : (results fn tmps).run Try.prog W = .ok (plA q) W := by
  have z0 := h.cell (j := 0) (by omega)
  have z1 := h.cell (j := 1) (by omega)
  have z2 := h.cell (j := 2) (by omega)
  have z3 := h.cell (j := 3) (by omega)
  have hz' : tmps[pt]?.getD undef = .pointer (some ⟨Z, 0, none⟩) := by simpa using hz
  simp only [results, hf]
  simp [Sem.run_bind, hz', go_sem, z0, z1, z2, z3, plA]
theorem RowP.put4 {W : World} {Z : Nat} {q0 : List Int} (h : RowP W Z q0) {q : List Int} (hq : q.length = 4) : RowP ((((W.setCell ⟨Z, 0, none⟩ (.int .i64 (iAt q 0))).setCell ⟨Z, 1, none⟩ (.int .i64 (iAt q 1))).setCell ⟨Z, 2, none⟩ (.int .i64 (iAt q 2))).setCell ⟨Z, 3, none⟩ (.int .i64 (iAt q 3))) Z q := by
  have h1 := (((h.put 0 (iAt q 0)).put 1 (iAt q 1)).put 2 (iAt q 2)).put 3 (iAt q 3)
  have e : (((q0.set 0 (iAt q 0)).set 1 (iAt q 1)).set 2 (iAt q 2)).set 3 (iAt q 3) = q := by
    match q0, h.1, q, hq with
    | [_, _, _, _], _, [a, b, c, d], _ => rfl
  rwa [e] at h1
theorem keeps_put4 (W : World) (Z : Nat) (a b c d : Value) : Keeps (fun k => k = Z) W ((((W.setCell ⟨Z, 0, none⟩ a).setCell ⟨Z, 1, none⟩ b).setCell ⟨Z, 2, none⟩ c).setCell ⟨Z, 3, none⟩ d) :=
  (((keeps_setCell _ _ _ _).trans (keeps_setCell _ _ _ _)).trans (keeps_setCell _ _ _ _)).trans (keeps_setCell _ _ _ _)
set_option maxRecDepth 100000 in
set_option maxHeartbeats 8000000 in
theorem whole80 (B D : Nat) (A : Option Addr) (n cap : Nat) (nm : List Int) (M : Nat) (A2 : Option Addr) (m cap2 : Nat) (L : List (List Int)) (w : World)
    (h : Bo w B D A n cap nm M A2 m cap2 L) (hm : m ≤ 4) (hm1 : 1 ≤ m) :
    Calls Try.prog 80 #[.pointer (some ⟨B, 0, none⟩)] w fun e w' => e = .returned (plA (whK L m)) ∧ Below w.heap.size w w' := by
  have HB := Lib.hid h
  have k2 : Keeps (fun _ => False) w ((w.alloc (.cells #[.int .i64 0, .int .i64 0, .int .i64 0, .int .i64 0] 79)).alloc (.cells #[.int .i64 0, .int .i64 0, .int .i64 0, .int .i64 0] 79)) := (keep_alloc _ _ _).trans (keep_alloc _ _ _)
  have c1 := (h.below k2.new (Nat.le_refl _)).c1
  have e0 : RowP ((w.alloc (.cells #[.int .i64 0, .int .i64 0, .int .i64 0, .int .i64 0] 79)).alloc (.cells #[.int .i64 0, .int .i64 0, .int .i64 0, .int .i64 0] 79)) w.heap.size [0, 0, 0, 0] := ⟨rfl, hal_old (heap_alloc_new_ _ _)⟩
  have e1 : RowP ((w.alloc (.cells #[.int .i64 0, .int .i64 0, .int .i64 0, .int .i64 0] 79)).alloc (.cells #[.int .i64 0, .int .i64 0, .int .i64 0, .int .i64 0] 79)) (w.heap.size + 1) [0, 0, 0, 0] := ⟨rfl, hal_new (by simp)⟩
  have K2 := Lib.hid k2
  have E0 := Lib.hid e0
  have E1 := Lib.hid e1
  clear h k2 e0 e1
  go_enter Try.func80, Try.ntmps80
  go_wp2_with fail
  obtain ⟨V, hV⟩ : ∃ V, (w.alloc (.cells #[.int .i64 0, .int .i64 0, .int .i64 0, .int .i64 0] 79)).alloc (.cells #[.int .i64 0, .int .i64 0, .int .i64 0, .int .i64 0] 79) = V := ⟨_, rfl⟩
  obtain ⟨Z, hZ⟩ : ∃ Z, w.heap.size = Z := ⟨_, rfl⟩
  have HZ := Lib.hid hZ
  have k2 := K2.out
  have e0 := E0.out
  have e1 := E1.out
  rw [hV] at k2 e0 e1 ⊢
  rw [hZ] at e0 e1 ⊢
  replace K2 := Lib.hid k2
  replace E0 := Lib.hid e0
  replace E1 := Lib.hid e1
  clear hV hZ k2 e0 e1 c1
  go_loopw [4, 5, 11] (fun x y i wr => ∃ k : Nat, k ≤ m ∧ i = .int .i64 (k : Int) ∧ Hid (RowP wr (Z + 1) (whK L k) ∧ Keeps (fun k => k = Z + 1) V wr)) (fun x y i _ => m - (intOf i).toNat)
  case atStart => exact ⟨0, Nat.zero_le _, rfl, Lib.hid ⟨E1.out, Keeps.refl _ _⟩⟩
  case round =>
    obtain ⟨k, hk, rfl, HI⟩ := hrel
    have hbw : Below w.heap.size w wr := by
      have h1 := HZ.out
      exact ((K2.out.none (Mut := fun k => k = Z + 1)).trans HI.out.2).below (Nat.le_refl _) (fun k hk e => by omega)
    by_cases hlt : k < m
    · have hbo := HB.out.below hbw (Nat.le_refl _)
      obtain ⟨b, o, rfl, hc⟩ := hbo.lns.2 (by omega)
      obtain ⟨C, c, x0, -, -⟩ := hc k hlt
      have hrow := HI.out.1
      have hput := hrow.put k ((lAt L k).length : Int)
      rw [← whK_succ] at hput
      have z0 := hrow.cell (j := k) (by omega)
      have zf := hrow.fz k
      have hks := keeps_setCell wr (Z + 1) k (.int .i64 ((lAt L k).length : Int))
      obtain ⟨ll, hll⟩ : ∃ ll, (lAt L k).length = ll := ⟨_, rfl⟩
      rw [hll] at x0 hput hks
      have HN := Lib.hid (show RowP (wr.setCell ⟨Z + 1, k, none⟩ (.int .i64 (ll : Int))) (Z + 1) (whK L (k + 1)) ∧ Keeps (fun k => k = Z + 1) V (wr.setCell ⟨Z + 1, k, none⟩ (.int .i64 (ll : Int))) from ⟨hput, HI.out.2.trans hks⟩)
      have i0 : (0 : Int) ≤ (k : Int) := by omega
      have i1 : (k : Int) < (m : Int) := by omega
      have i2 : (k : Int) < 4 := by omega
      clear hbo hc hrow hput hks hll HI hbw
      go_wp2_with fail
      go_roundw
      case rel => exact ⟨k + 1, by omega, by go_num, HN⟩
      case measure => simp [intOf]; omega
    · obtain rfl : k = m := by omega
      obtain ⟨hrow, hkk⟩ := HI.out
      have x0 := hrow.cell (j := 0) (by omega)
      have x1 := hrow.cell (j := 1) (by omega)
      have x2 := hrow.cell (j := 2) (by omega)
      have x3 := hrow.cell (j := 3) (by omega)
      have hz := E0.out.keep hkk (by omega)
      have z0 := hz.cell (j := 0) (by omega)
      have z1 := hz.cell (j := 1) (by omega)
      have z2 := hz.cell (j := 2) (by omega)
      have z3 := hz.cell (j := 3) (by omega)
      have f0 := hz.fz 0
      have f1 := hz.fz 1
      have f2 := hz.fz 2
      have f3 := hz.fz 3
      have HHz := Lib.hid hz
      have Hbw := Lib.hid hbw
      have HWl := Lib.hid hrow.1
      clear hrow hkk HI hz hbw
      go_wp2_with fail
      refine bodyPost_ret (v := plA (whK L k)) (res_place Try.results80 (by rfl) (HHz.out.put4 HWl.out)) rfl ?_
      exact ⟨rfl, Hbw.out.trans ((keeps_put4 wr Z _ _ _ _).below Hbw.out.size (fun k hk e => by have := HZ.out; omega))⟩
set_option maxRecDepth 100000 in
set_option maxHeartbeats 8000000 in
theorem turn91 (B D : Nat) (A : Option Addr) (n cap : Nat) (nm : List Int) (M : Nat) (A2 : Option Addr) (m cap2 : Nat) (L : List (List Int)) (w : World)
    (h : Bo w B D A n cap nm M A2 m cap2 L) (hm : m ≤ 4) (hm1 : 1 ≤ m) (h8 : ∀ j, j < m → (lAt L j).length ≤ 8) (p : List Int) (hp : p.length = 4) (hb : ∀ j, j < m → -1 ≤ iAt p j ∧ iAt p j ≤ 8) :
    Calls Try.prog 91 #[.pointer (some ⟨B, 0, none⟩), plA p] w fun e w' => e = .returned (plA (trK L p m)) ∧ Below w.heap.size w w' := by
  have HB := Lib.hid h
  have k2 : Keeps (fun _ => False) w ((w.alloc (.cells #[.int .i64 (iAt p 0), .int .i64 (iAt p 1), .int .i64 (iAt p 2), .int .i64 (iAt p 3)] 79)).alloc (.cells #[.int .i64 0, .int .i64 0, .int .i64 0, .int .i64 0] 79)) := (keep_alloc _ _ _).trans (keep_alloc _ _ _)
  have c1 := (h.below k2.new (Nat.le_refl _)).c1
  have e1 : RowP ((w.alloc (.cells #[.int .i64 (iAt p 0), .int .i64 (iAt p 1), .int .i64 (iAt p 2), .int .i64 (iAt p 3)] 79)).alloc (.cells #[.int .i64 0, .int .i64 0, .int .i64 0, .int .i64 0] 79)) w.heap.size p := ⟨hp, by rw [flat4 hp]; exact hal_old (heap_alloc_new_ _ _)⟩
  have e0 : RowP ((w.alloc (.cells #[.int .i64 (iAt p 0), .int .i64 (iAt p 1), .int .i64 (iAt p 2), .int .i64 (iAt p 3)] 79)).alloc (.cells #[.int .i64 0, .int .i64 0, .int .i64 0, .int .i64 0] 79)) (w.heap.size + 1) [0, 0, 0, 0] := ⟨rfl, hal_new (by simp)⟩
  have K2 := Lib.hid k2
  have E0 := Lib.hid e0
  have E1 := Lib.hid e1
  clear h k2 e0 e1
  unfold plA
  go_enter Try.func91, Try.ntmps91
  go_wp2_with fail
  obtain ⟨V, hV⟩ : ∃ V, (w.alloc (.cells #[.int .i64 (iAt p 0), .int .i64 (iAt p 1), .int .i64 (iAt p 2), .int .i64 (iAt p 3)] 79)).alloc (.cells #[.int .i64 0, .int .i64 0, .int .i64 0, .int .i64 0] 79) = V := ⟨_, rfl⟩
  obtain ⟨Z, hZ⟩ : ∃ Z, w.heap.size = Z := ⟨_, rfl⟩
  have HZ := Lib.hid hZ
  have k2 := K2.out
  have e0 := E0.out
  have e1 := E1.out
  rw [hV] at k2 e0 e1 ⊢
  rw [hZ] at e0 e1 ⊢
  replace K2 := Lib.hid k2
  replace E0 := Lib.hid e0
  replace E1 := Lib.hid e1
  clear hV hZ k2 e0 e1 c1
  go_loopw [5, 6, 12] (fun x y i wr => ∃ k : Nat, k ≤ m ∧ i = .int .i64 (k : Int) ∧ Hid (RowP wr Z (trK L p k) ∧ Keeps (fun k => k = Z) V wr)) (fun x y i _ => m - (intOf i).toNat)
  case atStart => exact ⟨0, Nat.zero_le _, rfl, Lib.hid ⟨E1.out, Keeps.refl _ _⟩⟩
  case round =>
    obtain ⟨k, hk, rfl, HI⟩ := hrel
    have hbw : Below w.heap.size w wr := by
      have h1 := HZ.out
      exact ((K2.out.none (Mut := fun k => k = Z)).trans HI.out.2).below (Nat.le_refl _) (fun k hk e => by omega)
    by_cases hlt : k < m
    · have hbo := HB.out.below hbw (Nat.le_refl _)
      obtain ⟨b, o, rfl, hc⟩ := hbo.lns.2 (by omega)
      obtain ⟨C, c, x0, -, -⟩ := hc k hlt
      have hrow := HI.out.1
      have hput := hrow.put k (((lAt L k).length : Int) - 1 - iAt p k)
      rw [← trK_succ] at hput
      have hl8 := h8 k hlt
      obtain ⟨hb1, hb2⟩ := hb k hlt
      have z0 := hrow.cell (j := k) (by omega)
      rw [trK_later L p k k (Nat.le_refl _)] at z0
      obtain ⟨pv, hpv⟩ : ∃ pv, iAt p k = pv := ⟨_, rfl⟩
      have zf := hrow.fz k
      have hks := keeps_setCell wr Z k (.int .i64 (((lAt L k).length : Int) - 1 - iAt p k))
      obtain ⟨ll, hll⟩ : ∃ ll, (lAt L k).length = ll := ⟨_, rfl⟩
      rw [hll] at x0 hput hks hl8
      rw [hpv] at z0 hput hks hb1 hb2
      have HN := Lib.hid (show RowP (wr.setCell ⟨Z, k, none⟩ (.int .i64 ((ll : Int) - 1 - pv))) Z (trK L p (k + 1)) ∧ Keeps (fun k => k = Z) V (wr.setCell ⟨Z, k, none⟩ (.int .i64 ((ll : Int) - 1 - pv))) from ⟨hput, HI.out.2.trans hks⟩)
      have i0 : (0 : Int) ≤ (k : Int) := by omega
      have i1 : (k : Int) < (m : Int) := by omega
      have i2 : (k : Int) < 4 := by omega
      have q0 : (0 : Int) ≤ (ll : Int) := by omega
      have q8 : (ll : Int) ≤ 8 := by omega
      clear hbo hc hrow hput hks hll HI hbw hpv hl8
      go_wp2_with fail
      go_roundw
      case rel => exact ⟨k + 1, by omega, by go_num, HN⟩
      case measure => simp [intOf]; omega
    · obtain rfl : k = m := by omega
      obtain ⟨hrow, hkk⟩ := HI.out
      have x0 := hrow.cell (j := 0) (by omega)
      have x1 := hrow.cell (j := 1) (by omega)
      have x2 := hrow.cell (j := 2) (by omega)
      have x3 := hrow.cell (j := 3) (by omega)
      have hz := E0.out.keep hkk (by omega)
      have z0 := hz.cell (j := 0) (by omega)
      have z1 := hz.cell (j := 1) (by omega)
      have z2 := hz.cell (j := 2) (by omega)
      have z3 := hz.cell (j := 3) (by omega)
      have f0 := hz.fz 0
      have f1 := hz.fz 1
      have f2 := hz.fz 2
      have f3 := hz.fz 3
      have HHz := Lib.hid hz
      have Hbw := Lib.hid hbw
      have HWl := Lib.hid hrow.1
      clear hrow hkk HI hz hbw
      go_wp2_with fail
      refine bodyPost_ret (v := plA (trK L p k)) (res_place Try.results91 (by rfl) (HHz.out.put4 HWl.out)) rfl ?_
      exact ⟨rfl, Hbw.out.trans ((keeps_put4 wr (Z + 1) _ _ _ _).below Hbw.out.size (fun k hk e => by have := HZ.out; omega))⟩
end Go.Proofs.Ythdjbapidodlfaa

namespace Go.Proofs.Ythdjbapidodlfaa
set_option linter.unusedSimpArgs false
set_option linter.unusedVariables false
open Go.RowKit Go.Shelf
attribute [local go_sem ↓] exec_app at_app
attribute [local go_sem] Oper.semAt_some

end Go.Proofs.Ythdjbapidodlfaa

namespace Go.Proofs.Ythdjbapidodlfaa
set_option linter.unusedSimpArgs false
set_option linter.unusedVariables false
open Go.RowKit Go.Shelf
attribute [local go_sem ↓] exec_app at_app
attribute [local go_sem] Oper.semAt_some

end Go.Proofs.Ythdjbapidodlfaa

namespace Go.Proofs.Ythdjbapidodlfaa
set_option linter.unusedSimpArgs false
set_option linter.unusedVariables false
open Go.RowKit Go.Shelf
attribute [local go_sem ↓] exec_app at_app
attribute [local go_sem] Oper.semAt_some

/-- What is known: a level, and how many. -/
def knV (x : Int × Int) : Value := .agg #[.int .i64 x.1, .int .i64 x.2]
def orK (x y : Int × Int) : Int × Int := if y.1 < x.1 then x else if x.1 < y.1 then y else (x.1, x.2 + y.2)
def longK (x : Int × Int) : Int × Int := if x = (0, 0) then (1, 1) else (x.1 + 1, x.2)
theorem res_known {fn : Func} {pt : Tmp} (hf : fn.results = #[.cell pt 91]) {tmps : Array Value} {W : World} {Z : Nat} {a b : Int} (hz : tmps.getD pt undef = .pointer (some ⟨Z, 0, none⟩)) (h : W.heap[Z]? = some (.cells #[.int .i64 a, .int .i64 b] 91 (0, 0))) : (results fn tmps).run Try.prog W = .ok (knV (a, b)) W := by
  have z0 : W.cell? ⟨Z, 0, none⟩ = some (.int .i64 a) := by rw [cell_row h]; rfl
  have z1 : W.cell? ⟨Z, 1, none⟩ = some (.int .i64 b) := by rw [cell_row h]; rfl
  have hz' : tmps[pt]?.getD undef = .pointer (some ⟨Z, 0, none⟩) := by simpa using hz
  simp only [results, hf]
  simp [Sem.run_bind, hz', go_sem, z0, z1, knV]
set_option maxRecDepth 100000 in
set_option maxHeartbeats 8000000 in
theorem or88 (x y : Int × Int) (w : World) (hx : 0 ≤ x.2 ∧ x.2 ≤ 1000000000000) (hy : 0 ≤ y.2 ∧ y.2 ≤ 1000000000000) :
    Calls Try.prog 88 #[knV x, knV y] w fun e w' => e = .returned (knV (orK x y)) ∧ Below w.heap.size w w' := by
  obtain ⟨a, b⟩ := x
  obtain ⟨c, d⟩ := y
  dsimp only at hx hy
  obtain ⟨hx1, hx2⟩ := hx
  obtain ⟨hy1, hy2⟩ := hy
  have Fin := Lib.hid (fun (u v : Int) => (⟨hal_new (by simp), (((keep_alloc (fun _ => False) _ _).trans (keep_alloc _ _ _)).trans (keep_alloc _ _ _)).new⟩ : (((w.alloc (.cells #[.int .i64 a, .int .i64 b] 91)).alloc (.cells #[.int .i64 c, .int .i64 d] 91)).alloc (.cells #[.int .i64 u, .int .i64 v] 91)).heap[w.heap.size + 1 + 1]? = some (.cells #[.int .i64 u, .int .i64 v] 91 (0, 0)) ∧ Below w.heap.size w (((w.alloc (.cells #[.int .i64 a, .int .i64 b] 91)).alloc (.cells #[.int .i64 c, .int .i64 d] 91)).alloc (.cells #[.int .i64 u, .int .i64 v] 91))))
  unfold knV
  rcases Int.lt_trichotomy a c with hac | hac | hac
  · have HO := Lib.hid (show orK (a, b) (c, d) = (c, d) by unfold orK; rw [if_neg (by show ¬ c < a; omega), if_pos hac])
    have d1 : ¬ c < a := by omega
    go_enter Try.func88, Try.ntmps88
    go_wp2_with fail
    refine bodyPost_ret (v := knV (c, d)) (res_known Try.results88 (by rfl) (Fin.out c d).1) rfl ?_
    exact ⟨by rw [HO.out]; rfl, (Fin.out c d).2⟩
  · subst hac
    have HO := Lib.hid (show orK (a, b) (a, d) = (a, b + d) by unfold orK; rw [if_neg (by show ¬ a < a; omega), if_neg (by show ¬ a < a; omega)])
    go_enter Try.func88, Try.ntmps88
    go_wp2_with fail
    refine bodyPost_ret (v := knV (a, b + d)) (res_known Try.results88 (by rfl) (Fin.out a (b + d)).1) rfl ?_
    exact ⟨by rw [HO.out]; rfl, (Fin.out a (b + d)).2⟩
  · have HO := Lib.hid (show orK (a, b) (c, d) = (a, b) by unfold orK; rw [if_pos hac])
    go_enter Try.func88, Try.ntmps88
    go_wp2_with fail
    refine bodyPost_ret (v := knV (a, b)) (res_known Try.results88 (by rfl) (Fin.out a b).1) rfl ?_
    exact ⟨by rw [HO.out]; rfl, (Fin.out a b).2⟩
set_option maxRecDepth 100000 in
set_option maxHeartbeats 8000000 in
theorem longer79 (x : Int × Int) (w : World) (hx : 0 ≤ x.1 ∧ x.1 ≤ 1000000) :
    Calls Try.prog 79 #[knV x] w fun e w' => e = .returned (knV (longK x)) ∧ Below w.heap.size w w' := by
  obtain ⟨a, b⟩ := x
  dsimp only at hx
  obtain ⟨hx1, hx2⟩ := hx
  have Fin := Lib.hid (fun (u v : Int) => (⟨hal_new (by simp), ((keep_alloc (fun _ => False) _ _).trans (keep_alloc _ _ _)).new⟩ : ((w.alloc (.cells #[.int .i64 a, .int .i64 b] 91)).alloc (.cells #[.int .i64 u, .int .i64 v] 91)).heap[w.heap.size + 1]? = some (.cells #[.int .i64 u, .int .i64 v] 91 (0, 0)) ∧ Below w.heap.size w ((w.alloc (.cells #[.int .i64 a, .int .i64 b] 91)).alloc (.cells #[.int .i64 u, .int .i64 v] 91))))
  unfold knV
  by_cases h0 : a = 0 ∧ b = 0
  · obtain ⟨rfl, rfl⟩ := h0
    have HO := Lib.hid (show longK (0, 0) = (1, 1) from rfl)
    go_enter Try.func79, Try.ntmps79
    go_wp2_with fail
    refine bodyPost_ret (v := knV (1, 1)) (res_known Try.results79 (by rfl) (Fin.out 1 1).1) rfl ?_
    exact ⟨by rw [HO.out]; rfl, (Fin.out 1 1).2⟩
  · have HO := Lib.hid (show longK (a, b) = (a + 1, b) by unfold longK; rw [if_neg (by intro e; exact h0 (by simpa using e))])
    by_cases ha : a = 0
    · subst ha
      have hb : ¬ b = 0 := fun e => h0 ⟨rfl, e⟩
      clear h0
      go_enter Try.func79, Try.ntmps79
      go_wp2_with fail
      refine bodyPost_ret (v := knV (1, b)) (res_known Try.results79 (by rfl) (Fin.out 1 b).1) rfl ?_
      exact ⟨by rw [HO.out]; rfl, (Fin.out 1 b).2⟩
    · clear h0
      go_enter Try.func79, Try.ntmps79
      go_wp2_with fail
      refine bodyPost_ret (v := knV (a + 1, b)) (res_known Try.results79 (by rfl) (Fin.out (a + 1) b).1) rfl ?_
      exact ⟨by rw [HO.out]; rfl, (Fin.out (a + 1) b).2⟩
end Go.Proofs.Ythdjbapidodlfaa
