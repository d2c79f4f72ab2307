/- Stage 4: what is known of matches. -/
import Derived.Test.YthdjbapidodlfaaR30
namespace Go.Proofs.Ythdjbapidodlfaa
set_option linter.unusedSimpArgs false
set_option linter.unusedVariables false
open Go.RowKit Go.Shelf
attribute [local go_sem ↓] exec_app at_app
attribute [local go_sem] Oper.semAt_some

/-- Up to where the first k hearers have written at the end. -/
def whK (L : List (List Int)) (k : Nat) : List Int := (List.range k).foldl (fun p h => p.set h ((lAt L h).length : Int)) [0, 0, 0, 0]
theorem whK_succ (L : List (List Int)) (k : Nat) : whK L (k + 1) = (whK L k).set k ((lAt L k).length : Int) := by simp [whK, List.range_succ, List.foldl_append]
/-- A match as it is in the lines read from their ends, for the first k hearers. -/
def trK (L : List (List Int)) (p : List Int) (k : Nat) : List Int := (List.range k).foldl (fun q h => q.set h (((lAt L h).length : Int) - 1 - iAt p h)) p
theorem trK_succ (L : List (List Int)) (p : List Int) (k : Nat) : trK L p (k + 1) = (trK L p k).set k (((lAt L k).length : Int) - 1 - iAt p k) := by simp [trK, List.range_succ, List.foldl_append]
theorem trK_later (L : List (List Int)) (p : List Int) (k j : Nat) (h : k ≤ j) : iAt (trK L p k) j = iAt p j := by
  induction k with
  | zero => rfl
  | succ k ih =>
    rw [trK_succ]
    have := ih (by omega)
    unfold iAt at this ⊢
    rw [List.getD_eq_getElem?_getD, List.getElem?_set_ne (by omega), ← List.getD_eq_getElem?_getD]
    exact this
theorem res_place {fn : Func} {pt : Tmp} (hf : fn.results = #[.cell pt 79]) {tmps : Array Value} {W : World} {Z : Nat} {q : List Int} (hz : tmps.getD pt undef = .pointer (some ⟨Z, 0, none⟩)) (h : RowP W Z q) : (results fn tmps).run Try.prog W = .ok (plA q) W := by
  have z0 := h.cell (j := 0) (by omega)
  have z1 := h.cell (j := 1) (by omega)
  have z2 := h.cell (j := 2) (by omega)
  have z3 := h.cell (j := 3) (by omega)
  have hz' : tmps[pt]?.getD undef = .pointer (some ⟨Z, 0, none⟩) := by simpa using hz
  simp only [results, hf]
  simp [Sem.run_bind, hz', go_sem, z0, z1, z2, z3, plA]
theorem RowP.put4 {W : World} {Z : Nat} {q0 : List Int} (h : RowP W Z q0) {q : List Int} (hq : q.length = 4) : RowP ((((W.setCell ⟨Z, 0, none⟩ (.int .i64 (iAt q 0))).setCell ⟨Z, 1, none⟩ (.int .i64 (iAt q 1))).setCell ⟨Z, 2, none⟩ (.int .i64 (iAt q 2))).setCell ⟨Z, 3, none⟩ (.int .i64 (iAt q 3))) Z q := by
  have h1 := (((h.put 0 (iAt q 0)).put 1 (iAt q 1)).put 2 (iAt q 2)).put 3 (iAt q 3)
  have e : (((q0.set 0 (iAt q 0)).set 1 (iAt q 1)).set 2 (iAt q 2)).set 3 (iAt q 3) = q := by
    match q0, h.1, q, hq with
    | [_, _, _, _], _, [a, b, c, d], _ => rfl
  rwa [e] at h1
theorem keeps_put4 (W : World) (Z : Nat) (a b c d : Value) : Keeps (fun k => k = Z) W ((((W.setCell ⟨Z, 0, none⟩ a).setCell ⟨Z, 1, none⟩ b).setCell ⟨Z, 2, none⟩ c).setCell ⟨Z, 3, none⟩ d) :=
  (((keeps_setCell _ _ _ _).trans (keeps_setCell _ _ _ _)).trans (keeps_setCell _ _ _ _)).trans (keeps_setCell _ _ _ _)
set_option maxRecDepth 100000 in
set_option maxHeartbeats 8000000 in
theorem whole80 (B D : Nat) (A : Option Addr) (n cap : Nat) (nm : List Int) (M : Nat) (A2 : Option Addr) (m cap2 : Nat) (L : List (List Int)) (w : World)
    (h : Bo w B D A n cap nm M A2 m cap2 L) (hm : m ≤ 4) (hm1 : 1 ≤ m) :
    Calls Try.prog 80 #[.pointer (some ⟨B, 0, none⟩)] w fun e w' => e = .returned (plA (whK L m)) ∧ Below w.heap.size w w' := by
  have HB := Lib.hid h
  have k2 : Keeps (fun _ => False) w ((w.alloc (.cells #[.int .i64 0, .int .i64 0, .int .i64 0, .int .i64 0] 79)).alloc (.cells #[.int .i64 0, .int .i64 0, .int .i64 0, .int .i64 0] 79)) := (keep_alloc _ _ _).trans (keep_alloc _ _ _)
  have c1 := (h.below k2.new (Nat.le_refl _)).c1
  have e0 : RowP ((w.alloc (.cells #[.int .i64 0, .int .i64 0, .int .i64 0, .int .i64 0] 79)).alloc (.cells #[.int .i64 0, .int .i64 0, .int .i64 0, .int .i64 0] 79)) w.heap.size [0, 0, 0, 0] := ⟨rfl, hal_old (heap_alloc_new_ _ _)⟩
  have e1 : RowP ((w.alloc (.cells #[.int .i64 0, .int .i64 0, .int .i64 0, .int .i64 0] 79)).alloc (.cells #[.int .i64 0, .int .i64 0, .int .i64 0, .int .i64 0] 79)) (w.heap.size + 1) [0, 0, 0, 0] := ⟨rfl, hal_new (by simp)⟩
  have K2 := Lib.hid k2
  have E0 := Lib.hid e0
  have E1 := Lib.hid e1
  clear h k2 e0 e1
  go_enter Try.func80, Try.ntmps80
  go_wp2_with fail
  obtain ⟨V, hV⟩ : ∃ V, (w.alloc (.cells #[.int .i64 0, .int .i64 0, .int .i64 0, .int .i64 0] 79)).alloc (.cells #[.int .i64 0, .int .i64 0, .int .i64 0, .int .i64 0] 79) = V := ⟨_, rfl⟩
  obtain ⟨Z, hZ⟩ : ∃ Z, w.heap.size = Z := ⟨_, rfl⟩
  have HZ := Lib.hid hZ
  have k2 := K2.out
  have e0 := E0.out
  have e1 := E1.out
  rw [hV] at k2 e0 e1 ⊢
  rw [hZ] at e0 e1 ⊢
  replace K2 := Lib.hid k2
  replace E0 := Lib.hid e0
  replace E1 := Lib.hid e1
  clear hV hZ k2 e0 e1 c1
  go_loopw [4, 5, 11] (fun x y i wr => ∃ k : Nat, k ≤ m ∧ i = .int .i64 (k : Int) ∧ Hid (RowP wr (Z + 1) (whK L k) ∧ Keeps (fun k => k = Z + 1) V wr)) (fun x y i _ => m - (intOf i).toNat)
  case atStart => exact ⟨0, Nat.zero_le _, rfl, Lib.hid ⟨E1.out, Keeps.refl _ _⟩⟩
  case round =>
    obtain ⟨k, hk, rfl, HI⟩ := hrel
    have hbw : Below w.heap.size w wr := by
      have h1 := HZ.out
      exact ((K2.out.none (Mut := fun k => k = Z + 1)).trans HI.out.2).below (Nat.le_refl _) (fun k hk e => by omega)
    by_cases hlt : k < m
    · have hbo := HB.out.below hbw (Nat.le_refl _)
      obtain ⟨b, o, rfl, hc⟩ := hbo.lns.2 (by omega)
      obtain ⟨C, c, x0, -, -⟩ := hc k hlt
      have hrow := HI.out.1
      have hput := hrow.put k ((lAt L k).length : Int)
      rw [← whK_succ] at hput
      have z0 := hrow.cell (j := k) (by omega)
      have zf := hrow.fz k
      have hks := keeps_setCell wr (Z + 1) k (.int .i64 ((lAt L k).length : Int))
      obtain ⟨ll, hll⟩ : ∃ ll, (lAt L k).length = ll := ⟨_, rfl⟩
      rw [hll] at x0 hput hks
      have HN := Lib.hid (show RowP (wr.setCell ⟨Z + 1, k, none⟩ (.int .i64 (ll : Int))) (Z + 1) (whK L (k + 1)) ∧ Keeps (fun k => k = Z + 1) V (wr.setCell ⟨Z + 1, k, none⟩ (.int .i64 (ll : Int))) from ⟨hput, HI.out.2.trans hks⟩)
      have i0 : (0 : Int) ≤ (k : Int) := by omega
      have i1 : (k : Int) < (m : Int) := by omega
      have i2 : (k : Int) < 4 := by omega
      clear hbo hc hrow hput hks hll HI hbw
      go_wp2_with fail
      go_roundw
      case rel => exact ⟨k + 1, by omega, by go_num, HN⟩
      case measure => simp [intOf]; omega
    · obtain rfl : k = m := by omega
      obtain ⟨hrow, hkk⟩ := HI.out
      have x0 := hrow.cell (j := 0) (by omega)
      have x1 := hrow.cell (j := 1) (by omega)
      have x2 := hrow.cell (j := 2) (by omega)
      have x3 := hrow.cell (j := 3) (by omega)
      have hz := E0.out.keep hkk (by omega)
      have z0 := hz.cell (j := 0) (by omega)
      have z1 := hz.cell (j := 1) (by omega)
      have z2 := hz.cell (j := 2) (by omega)
      have z3 := hz.cell (j := 3) (by omega)
      have f0 := hz.fz 0
      have f1 := hz.fz 1
      have f2 := hz.fz 2
      have f3 := hz.fz 3
      have HHz := Lib.hid hz
      have Hbw := Lib.hid hbw
      have HWl := Lib.hid hrow.1
      clear hrow hkk HI hz hbw
      go_wp2_with fail
      refine bodyPost_ret (v := plA (whK L k)) (res_place Try.results80 (by rfl) (HHz.out.put4 HWl.out)) rfl ?_
      exact ⟨rfl, Hbw.out.trans ((keeps_put4 wr Z _ _ _ _).below Hbw.out.size (fun k hk e => by have := HZ.out; omega))⟩
set_option maxRecDepth 100000 in
set_option maxHeartbeats 8000000 in
theorem turn91 (B D : Nat) (A : Option Addr) (n cap : Nat) (nm : List Int) (M : Nat) (A2 : Option Addr) (m cap2 : Nat) (L : List (List Int)) (w : World)
    (h : Bo w B D A n cap nm M A2 m cap2 L) (hm : m ≤ 4) (hm1 : 1 ≤ m) (h8 : ∀ j, j < m → (lAt L j).length ≤ 8) (p : List Int) (hp : p.length = 4) (hb : ∀ j, j < m → -1 ≤ iAt p j ∧ iAt p j ≤ 8) :
    Calls Try.prog 91 #[.pointer (some ⟨B, 0, none⟩), plA p] w fun e w' => e = .returned (plA (trK L p m)) ∧ Below w.heap.size w w' := by
  have HB := Lib.hid h
  have k2 : Keeps (fun _ => False) w ((w.alloc (.cells #[.int .i64 (iAt p 0), .int .i64 (iAt p 1), .int .i64 (iAt p 2), .int .i64 (iAt p 3)] 79)).alloc (.cells #[.int .i64 0, .int .i64 0, .int .i64 0, .int .i64 0] 79)) := (keep_alloc _ _ _).trans (keep_alloc _ _ _)
  have c1 := (h.below k2.new (Nat.le_refl _)).c1
  have e1 : RowP ((w.alloc (.cells #[.int .i64 (iAt p 0), .int .i64 (iAt p 1), .int .i64 (iAt p 2), .int .i64 (iAt p 3)] 79)).alloc (.cells #[.int .i64 0, .int .i64 0, .int .i64 0, .int .i64 0] 79)) w.heap.size p := ⟨hp, by rw [flat4 hp]; exact hal_old (heap_alloc_new_ _ _)⟩
  have e0 : RowP ((w.alloc (.cells #[.int .i64 (iAt p 0), .int .i64 (iAt p 1), .int .i64 (iAt p 2), .int .i64 (iAt p 3)] 79)).alloc (.cells #[.int .i64 0, .int .i64 0, .int .i64 0, .int .i64 0] 79)) (w.heap.size + 1) [0, 0, 0, 0] := ⟨rfl, hal_new (by simp)⟩
  have K2 := Lib.hid k2
  have E0 := Lib.hid e0
  have E1 := Lib.hid e1
  clear h k2 e0 e1
  unfold plA
  go_enter Try.func91, Try.ntmps91
  go_wp2_with fail
  obtain ⟨V, hV⟩ : ∃ V, (w.alloc (.cells #[.int .i64 (iAt p 0), .int .i64 (iAt p 1), .int .i64 (iAt p 2), .int .i64 (iAt p 3)] 79)).alloc (.cells #[.int .i64 0, .int .i64 0, .int .i64 0, .int .i64 0] 79) = V := ⟨_, rfl⟩
  obtain ⟨Z, hZ⟩ : ∃ Z, w.heap.size = Z := ⟨_, rfl⟩
  have HZ := Lib.hid hZ
  have k2 := K2.out
  have e0 := E0.out
  have e1 := E1.out
  rw [hV] at k2 e0 e1 ⊢
  rw [hZ] at e0 e1 ⊢
  replace K2 := Lib.hid k2
  replace E0 := Lib.hid e0
  replace E1 := Lib.hid e1
  clear hV hZ k2 e0 e1 c1
  go_loopw [5, 6, 12] (fun x y i wr => ∃ k : Nat, k ≤ m ∧ i = .int .i64 (k : Int) ∧ Hid (RowP wr Z (trK L p k) ∧ Keeps (fun k => k = Z) V wr)) (fun x y i _ => m - (intOf i).toNat)
  case atStart => exact ⟨0, Nat.zero_le _, rfl, Lib.hid ⟨E1.out, Keeps.refl _ _⟩⟩
  case round =>
    obtain ⟨k, hk, rfl, HI⟩ := hrel
    have hbw : Below w.heap.size w wr := by
      have h1 := HZ.out
      exact ((K2.out.none (Mut := fun k => k = Z)).trans HI.out.2).below (Nat.le_refl _) (fun k hk e => by omega)
    by_cases hlt : k < m
    · have hbo := HB.out.below hbw (Nat.le_refl _)
      obtain ⟨b, o, rfl, hc⟩ := hbo.lns.2 (by omega)
      obtain ⟨C, c, x0, -, -⟩ := hc k hlt
      have hrow := HI.out.1
      have hput := hrow.put k (((lAt L k).length : Int) - 1 - iAt p k)
      rw [← trK_succ] at hput
      have hl8 := h8 k hlt
      obtain ⟨hb1, hb2⟩ := hb k hlt
      have z0 := hrow.cell (j := k) (by omega)
      rw [trK_later L p k k (Nat.le_refl _)] at z0
      obtain ⟨pv, hpv⟩ : ∃ pv, iAt p k = pv := ⟨_, rfl⟩
      have zf := hrow.fz k
      have hks := keeps_setCell wr Z k (.int .i64 (((lAt L k).length : Int) - 1 - iAt p k))
      obtain ⟨ll, hll⟩ : ∃ ll, (lAt L k).length = ll := ⟨_, rfl⟩
      rw [hll] at x0 hput hks hl8
      rw [hpv] at z0 hput hks hb1 hb2
      have HN := Lib.hid (show RowP (wr.setCell ⟨Z, k, none⟩ (.int .i64 ((ll : Int) - 1 - pv))) Z (trK L p (k + 1)) ∧ Keeps (fun k => k = Z) V (wr.setCell ⟨Z, k, none⟩ (.int .i64 ((ll : Int) - 1 - pv))) from ⟨hput, HI.out.2.trans hks⟩)
      have i0 : (0 : Int) ≤ (k : Int) := by omega
      have i1 : (k : Int) < (m : Int) := by omega
      have i2 : (k : Int) < 4 := by omega
      have q0 : (0 : Int) ≤ (ll : Int) := by omega
      have q8 : (ll : Int) ≤ 8 := by omega
      clear hbo hc hrow hput hks hll HI hbw hpv hl8
      go_wp2_with fail
      go_roundw
      case rel => exact ⟨k + 1, by omega, by go_num, HN⟩
      case measure => simp [intOf]; omega
    · obtain rfl : k = m := by omega
      obtain ⟨hrow, hkk⟩ := HI.out
      have x0 := hrow.cell (j := 0) (by omega)
      have x1 := hrow.cell (j := 1) (by omega)
      have x2 := hrow.cell (j := 2) (by omega)
      have x3 := hrow.cell (j := 3) (by omega)
      have hz := E0.out.keep hkk (by omega)
      have z0 := hz.cell (j := 0) (by omega)
      have z1 := hz.cell (j := 1) (by omega)
      have z2 := hz.cell (j := 2) (by omega)
      have z3 := hz.cell (j := 3) (by omega)
      have f0 := hz.fz 0
      have f1 := hz.fz 1
      have f2 := hz.fz 2
      have f3 := hz.fz 3
      have HHz := Lib.hid hz
      have Hbw := Lib.hid hbw
      have HWl := Lib.hid hrow.1
      clear hrow hkk HI hz hbw
      go_wp2_with fail
      refine bodyPost_ret (v := plA (trK L p k)) (res_place Try.results91 (by rfl) (HHz.out.put4 HWl.out)) rfl ?_
      exact ⟨rfl, Hbw.out.trans ((keeps_put4 wr (Z + 1) _ _ _ _).below Hbw.out.size (fun k hk e => by have := HZ.out; omega))⟩
end Go.Proofs.Ythdjbapidodlfaa

namespace Go.Proofs.Ythdjbapidodlfaa
set_option linter.unusedSimpArgs false
set_option linter.unusedVariables false
open Go.RowKit Go.Shelf
attribute [local go_sem ↓] exec_app at_app
attribute [local go_sem] Oper.semAt_some

def lvF (m : Nat) (l : List (List Int)) (out : List Int) (i : Nat) (n : Int) (k : Nat) : Int := if befB (lAt l k) (lAt l i) m = true then max n (iAt out k + 1) else n
/-- One more than the greatest level of the first k matches that come before the match i. -/
def lvN (m : Nat) (l : List (List Int)) (out : List Int) (i k : Nat) : Int := (List.range k).foldl (lvF m l out i) 1
theorem lvN_succ (m : Nat) (l : List (List Int)) (out : List Int) (i k : Nat) : lvN m l out i (k + 1) = lvF m l out i (lvN m l out i k) k := by simp [lvN, List.range_succ, List.foldl_append]
/-- The levels of the first k matches. -/
def lvL (m : Nat) (l : List (List Int)) : Nat → List Int
  | 0 => []
  | k + 1 => lvL m l k ++ [lvN m l (lvL m l k) k k]
theorem lvL_len (m : Nat) (l : List (List Int)) (k : Nat) : (lvL m l k).length = k := by
  induction k with
  | zero => rfl
  | succ k ih => simp [lvL, ih]
theorem lvN_le {m : Nat} {l : List (List Int)} {out : List Int} {i : Nat} {b : Int} (hb : 0 ≤ b) (h : ∀ j, iAt out j ≤ b) (k : Nat) : 1 ≤ lvN m l out i k ∧ lvN m l out i k ≤ b + 1 := by
  induction k with
  | zero => exact ⟨Int.le_refl _, by show (1 : Int) ≤ b + 1; omega⟩
  | succ k ih =>
    rw [lvN_succ]
    unfold lvF
    have := h k
    split <;> omega
theorem lvL_le (m : Nat) (l : List (List Int)) (k : Nat) : ∀ j, 0 ≤ iAt (lvL m l k) j ∧ iAt (lvL m l k) j ≤ (k : Int) := by
  induction k with
  | zero => intro j; simp [lvL, iAt]
  | succ k ih =>
    intro j
    have h1 := (lvN_le (m := m) (l := l) (out := lvL m l k) (i := k) (b := (k : Int)) (by omega) (fun j => (ih j).2) k)
    rcases Nat.lt_or_ge j k with hj | hj
    · have := ih j
      unfold iAt at this ⊢
      rw [lvL, List.getD_eq_getElem?_getD, List.getElem?_append_left (by rw [lvL_len]; exact hj), ← List.getD_eq_getElem?_getD]
      omega
    · unfold iAt
      rw [lvL, List.getD_eq_getElem?_getD, List.getElem?_append_right (by rw [lvL_len]; exact hj), lvL_len]
      rcases Nat.eq_or_lt_of_le hj with e | e
      · rw [← e, Nat.sub_self]
        simp only [List.getElem?_cons_zero, Option.getD_some]
        omega
      · rw [List.getElem?_eq_none (by simp; omega)]
        simp only [Option.getD_none]
        omega
set_option maxRecDepth 100000 in
set_option maxHeartbeats 8000000 in
theorem levels60 (A : Option Addr) (N c : Nat) (l : List (List Int)) (m : Nat) (w : World) (h : Lns w A N l) (hl : ∀ j, j < N → (lAt l j).length = m) (hN : N ≤ 5000) (hm : m ≤ 4) :
    Calls Try.prog 60 #[.slice A N c] w fun e w' => ∃ C cap, e = .returned (.slice C N cap) ∧ Ints w' C N (lvL m l N) ∧ N ≤ cap ∧ Below w.heap.size w w' := by
  have H := Lib.hid h
  have Hl := Lib.hid hl
  clear h hl
  go_enter Try.func60, Try.ntmps60
  go_wp2_with fail
  go_loopw [3, 4, 5, 6] (fun v i x y wr => ∃ k : Nat, k ≤ N ∧ i = .int .i64 (k : Int) ∧ Hid (wr.ownsRow 0 3 1 v k (flatI (lvL m l k)) ∧ (∀ g, v.ownBlock = some g → w.heap.size ≤ g ∧ g < wr.heap.size) ∧ Below w.heap.size w wr)) (fun v i x y _ => N - (intOf i).toNat)
  case atStart => exact ⟨0, Nat.zero_le _, rfl, Lib.hid ⟨⟨rfl, .inl ⟨rfl, rfl⟩⟩, fun g e => (by cases e), Below.refl _ _⟩⟩
  case round =>
    obtain ⟨k, hk, rfl, HI⟩ := hrel
    obtain ⟨wq, rfl⟩ : ∃ wq, wq = wr := ⟨_, rfl⟩
    by_cases hlt : k < N
    · obtain ⟨ho, hob, hbl⟩ := HI.out
      obtain ⟨b, o, rfl, hc⟩ := H.out.2 (by omega)
      obtain ⟨Cb, cb, b0, bI, -⟩ := hc k hlt
      rw [Hl.out k hlt] at b0 bI
      have Hc := Lib.hid hc
      have HB0 := Lib.hid ((hbl.cell (p := ⟨b, o + k, none⟩) (lt_of_cell b0)).trans b0)
      have HBI := Lib.hid (bI.below hbl (Nat.le_refl _))
      obtain ⟨C, cap, hve, hcap, hi, hC⟩ := ints_own (lvL_len m l k) ho
      have HIn := Lib.hid hi
      have HO := Lib.hid ho
      have HOb := Lib.hid hob
      have HBl := Lib.hid hbl
      have HLe := Lib.hid (lvL_le m l k)
      obtain ⟨out, hout⟩ : ∃ out, lvL m l k = out := ⟨_, rfl⟩
      have Hnx := Lib.hid (show lvL m l (k + 1) = out ++ [lvN m l out k k] by rw [← hout]; rfl)
      rw [hout] at HIn HO HLe
      have i0 : (0 : Int) ≤ (k : Int) := by omega
      have i1 : (k : Int) < (N : Int) := by omega
      clear hc b0 bI hi ho hob hbl hout hC HI
      subst hve
      go_wp2_with fail
      go_loopw [5, 6] (fun x y wr => ∃ j : Nat, j ≤ k ∧ y = .int .i64 (j : Int) ∧ x = .int .i64 (lvN m l out k j) ∧ Hid (Below wq.heap.size wq wr)) (fun x y _ => k - (intOf y).toNat)
      case atStart => exact ⟨0, Nat.zero_le _, rfl, rfl, Lib.hid (Below.refl _ _)⟩
      case round =>
        obtain ⟨j, hj, rfl, rfl, HBj⟩ := hrel
        obtain ⟨wj, rfl⟩ : ∃ wj, wj = wr := ⟨_, rfl⟩
        by_cases hjl : j < k
        · obtain ⟨Ca, ca, a0, aI, -⟩ := Hc.out j (by omega)
          rw [Hl.out j (by omega)] at a0 aI
          have hbw := HBl.out.trans (HBj.out.mono HBl.out.size)
          replace a0 := (hbw.cell (p := ⟨b, o + j, none⟩) (lt_of_cell a0)).trans a0
          have b0 := (HBj.out.cell (p := ⟨b, o + k, none⟩) (lt_of_cell HB0.out)).trans HB0.out
          have HA := Lib.hid (aI.below hbw (Nat.le_refl _))
          have HBq := Lib.hid (HBI.out.below HBj.out (Nat.le_refl _))
          obtain ⟨bo, oo, rfl, hco⟩ := HIn.out.2 (by omega)
          have x0 := (HBj.out.cell (p := ⟨bo, oo + j, none⟩) (lt_of_cell (hco j hjl))).trans (hco j hjl)
          have Hs := Lib.hid (lvN_succ m l out k j)
          obtain ⟨la, hla⟩ : ∃ la, lAt l j = la := ⟨_, rfl⟩
          obtain ⟨lb, hlb⟩ : ∃ lb, lAt l k = lb := ⟨_, rfl⟩
          have hle := HLe.out j
          have hnb := lvN_le (m := m) (l := l) (out := out) (i := k) (b := (k : Int)) (by omega) (fun j => (HLe.out j).2) j
          obtain ⟨nv, hnv⟩ : ∃ nv, lvN m l out k j = nv := ⟨_, rfl⟩
          obtain ⟨xv, hxv⟩ : ∃ xv, iAt out j = xv := ⟨_, rfl⟩
          unfold lvF at Hs
          rw [hla, hlb, hnv, hxv] at Hs
          rw [hla] at HA
          rw [hlb] at HBq
          rw [hxv] at x0 hle
          rw [hnv] at hnb ⊢
          obtain ⟨hn1, hn2⟩ := hnb
          have j0 : (0 : Int) ≤ (j : Int) := by omega
          have j1 : (j : Int) < (k : Int) := by omega
          have j2 : (j : Int) < (N : Int) := by omega
          have k5 : (k : Int) ≤ 5000 := by omega
          have hx5 : xv ≤ 5000 := by omega
          have hx0 : 0 ≤ xv := hle.1
          clear hbw aI hco hla hlb hnv hxv hn1 hn2 hle
          cases hbb : befB la lb m with
          | true =>
            have HBe := Lib.hid hbb
            rw [hbb, if_pos rfl] at Hs
            clear hbb
            have HBj2 := HBj
            go_wp2_with fail
            refine wp_region_held_drew (S := fun w2 => Below wj.heap.size wj w2) (by kernel_rfl) (drew_b _ _) (fun hS0 => ?_)
            refine wpAnyH_take (i := 0) (oi := { dst := some 18, op := Go.Op.move (Go.Operand.tmp 0), type := 31, pos := "ref.go:154", after := #[], guard := none }) (v := .slice (some ⟨b, o, none⟩) N c) rfl (by kernel_rfl) (by kernel_rfl) (by kernel_rfl) (fun _ _ _ h => h) (Or.inl ⟨by rfl, by intro w2 hSw; (try dsimp only at hSw); go_simp⟩) hS0 ?_
            try simp only [Act.put, List.setIfInBounds_toArray, List.set_cons_zero, List.set_cons_succ]
            refine wpAnyH_take (i := 1) (oi := { dst := some 19, op := Go.Op.move (Go.Operand.tmp 6), type := 3, pos := "ref.go:154", after := #[], guard := none }) (v := .int .i64 (j : Int)) rfl (by kernel_rfl) (by kernel_rfl) (by kernel_rfl) (fun _ _ _ h => h) (Or.inl ⟨by rfl, by intro w2 hSw; (try dsimp only at hSw); go_simp⟩) hS0 ?_
            try simp only [Act.put, List.setIfInBounds_toArray, List.set_cons_zero, List.set_cons_succ]
            refine wpAnyH_take (i := 2) (oi := { dst := some 20, op := Go.Op.indexAddr 31 (Go.Operand.tmp 18) (Go.Operand.tmp 19), type := 0, pos := "ref.go:154", after := #[{ on := 0, ground := Go.Ground.data }, { on := 1, ground := Go.Ground.data }], guard := none }) (v := .pointer (some ⟨b, o + j, none⟩)) rfl (by kernel_rfl) (by kernel_rfl) (by kernel_rfl) (fun _ _ _ h => h) (Or.inl ⟨by rfl, by intro w2 hSw; (try dsimp only at hSw); go_simp⟩) hS0 ?_
            try simp only [Act.put, List.setIfInBounds_toArray, List.set_cons_zero, List.set_cons_succ]
            refine wpAnyH_take (i := 3) (oi := { dst := some 21, op := Go.Op.load 40 (Go.Operand.tmp 20), type := 40, pos := "ref.go:154", after := #[{ on := 2, ground := Go.Ground.data }], guard := none }) (v := .slice Ca m ca) rfl (by kernel_rfl) (by kernel_rfl) (by kernel_rfl) (fun _ _ _ h => h) (Or.inl ⟨by rfl, by intro w2 hSw; (try dsimp only at hSw); have y0 := (hSw.cell (p := _) (lt_of_cell a0)).trans a0; go_simp⟩) hS0 ?_
            try simp only [Act.put, List.setIfInBounds_toArray, List.set_cons_zero, List.set_cons_succ]
            refine wpAnyH_take (i := 4) (oi := { dst := some 22, op := Go.Op.move (Go.Operand.tmp 0), type := 31, pos := "ref.go:154", after := #[], guard := none }) (v := .slice (some ⟨b, o, none⟩) N c) rfl (by kernel_rfl) (by kernel_rfl) (by kernel_rfl) (fun _ _ _ h => h) (Or.inl ⟨by rfl, by intro w2 hSw; (try dsimp only at hSw); go_simp⟩) hS0 ?_
            try simp only [Act.put, List.setIfInBounds_toArray, List.set_cons_zero, List.set_cons_succ]
            refine wpAnyH_take (i := 5) (oi := { dst := some 23, op := Go.Op.move (Go.Operand.tmp 4), type := 3, pos := "ref.go:154", after := #[], guard := none }) (v := .int .i64 (k : Int)) rfl (by kernel_rfl) (by kernel_rfl) (by kernel_rfl) (fun _ _ _ h => h) (Or.inl ⟨by rfl, by intro w2 hSw; (try dsimp only at hSw); go_simp⟩) hS0 ?_
            try simp only [Act.put, List.setIfInBounds_toArray, List.set_cons_zero, List.set_cons_succ]
            refine wpAnyH_take (i := 6) (oi := { dst := some 24, op := Go.Op.indexAddr 31 (Go.Operand.tmp 22) (Go.Operand.tmp 23), type := 0, pos := "ref.go:154", after := #[{ on := 4, ground := Go.Ground.data }, { on := 5, ground := Go.Ground.data }], guard := none }) (v := .pointer (some ⟨b, o + k, none⟩)) rfl (by kernel_rfl) (by kernel_rfl) (by kernel_rfl) (fun _ _ _ h => h) (Or.inl ⟨by rfl, by intro w2 hSw; (try dsimp only at hSw); go_simp⟩) hS0 ?_
            try simp only [Act.put, List.setIfInBounds_toArray, List.set_cons_zero, List.set_cons_succ]
            refine wpAnyH_take (i := 7) (oi := { dst := some 25, op := Go.Op.load 40 (Go.Operand.tmp 24), type := 40, pos := "ref.go:154", after := #[{ on := 6, ground := Go.Ground.data }], guard := none }) (v := .slice Cb m cb) rfl (by kernel_rfl) (by kernel_rfl) (by kernel_rfl) (fun _ _ _ h => h) (Or.inl ⟨by rfl, by intro w2 hSw; (try dsimp only at hSw); have y0 := (hSw.cell (p := _) (lt_of_cell b0)).trans b0; go_simp⟩) hS0 ?_
            try simp only [Act.put, List.setIfInBounds_toArray, List.set_cons_zero, List.set_cons_succ]
            refine wpAnyH_ready (rs := [8]) (by kernel_rfl) (by simp) ?_
            refine AllReadyH.cons (o := { dst := some 26, op := Go.Op.call { callee := Go.Callee.value (Go.Operand.func 63), args := #[Go.Operand.tmp 21, Go.Operand.tmp 25], argTypes := #[40, 40] }, type := 4, pos := "ref.go:154", after := #[{ on := 3, ground := Go.Ground.data }, { on := 7, ground := Go.Ground.data }], guard := none }) rfl (fun K hK => ?_) AllReadyH.nil
            go_simp
            have key := before63 Ca m ca la Cb m cb lb _ (HA.out.below hS0 (Nat.le_refl _)) (HBq.out.below hS0 (Nat.le_refl _)) (Nat.le_refl _) (by omega)
            rw [HBe.out] at key
            refine key.mono ?_
            rintro e9 V9 ⟨rfl, hV9⟩
            try go_simp
            refine hK.out _ _ (hS0.trans (hV9.mono hS0.size)) (fun hS1 => ?_)
            clear hK
            try simp only [Act.put, List.setIfInBounds_toArray, List.set_cons_zero, List.set_cons_succ]
            refine wpAnyH_done (by kernel_rfl) ?_ _
            have HB3 := Lib.hid (HBj2.out.trans (hS1.mono HBj2.out.size))
            have x1 := (hS1.cell (p := ⟨bo, oo + j, none⟩) (lt_of_cell x0)).trans x0
            go_wp2_with fail
            go_roundw
            case rel => exact ⟨j + 1, by omega, by go_num, by
              rw [Hs.out]
              congr 1
              by_cases hc : nv < xv + 1
              · rw [if_pos hc, Int.max_def, if_pos (by omega)]
              · rw [if_neg hc, Int.max_def]
                split <;> omega, HB3⟩
            case measure => simp [intOf]; omega
          | false =>
            have HBe := Lib.hid hbb
            rw [hbb, if_neg (by simp)] at Hs
            clear hbb
            have HBj2 := HBj
            go_wp2_with fail
            refine wp_region_held_drew (S := fun w2 => Below wj.heap.size wj w2) (by kernel_rfl) (drew_b _ _) (fun hS0 => ?_)
            refine wpAnyH_take (i := 0) (oi := { dst := some 18, op := Go.Op.move (Go.Operand.tmp 0), type := 31, pos := "ref.go:154", after := #[], guard := none }) (v := .slice (some ⟨b, o, none⟩) N c) rfl (by kernel_rfl) (by kernel_rfl) (by kernel_rfl) (fun _ _ _ h => h) (Or.inl ⟨by rfl, by intro w2 hSw; (try dsimp only at hSw); go_simp⟩) hS0 ?_
            try simp only [Act.put, List.setIfInBounds_toArray, List.set_cons_zero, List.set_cons_succ]
            refine wpAnyH_take (i := 1) (oi := { dst := some 19, op := Go.Op.move (Go.Operand.tmp 6), type := 3, pos := "ref.go:154", after := #[], guard := none }) (v := .int .i64 (j : Int)) rfl (by kernel_rfl) (by kernel_rfl) (by kernel_rfl) (fun _ _ _ h => h) (Or.inl ⟨by rfl, by intro w2 hSw; (try dsimp only at hSw); go_simp⟩) hS0 ?_
            try simp only [Act.put, List.setIfInBounds_toArray, List.set_cons_zero, List.set_cons_succ]
            refine wpAnyH_take (i := 2) (oi := { dst := some 20, op := Go.Op.indexAddr 31 (Go.Operand.tmp 18) (Go.Operand.tmp 19), type := 0, pos := "ref.go:154", after := #[{ on := 0, ground := Go.Ground.data }, { on := 1, ground := Go.Ground.data }], guard := none }) (v := .pointer (some ⟨b, o + j, none⟩)) rfl (by kernel_rfl) (by kernel_rfl) (by kernel_rfl) (fun _ _ _ h => h) (Or.inl ⟨by rfl, by intro w2 hSw; (try dsimp only at hSw); go_simp⟩) hS0 ?_
            try simp only [Act.put, List.setIfInBounds_toArray, List.set_cons_zero, List.set_cons_succ]
            refine wpAnyH_take (i := 3) (oi := { dst := some 21, op := Go.Op.load 40 (Go.Operand.tmp 20), type := 40, pos := "ref.go:154", after := #[{ on := 2, ground := Go.Ground.data }], guard := none }) (v := .slice Ca m ca) rfl (by kernel_rfl) (by kernel_rfl) (by kernel_rfl) (fun _ _ _ h => h) (Or.inl ⟨by rfl, by intro w2 hSw; (try dsimp only at hSw); have y0 := (hSw.cell (p := _) (lt_of_cell a0)).trans a0; go_simp⟩) hS0 ?_
            try simp only [Act.put, List.setIfInBounds_toArray, List.set_cons_zero, List.set_cons_succ]
            refine wpAnyH_take (i := 4) (oi := { dst := some 22, op := Go.Op.move (Go.Operand.tmp 0), type := 31, pos := "ref.go:154", after := #[], guard := none }) (v := .slice (some ⟨b, o, none⟩) N c) rfl (by kernel_rfl) (by kernel_rfl) (by kernel_rfl) (fun _ _ _ h => h) (Or.inl ⟨by rfl, by intro w2 hSw; (try dsimp only at hSw); go_simp⟩) hS0 ?_
            try simp only [Act.put, List.setIfInBounds_toArray, List.set_cons_zero, List.set_cons_succ]
            refine wpAnyH_take (i := 5) (oi := { dst := some 23, op := Go.Op.move (Go.Operand.tmp 4), type := 3, pos := "ref.go:154", after := #[], guard := none }) (v := .int .i64 (k : Int)) rfl (by kernel_rfl) (by kernel_rfl) (by kernel_rfl) (fun _ _ _ h => h) (Or.inl ⟨by rfl, by intro w2 hSw; (try dsimp only at hSw); go_simp⟩) hS0 ?_
            try simp only [Act.put, List.setIfInBounds_toArray, List.set_cons_zero, List.set_cons_succ]
            refine wpAnyH_take (i := 6) (oi := { dst := some 24, op := Go.Op.indexAddr 31 (Go.Operand.tmp 22) (Go.Operand.tmp 23), type := 0, pos := "ref.go:154", after := #[{ on := 4, ground := Go.Ground.data }, { on := 5, ground := Go.Ground.data }], guard := none }) (v := .pointer (some ⟨b, o + k, none⟩)) rfl (by kernel_rfl) (by kernel_rfl) (by kernel_rfl) (fun _ _ _ h => h) (Or.inl ⟨by rfl, by intro w2 hSw; (try dsimp only at hSw); go_simp⟩) hS0 ?_
            try simp only [Act.put, List.setIfInBounds_toArray, List.set_cons_zero, List.set_cons_succ]
            refine wpAnyH_take (i := 7) (oi := { dst := some 25, op := Go.Op.load 40 (Go.Operand.tmp 24), type := 40, pos := "ref.go:154", after := #[{ on := 6, ground := Go.Ground.data }], guard := none }) (v := .slice Cb m cb) rfl (by kernel_rfl) (by kernel_rfl) (by kernel_rfl) (fun _ _ _ h => h) (Or.inl ⟨by rfl, by intro w2 hSw; (try dsimp only at hSw); have y0 := (hSw.cell (p := _) (lt_of_cell b0)).trans b0; go_simp⟩) hS0 ?_
            try simp only [Act.put, List.setIfInBounds_toArray, List.set_cons_zero, List.set_cons_succ]
            refine wpAnyH_ready (rs := [8]) (by kernel_rfl) (by simp) ?_
            refine AllReadyH.cons (o := { dst := some 26, op := Go.Op.call { callee := Go.Callee.value (Go.Operand.func 63), args := #[Go.Operand.tmp 21, Go.Operand.tmp 25], argTypes := #[40, 40] }, type := 4, pos := "ref.go:154", after := #[{ on := 3, ground := Go.Ground.data }, { on := 7, ground := Go.Ground.data }], guard := none }) rfl (fun K hK => ?_) AllReadyH.nil
            go_simp
            have key := before63 Ca m ca la Cb m cb lb _ (HA.out.below hS0 (Nat.le_refl _)) (HBq.out.below hS0 (Nat.le_refl _)) (Nat.le_refl _) (by omega)
            rw [HBe.out] at key
            refine key.mono ?_
            rintro e9 V9 ⟨rfl, hV9⟩
            try go_simp
            refine hK.out _ _ (hS0.trans (hV9.mono hS0.size)) (fun hS1 => ?_)
            clear hK
            try simp only [Act.put, List.setIfInBounds_toArray, List.set_cons_zero, List.set_cons_succ]
            refine wpAnyH_done (by kernel_rfl) ?_ _
            have HB3 := Lib.hid (HBj2.out.trans (hS1.mono HBj2.out.size))
            go_wp2_with fail
            go_roundw
            case rel => exact ⟨j + 1, by omega, by go_num, by rw [Hs.out], HB3⟩
            case measure => simp [intOf]; omega
        · obtain rfl : j = k := by omega
          obtain ⟨nv, hnv⟩ : ∃ nv, lvN m l out j j = nv := ⟨_, rfl⟩
          rw [hnv] at Hnx ⊢
          have hbz := below_alloc_ wj (.cells #[.int .i64 nv] 3)
          have hz := heap_alloc_new_ wj (.cells #[.int .i64 nv] 3)
          have ho2 := (own_keep (Mut := fun _ => False) HO.out ((Keeps.of_new HBj.out).trans (Keeps.of_new hbz)) (fun _ _ e => e))
          obtain ⟨v', W3, hrun, hown3, hK3, hv3⟩ := app_one (n := j) Try.underlying38 info3_ rfl (by omega) (by omega) ho2 (vals := [.int .i64 nv]) rfl hz (by simp [Value.oneCell']) (by omega)
          have HN := Lib.hid (show W3.ownsRow 0 3 1 v' (j + 1) (flatI (lvL m l (j + 1))) ∧ (∀ g, v'.ownBlock = some g → w.heap.size ≤ g ∧ g < W3.heap.size) ∧ Below w.heap.size w W3 from ⟨by rw [Hnx.out, flatI_snoc]; exact hown3, fun g e => by
            have h1 := HBj.out.size
            have h2 := hbz.size
            have h3 := hK3.size
            have h4 := HBl.out.size
            rcases hv3 with e' | ⟨e', e''⟩
            · rw [e'] at e; have := HOb.out g e; omega
            · rw [e'] at e; have := Option.some.inj e; omega,
            HBl.out.trans ((((Keeps.of_new (Mut := fun k => w.heap.size ≤ k) HBj.out).trans (Keeps.of_new hbz)).trans (hK3.mono (fun k _ e => (HOb.out k e).1))).below HBl.out.size (fun k hk e => by omega))⟩)
          replace hrun : runA Try.prog 38 (.slice C j cap) (.slice (some ⟨wj.heap.size, 0, none⟩) 1 1) (wj.alloc (.cells #[.int .i64 nv] 3)) = .ok (.value v') W3 := run_app hrun
          clear hbz hz ho2 hown3 hK3 hv3 hnv
          go_wp2_with fail
          try rw [hrun]
          try go_wp2_with fail
          go_roundw
          case rel => exact ⟨j + 1, by omega, by go_num, HN⟩
          case measure => simp [intOf]; omega
    · obtain rfl : k = N := by omega
      obtain ⟨ho, hob, hbl⟩ := HI.out
      obtain ⟨C, cap, rfl, hcap, hi, hC⟩ := ints_own (lvL_len m l k) ho
      have HI2 := Lib.hid hi
      have HBl := Lib.hid hbl
      clear ho hob hbl hi hC HI
      go_wp2_with fail
      go_ret
      exact ⟨C, cap, rfl, HI2.out, hcap, HBl.out⟩
end Go.Proofs.Ythdjbapidodlfaa

namespace Go.Proofs.Ythdjbapidodlfaa
set_option linter.unusedSimpArgs false
set_option linter.unusedVariables false
open Go.RowKit Go.Shelf
attribute [local go_sem ↓] exec_app at_app
attribute [local go_sem] Oper.semAt_some

def hasB (l : List (List Int)) (q : List Int) : Bool := l.any fun x => decide (x = q)
def nonK (l : List (List Int)) (q : List Int) (k : Nat) : Bool := (l.take k).all fun x => !decide (x = q)
theorem hasB_non {l : List (List Int)} {q : List Int} (h : nonK l q l.length = true) : hasB l q = false := by
  unfold nonK at h
  rw [List.take_of_length_le (Nat.le_refl _)] at h
  unfold hasB
  rw [List.any_eq_false]
  intro x hx
  have := List.all_eq_true.1 h x hx
  simpa using this
theorem hasB_at {l : List (List Int)} {q : List Int} {k : Nat} (hk : k < l.length) (h : lAt l k = q) : hasB l q = true := by
  unfold hasB
  rw [List.any_eq_true]
  exact ⟨l[k], List.getElem_mem hk, by rw [lAt_eq hk] at h; simpa using h⟩
set_option maxRecDepth 100000 in
set_option maxHeartbeats 8000000 in
theorem has42 (A : Option Addr) (N c : Nat) (l : List (List Int)) (A2 : Option Addr) (n2 c2 : Nat) (q : List Int) (w : World) (h : Lns w A N l) (hq : Ints w A2 n2 q) (hl : ∀ j, j < N → (lAt l j).length ≤ 1000) (hN : N ≤ 100000) :
    Calls Try.prog 42 #[.slice A N c, .slice A2 n2 c2] w fun e w' => e = .returned (.bool (hasB l q)) ∧ Below w.heap.size w w' := by
  have H := Lib.hid h
  have HQ := Lib.hid hq
  have Hl := Lib.hid hl
  have HNl := Lib.hid h.1
  clear h hq hl
  go_enter Try.func42, Try.ntmps42
  go_wp2_with fail
  go_loopw [5] (fun i wr => ∃ k : Nat, k ≤ N ∧ i = .int .i64 (k : Int) ∧ Hid (nonK l q k = true) ∧ Hid (Below w.heap.size w wr)) (fun i _ => N - (intOf i).toNat)
  case atStart => exact ⟨0, Nat.zero_le _, rfl, Lib.hid rfl, Lib.hid (Below.refl _ _)⟩
  case round =>
    obtain ⟨k, hk, rfl, HT, HBl⟩ := hrel
    by_cases hlt : k < N
    · obtain ⟨b, o, rfl, hc⟩ := H.out.2 (by omega)
      obtain ⟨C, cq, x0, xI, -⟩ := hc k hlt
      have hle := Hl.out k hlt
      replace x0 := (HBl.out.cell (p := ⟨b, o + k, none⟩) (lt_of_cell x0)).trans x0
      have hkl : k < l.length := by have := HNl.out; omega
      have Hs := Lib.hid (all_take (fun x => !decide (x = q)) l k [] hkl)
      have key := same57 C (lAt l k).length cq (lAt l k) A2 n2 c2 q wr (xI.below HBl.out (Nat.le_refl _)) (HQ.out.below HBl.out (Nat.le_refl _)) hle
      have Hat := Lib.hid (fun e => hasB_at (q := q) hkl e)
      have Hnn := Lib.hid (show nonK l q (k + 1) = (nonK l q k && !decide (lAt l k = q)) from Hs.out)
      obtain ⟨x, hx⟩ : ∃ x, lAt l k = x := ⟨_, rfl⟩
      rw [hx] at x0 key Hat Hnn
      rw [HT.out, Bool.true_and] at Hnn
      obtain ⟨ll, hll⟩ : ∃ ll, x.length = ll := ⟨_, rfl⟩
      rw [hll] at x0 key
      have i0 : (0 : Int) ≤ (k : Int) := by omega
      have i1 : (k : Int) < (N : Int) := by omega
      clear hc xI hx hle hll HT Hs hkl
      by_cases hxq : x = q
      · rw [decide_eq_true hxq] at key
        have HC := Lib.hid (Hat.out hxq)
        clear hxq Hat Hnn
        go_wp2_with fail
        refine key.mono ?_
        rintro e V ⟨rfl, hV⟩
        have HBn := Lib.hid (HBl.out.trans (hV.mono HBl.out.size))
        clear hV key
        go_wp2_with fail
        go_ret
        exact ⟨by rw [HC.out]; rfl, HBn.out⟩
      · rw [decide_eq_false hxq] at key Hnn
        clear hxq Hat
        go_wp2_with fail
        refine key.mono ?_
        rintro e V ⟨rfl, hV⟩
        have HBn := Lib.hid (HBl.out.trans (hV.mono HBl.out.size))
        clear hV key
        go_wp2_with fail
        go_roundw
        case rel => exact ⟨k + 1, by omega, by go_num, Lib.hid Hnn.out, HBn⟩
        case measure => simp [intOf]; omega
    · obtain rfl : k = N := by omega
      have HC := Lib.hid (show hasB l q = false from hasB_non (by rw [HNl.out]; exact HT.out))
      clear HT
      go_wp2_with fail
      go_ret
      exact ⟨by rw [HC.out]; rfl, HBl.out⟩
end Go.Proofs.Ythdjbapidodlfaa

namespace Go.Proofs.Ythdjbapidodlfaa
set_option linter.unusedSimpArgs false
set_option linter.unusedVariables false
open Go.RowKit Go.Shelf
attribute [local go_sem ↓] exec_app at_app
attribute [local go_sem] Oper.semAt_some

/-- What is known: a level, and how many. -/
def knV (x : Int × Int) : Value := .agg #[.int .i64 x.1, .int .i64 x.2]
def orK (x y : Int × Int) : Int × Int := if y.1 < x.1 then x else if x.1 < y.1 then y else (x.1, x.2 + y.2)
def longK (x : Int × Int) : Int × Int := if x = (0, 0) then (1, 1) else (x.1 + 1, x.2)
theorem res_known {fn : Func} {pt : Tmp} (hf : fn.results = #[.cell pt 91]) {tmps : Array Value} {W : World} {Z : Nat} {a b : Int} (hz : tmps.getD pt undef = .pointer (some ⟨Z, 0, none⟩)) (h : W.heap[Z]? = some (.cells #[.int .i64 a, .int .i64 b] 91 (0, 0))) : (results fn tmps).run Try.prog W = .ok (knV (a, b)) W := by
  have z0 : W.cell? ⟨Z, 0, none⟩ = some (.int .i64 a) := by rw [cell_row h]; rfl
  have z1 : W.cell? ⟨Z, 1, none⟩ = some (.int .i64 b) := by rw [cell_row h]; rfl
  have hz' : tmps[pt]?.getD undef = .pointer (some ⟨Z, 0, none⟩) := by simpa using hz
  simp only [results, hf]
  simp [Sem.run_bind, hz', go_sem, z0, z1, knV]
set_option maxRecDepth 100000 in
set_option maxHeartbeats 8000000 in
theorem or88 (x y : Int × Int) (w : World) (hx : 0 ≤ x.2 ∧ x.2 ≤ 1000000000000) (hy : 0 ≤ y.2 ∧ y.2 ≤ 1000000000000) :
    Calls Try.prog 88 #[knV x, knV y] w fun e w' => e = .returned (knV (orK x y)) ∧ Below w.heap.size w w' := by
  obtain ⟨a, b⟩ := x
  obtain ⟨c, d⟩ := y
  dsimp only at hx hy
  obtain ⟨hx1, hx2⟩ := hx
  obtain ⟨hy1, hy2⟩ := hy
  have Fin := Lib.hid (fun (u v : Int) => (⟨hal_new (by simp), (((keep_alloc (fun _ => False) _ _).trans (keep_alloc _ _ _)).trans (keep_alloc _ _ _)).new⟩ : (((w.alloc (.cells #[.int .i64 a, .int .i64 b] 91)).alloc (.cells #[.int .i64 c, .int .i64 d] 91)).alloc (.cells #[.int .i64 u, .int .i64 v] 91)).heap[w.heap.size + 1 + 1]? = some (.cells #[.int .i64 u, .int .i64 v] 91 (0, 0)) ∧ Below w.heap.size w (((w.alloc (.cells #[.int .i64 a, .int .i64 b] 91)).alloc (.cells #[.int .i64 c, .int .i64 d] 91)).alloc (.cells #[.int .i64 u, .int .i64 v] 91))))
  unfold knV
  rcases Int.lt_trichotomy a c with hac | hac | hac
  · have HO := Lib.hid (show orK (a, b) (c, d) = (c, d) by unfold orK; rw [if_neg (by show ¬ c < a; omega), if_pos hac])
    have d1 : ¬ c < a := by omega
    go_enter Try.func88, Try.ntmps88
    go_wp2_with fail
    refine bodyPost_ret (v := knV (c, d)) (res_known Try.results88 (by rfl) (Fin.out c d).1) rfl ?_
    exact ⟨by rw [HO.out]; rfl, (Fin.out c d).2⟩
  · subst hac
    have HO := Lib.hid (show orK (a, b) (a, d) = (a, b + d) by unfold orK; rw [if_neg (by show ¬ a < a; omega), if_neg (by show ¬ a < a; omega)])
    go_enter Try.func88, Try.ntmps88
    go_wp2_with fail
    refine bodyPost_ret (v := knV (a, b + d)) (res_known Try.results88 (by rfl) (Fin.out a (b + d)).1) rfl ?_
    exact ⟨by rw [HO.out]; rfl, (Fin.out a (b + d)).2⟩
  · have HO := Lib.hid (show orK (a, b) (c, d) = (a, b) by unfold orK; rw [if_pos hac])
    go_enter Try.func88, Try.ntmps88
    go_wp2_with fail
    refine bodyPost_ret (v := knV (a, b)) (res_known Try.results88 (by rfl) (Fin.out a b).1) rfl ?_
    exact ⟨by rw [HO.out]; rfl, (Fin.out a b).2⟩
set_option maxRecDepth 100000 in
set_option maxHeartbeats 8000000 in
theorem longer79 (x : Int × Int) (w : World) (hx : 0 ≤ x.1 ∧ x.1 ≤ 1000000) :
    Calls Try.prog 79 #[knV x] w fun e w' => e = .returned (knV (longK x)) ∧ Below w.heap.size w w' := by
  obtain ⟨a, b⟩ := x
  dsimp only at hx
  obtain ⟨hx1, hx2⟩ := hx
  have Fin := Lib.hid (fun (u v : Int) => (⟨hal_new (by simp), ((keep_alloc (fun _ => False) _ _).trans (keep_alloc _ _ _)).new⟩ : ((w.alloc (.cells #[.int .i64 a, .int .i64 b] 91)).alloc (.cells #[.int .i64 u, .int .i64 v] 91)).heap[w.heap.size + 1]? = some (.cells #[.int .i64 u, .int .i64 v] 91 (0, 0)) ∧ Below w.heap.size w ((w.alloc (.cells #[.int .i64 a, .int .i64 b] 91)).alloc (.cells #[.int .i64 u, .int .i64 v] 91))))
  unfold knV
  by_cases h0 : a = 0 ∧ b = 0
  · obtain ⟨rfl, rfl⟩ := h0
    have HO := Lib.hid (show longK (0, 0) = (1, 1) from rfl)
    go_enter Try.func79, Try.ntmps79
    go_wp2_with fail
    refine bodyPost_ret (v := knV (1, 1)) (res_known Try.results79 (by rfl) (Fin.out 1 1).1) rfl ?_
    exact ⟨by rw [HO.out]; rfl, (Fin.out 1 1).2⟩
  · have HO := Lib.hid (show longK (a, b) = (a + 1, b) by unfold longK; rw [if_neg (by intro e; exact h0 (by simpa using e))])
    by_cases ha : a = 0
    · subst ha
      have hb : ¬ b = 0 := fun e => h0 ⟨rfl, e⟩
      clear h0
      go_enter Try.func79, Try.ntmps79
      go_wp2_with fail
      refine bodyPost_ret (v := knV (1, b)) (res_known Try.results79 (by rfl) (Fin.out 1 b).1) rfl ?_
      exact ⟨by rw [HO.out]; rfl, (Fin.out 1 b).2⟩
    · clear h0
      go_enter Try.func79, Try.ntmps79
      go_wp2_with fail
      refine bodyPost_ret (v := knV (a + 1, b)) (res_known Try.results79 (by rfl) (Fin.out (a + 1) b).1) rfl ?_
      exact ⟨by rw [HO.out]; rfl, (Fin.out (a + 1) b).2⟩
end Go.Proofs.Ythdjbapidodlfaa
