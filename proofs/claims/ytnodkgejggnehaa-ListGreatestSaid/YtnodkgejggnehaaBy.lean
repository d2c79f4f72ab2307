/- Stage 5: a joining by numbers. -/
import Derived.Test.YtnodkgejggnehaaGt
import Derived.Deep.QuietTactic
import Derived.Deep.RegionHeld3
import Derived.IntWalk
import Derived.Deep.Cut
import Derived.Deep.CutRange
namespace Go.Proofs.Ytnodkgejggnehaa
set_option linter.unusedSimpArgs false
set_option linter.unusedVariables false
open Go.RowKit Go.Shelf
/-- A set of names as ones and zeros. -/
def bI (b : Bool) : Int := if b = true then 1 else 0
def inL (n : Nat) (p : Nat → Bool) : List Int := (List.range n).map fun j => bI (p j)
theorem inL_at {n : Nat} {p : Nat → Bool} {j : Nat} (h : j < n) : (flatI (inL n p))[j]? = some (.int .i64 (bI (p j))) := by
  simp [flatI, inL, h]
def InR (W : World) (G n : Nat) (p : Nat → Bool) : Prop := W.heap[G]? = some (.cells (flatI (inL n p)).toArray 3 (0, 0))
theorem InR.cell {W : World} {G n : Nat} {p : Nat → Bool} (h : InR W G n p) {j : Nat} (hj : j < n) : W.cell? ⟨G, j, none⟩ = some (.int .i64 (bI (p j))) := by
  rw [cell_row h]; simpa using inL_at hj
def updB (p : Nat → Bool) (k : Nat) : Nat → Bool := fun j => p j || decide (j = k)
theorem InR.set {W : World} {G n : Nat} {p : Nat → Bool} (h : InR W G n p) (k : Nat) (hk : k < n) : InR (W.setCell ⟨G, k, none⟩ (.int .i64 1)) G n (updB p k) := by
  unfold InR at h ⊢
  rw [set_same k _ h]
  congr 2
  apply Array.ext_getElem?
  intro j
  rw [Array.getElem?_setIfInBounds]
  by_cases hjk : k = j
  · subst hjk
    rw [if_pos rfl, if_pos (by simp [flatI, inL]; exact hk)]
    rw [List.getElem?_toArray, inL_at hk]
    simp [updB, bI]
  · rw [if_neg hjk, List.getElem?_toArray, List.getElem?_toArray]
    by_cases hj : j < n
    · rw [inL_at hj, inL_at hj]
      simp [updB, show ¬ j = k from fun e => hjk e.symm]
    · rw [List.getElem?_eq_none (by simp [flatI, inL]; omega), List.getElem?_eq_none (by simp [flatI, inL]; omega)]
theorem InR.keep {W W' : World} {G n : Nat} {p : Nat → Bool} {B : Nat} (h : InR W G n p) (hb : Below B W W') (hB : G < B) : InR W' G n p := (hb.block _ hB).trans h
theorem inr_new {W : World} {n : Nat} : InR (W.alloc (.cells (flatI (List.replicate n 0)).toArray 3)) W.heap.size n (fun _ => false) := by
  unfold InR
  rw [heap_alloc_new_]
  have e : flatI (List.replicate n 0) = flatI (inL n (fun _ => false)) := by
    unfold inL
    congr 1
    apply List.ext_getElem <;> simp [bI]
  rw [e]
/-- No two of a set of names meet, and the known ones are in it. -/
structure JoP (n : Nat) (zs : List Rg) (ks : List Int) (p : Nat → Bool) : Prop where
  ap : ∀ j k, j < n → k < n → p j = true → p k = true → j ≠ k → mtB zs j k = false
  kn : ∀ k : Nat, (k : Int) ∈ ks → p k = true
def difB (zs : List Rg) (m k : Nat) : Bool := ((gAt zs m).lo != (gAt zs k).lo) && ((gAt zs m).hi != (gAt zs k).hi)
def freK (zs : List Rg) (p : Nat → Bool) (k m : Nat) : Bool := (List.range m).all fun j => !p j || difB zs j k
theorem freK_succ (zs : List Rg) (p : Nat → Bool) (k m : Nat) : freK zs p k (m + 1) = (freK zs p k m && (!p m || difB zs m k)) := by simp [freK, List.range_succ]
theorem JoP.start {n : Nat} {zs : List Rg} {ks : List Int} {sl sr : Int} (he : chkS sl sr zs ks = 0) (hn : zs.length = n) {p : Nat → Bool} (hp : ∀ j : Nat, p j = true ↔ (j : Int) ∈ ks) : JoP n zs ks p := by
  subst hn
  have S := shg_of he
  refine ⟨fun j k hj hk h1 h2 hne => ?_, fun k hk => (hp k).2 hk⟩
  obtain ⟨a, ha, ea⟩ := List.getElem_of_mem ((hp j).1 h1)
  obtain ⟨b, hb, eb⟩ := List.getElem_of_mem ((hp k).1 h2)
  have hab : a ≠ b := fun e => by subst e; rw [ea] at eb; omega
  have h9 := fun l hl => S.ap a b ha hb hab l hl
  rw [iAt_eq ha, iAt_eq hb, ea, eb, Int.toNat_natCast, Int.toNat_natCast] at h9
  unfold mtB
  rw [Bool.or_eq_false_iff, decide_eq_false_iff_not, decide_eq_false_iff_not]
  exact ⟨h9 0 (by omega), h9 1 (by omega)⟩
theorem JoP.more {n : Nat} {zs : List Rg} {ks : List Int} {p : Nat → Bool} (hz : ZOk n zs) (h : JoP n zs ks p) {k : Nat} (hk : k < n) (hf : freK zs p k n = true) : JoP n zs ks (updB p k) := by
  have hfr : ∀ j, j < n → p j = true → mtB zs j k = false := fun j hj hp => by
    unfold freK at hf
    rw [List.all_eq_true] at hf
    have := hf j (List.mem_range.2 hj)
    rw [hp, Bool.not_true, Bool.false_or] at this
    unfold difB at this
    rw [Bool.and_eq_true, bne_iff_ne, bne_iff_ne, (hz.at hj).1, (hz.at hk).1] at this
    unfold mtB
    rw [Bool.or_eq_false_iff, decide_eq_false_iff_not, decide_eq_false_iff_not]
    exact ⟨fun e => this.1 (by rw [e]), fun e => this.2 (by rw [e])⟩
  refine ⟨fun i j hi hj h1 h2 hne => ?_, fun i hi => by unfold updB; rw [h.kn i hi]; rfl⟩
  unfold updB at h1 h2
  rw [Bool.or_eq_true, decide_eq_true_eq] at h1 h2
  rcases h1 with h1 | h1
  · rcases h2 with h2 | h2
    · exact h.ap i j hi hj h1 h2 hne
    · subst h2; exact hfr i hi h1
  · rcases h2 with h2 | h2
    · subst h1; rw [mtB_symm]; exact hfr j hj h2
    · omega
theorem fI_snoc (p : Nat → Bool) (n : Nat) : fI p (n + 1) = if p n = true then fI p n ++ [(n : Int)] else fI p n := by
  unfold fI
  rw [List.range_succ, List.filter_append, List.filter_cons, List.filter_nil]
  by_cases h : p n = true
  · rw [if_pos h, if_pos h]; simp
  · rw [if_neg h, if_neg h]; simp
theorem fI_len (p : Nat → Bool) (n : Nat) : (fI p n).length ≤ n := by
  unfold fI; rw [List.length_map]; exact Nat.le_trans (List.length_filter_le _ _) (by simp)
/-- The box of the sheet, and the set, in memory. -/
structure ByS (w : World) (R G n : Nat) (box : Array Value) (p : Nat → Bool) (W : World) : Prop where
  s : W.heap[R]? = some (.cells box 25 (0, 0))
  g : InR W G n p
  b : Below w.heap.size w W
  lt : R < G ∧ w.heap.size ≤ R
theorem ByS.new {w : World} {R G n : Nat} {box : Array Value} {p : Nat → Bool} {W W' : World} (h : ByS w R G n box p W) (hb : Below W.heap.size W W') : ByS w R G n box p W' :=
  ⟨(hb.block _ (lt_of_block h.s)).trans h.s, h.g.keep hb (lt_of_block h.g), h.b.trans (hb.mono h.b.size), h.lt⟩
theorem ByS.set {w : World} {R G n : Nat} {box : Array Value} {p : Nat → Bool} {W : World} (h : ByS w R G n box p W) {k : Nat} (hk : k < n) : ByS w R G n box (updB p k) (W.setCell ⟨G, k, none⟩ (.int .i64 1)) := by
  have hkp := keeps_setCell W G k (.int .i64 1)
  have hl := h.lt
  exact ⟨(hkp.block _ (lt_of_block h.s) (by omega)).trans h.s, h.g.set k hk, h.b.trans (hkp.below h.b.size (fun j hj e => by omega)), hl⟩
attribute [local go_sem ↓] exec_app at_app
attribute [local go_sem] Oper.semAt_some
set_option maxRecDepth 100000 in
set_option maxHeartbeats 40000000 in
theorem by33 (sl sr : Int) (A : Option Addr) (n cap : Nat) (zs : List Rg) (A2 : Option Addr) (kn kc : Nat) (ks : List Int) (U : Option Addr) (nu cu : Nat) (us : List Int) (w : World) (h : Rgs w A n zs) (hI : Ints w A2 kn ks) (hU : IntsU w U nu us) (hc9 : n ≤ cap) (hn : n ≤ 50) (hk : kn ≤ 50) (hnu : nu ≤ 60) (he : chkS sl sr zs ks = 0) :
    Calls Try.prog 33 #[.agg #[.int .i64 sl, .int .i64 sr, .slice A n cap, .slice A2 kn kc], .slice U nu cu] w fun e w' => ∃ C c p, e = .returned (.slice C (fI p n).length c) ∧ (fI p n).length ≤ c ∧ Ints w' C (fI p n).length (fI p n) ∧ JoP n zs ks p ∧ Below w.heap.size w w' := by
  have hmk := make23 n (by omega)
  have S0 := shg_of he
  have hzl := h.1
  have hkl := hI.1
  have hst := fun p hp => JoP.start (p := p) he hzl hp
  have hzk : ZOk n zs := by rw [← hzl]; exact S0.zok
  have hnm : NmOk n ks := by rw [← hzl]; exact S0.nm
  have Hst := Lib.hid hst
  have Hz := Lib.hid hzk
  have Hnm := Lib.hid hnm
  have Hzl := Lib.hid hzl
  have Hkl := Lib.hid hkl
  clear S0 hst hzl hkl he hzk hnm
  have X := Lib.hid h
  have XI := Lib.hid hI
  have XU := Lib.hid hU
  clear h hI hU
  obtain ⟨R, hR⟩ : ∃ v, w.heap.size = v := ⟨_, rfl⟩
  have hb0 := below_alloc_ w (.cells #[.int .i64 sl, .int .i64 sr, .slice A n cap, .slice A2 kn kc] 25)
  have hr0 := heap_alloc_new_ w (.cells #[.int .i64 sl, .int .i64 sr, .slice A n cap, .slice A2 kn kc] 25)
  have hz0 : (w.alloc (.cells #[.int .i64 sl, .int .i64 sr, .slice A n cap, .slice A2 kn kc] 25)).heap.size = w.heap.size + 1 := by simp
  obtain ⟨w0, hw0⟩ : ∃ v, w.alloc (.cells #[.int .i64 sl, .int .i64 sr, .slice A n cap, .slice A2 kn kc] 25) = v := ⟨_, rfl⟩
  rw [hw0] at hb0 hr0 hz0
  rw [hR] at hr0 hz0
  have hB := hb0
  have HS := Lib.hid hr0
  have HW0 := Lib.hid hw0
  have B := Lib.hid hB
  have HR := Lib.hid hR
  clear hB hR hb0 hr0 hz0 hw0 
  have zHS0 : w0.cell? ⟨R, 0, none⟩ = some (.int .i64 sl) := by rw [cell_row HS.out]; rfl
  have zHS1 : w0.cell? ⟨R, 1, none⟩ = some (.int .i64 sr) := by rw [cell_row HS.out]; rfl
  have zHS2 : w0.cell? ⟨R, 2, none⟩ = some (.slice A n cap) := by rw [cell_row HS.out]; rfl
  have zHS3 : w0.cell? ⟨R, 3, none⟩ = some (.slice A2 kn kc) := by rw [cell_row HS.out]; rfl
  have hm0 := hmk w0
  have hb9 := below_alloc_ w0 (.cells (flatI (List.replicate n 0)).toArray 3)
  have hg9 := inr_new (W := w0) (n := n)
  have hRw := lt_of_block HS.out
  have hRr := HR.out
  go_enter Try.func33, Try.ntmps33
  go_wp2_with fail
  try rw [HW0.out]
  try rw [HR.out]
  try simp only [Nat.add_assoc, Nat.reduceAdd]
  try go_wp2_with fail
  have hs9 := (hb9.block _ (lt_of_block HS.out)).trans HS.out
  obtain ⟨G, hG⟩ : ∃ v, w0.heap.size = v := ⟨_, rfl⟩
  obtain ⟨w1, hw1⟩ : ∃ v, w0.alloc (.cells (flatI (List.replicate n 0)).toArray 3) = v := ⟨_, rfl⟩
  rw [hw1] at hb9 hg9 hs9
  rw [hG] at hg9 hRw
  have H0 := Lib.hid (show ByS w R G n #[.int .i64 sl, .int .i64 sr, .slice A n cap, .slice A2 kn kc] (fun _ => false) w1 from ⟨hs9, hg9, B.out.trans (hb9.mono B.out.size), hRw, by omega⟩)
  have hRG : R < G := hRw
  try rw [hw1]
  try rw [hG]
  try rw [show R + 1 = G from by rw [← hG, ← HW0.out, ← HR.out]; simp]
  clear hb9 hg9 hs9 hm0 hmk hG hw1 hRw hRr HR HW0
  clear zHS0 zHS1 zHS2 zHS3
  clear HS B
  go_loopw [6] (fun i wr => ∃ q : Nat, q ≤ kn ∧ i = .int .i64 (q : Int) ∧ Hid (∃ p, ByS w R G n #[.int .i64 sl, .int .i64 sr, .slice A n cap, .slice A2 kn kc] p wr ∧ ∀ j : Nat, p j = true ↔ (j : Int) ∈ ks.take q)) (fun i _ => kn - (intOf i).toNat)
  case atStart => exact ⟨0, Nat.zero_le _, rfl, Lib.hid ⟨_, H0.out, fun j => by simp⟩⟩
  case round =>
    obtain ⟨q, hq9, rfl, HV⟩ := hrel
    obtain ⟨wk, rfl⟩ : ∃ wk, wk = wr := ⟨_, rfl⟩
    obtain ⟨p, hs1, hp1⟩ := HV.out
    have HS1 := Lib.hid hs1
    have Hp1 := Lib.hid hp1
    clear hs1 hp1 HV
    have z0 : wk.cell? ⟨R, 0, none⟩ = some (.int .i64 sl) := by rw [cell_row HS1.out.s]; rfl
    have z1 : wk.cell? ⟨R, 1, none⟩ = some (.int .i64 sr) := by rw [cell_row HS1.out.s]; rfl
    have z2 : wk.cell? ⟨R, 2, none⟩ = some (.slice A n cap) := by rw [cell_row HS1.out.s]; rfl
    have z3 : wk.cell? ⟨R, 3, none⟩ = some (.slice A2 kn kc) := by rw [cell_row HS1.out.s]; rfl
    by_cases hlt : q < kn
    · obtain ⟨bk, ok, rfl, hck⟩ := XI.out.2 (by omega)
      have x0 := (HS1.out.b.cell (lt_of_cell (hck q hlt))).trans (hck q hlt)
      have hql : q < ks.length := by rw [Hkl.out]; exact hlt
      obtain ⟨v, hv9, hv⟩ := Hnm.out (iAt ks q) (by rw [iAt_eq hql]; exact List.getElem_mem hql)
      rw [hv] at x0
      have hvi : (v : Int) < (n : Int) := by omega
      have hv0 : (0 : Int) ≤ (v : Int) := by omega
      have i0 : (0 : Int) ≤ (q : Int) := by omega
      have i1 : (q : Int) < (kn : Int) := by omega
      have y0 := HS1.out.g.cell hv9
      have fG := fun o : Nat => frozen_row (k := o) HS1.out.g
      have HN := Lib.hid (show ∃ p', ByS w R G n _ p' (wk.setCell ⟨G, v, none⟩ (.int .i64 1)) ∧ ∀ j : Nat, p' j = true ↔ (j : Int) ∈ ks.take (q + 1) from ⟨_, HS1.out.set hv9, fun j => by
        rw [List.take_succ_eq_append_getElem hql, List.mem_append, List.mem_singleton, ← iAt_eq hql, hv]
        unfold updB
        rw [Bool.or_eq_true, decide_eq_true_eq, Hp1.out j]
        exact or_congr_right (by omega)⟩)
      clear hck hv
      go_wp2_with fail
      go_roundw
      case rel => exact ⟨q + 1, by omega, by go_num, HN⟩
      case measure => simp [intOf]; omega
    · obtain rfl : q = kn := by omega
      have HJ := Lib.hid (Hst.out p (fun j => by rw [Hp1.out j, ← Hkl.out, List.take_length]))
      clear Hp1 Hst
      go_upto_if 35 with fail
      go_cut [7] from 33 to 40 (fun v wx => ∃ f : Int, 0 ≤ f ∧ f ≤ 255 ∧ v = .int .i64 f ∧ wx = wk)
      case first =>
        by_cases hnu0 : 0 < nu
        · have d1 : (0 : Int) < (nu : Int) := by omega
          obtain ⟨bu, ou, rfl, hcu⟩ := XU.out.2.2 hnu0
          have x0 := (HS1.out.b.cell (lt_of_cell (hcu 0 hnu0))).trans (hcu 0 hnu0)
          rw [Nat.add_zero] at x0
          have hr0 := XU.out.2.1 0
          obtain ⟨f, hf⟩ : ∃ v, iAt us 0 = v := ⟨_, rfl⟩
          rw [hf] at x0 hr0
          have hf1 : -9223372036854775808 ≤ f := by omega
          have hf2 : f ≤ 9223372036854775807 := by omega
          clear hcu hf
          have d9 : decide (0 < nu) = true := decide_eq_true hnu0
          go_wp2_with fail
          go_meet
          case rel => exact ⟨f, hr0.1, hr0.2, by go_num, rfl⟩
        · have d1 : ¬ (0 : Int) < (nu : Int) := by omega
          have d9 : decide (0 < nu) = false := decide_eq_false hnu0
          go_wp2_with fail
          go_meet
          case rel => exact ⟨0, by omega, by omega, by go_num, rfl⟩
      case rest =>
        obtain ⟨f, hf0, hf1, rfl, rfl⟩ := hcut
        clear Hnm
        have Hj0 := HJ
        go_wp2_with fail
        go_loopw [8, 9] (fun s i wr => ∃ i0 sk : Nat, i0 ≤ n ∧ sk ≤ i0 ∧ s = .int .i64 (sk : Int) ∧ i = .int .i64 (i0 : Int) ∧ Hid (∃ p, ByS w R G n #[.int .i64 sl, .int .i64 sr, .slice A n cap, .slice A2 q kc] p wr ∧ JoP n zs ks p)) (fun s i _ => n - (intOf i).toNat)
        case atStart => exact ⟨0, 0, Nat.zero_le _, Nat.le_refl _, rfl, rfl, Lib.hid ⟨p, HS1.out, HJ.out⟩⟩
        case round =>
          obtain ⟨i0, sk, hi9, hs9, rfl, rfl, HV⟩ := hrel
          obtain ⟨wj, rfl⟩ : ∃ wj, wj = wr := ⟨_, rfl⟩
          clear HS1 HJ Hj0 z0 z1 z2 z3
          obtain ⟨p, hs1, hj1⟩ := HV.out
          have HS1 := Lib.hid hs1
          have HJ := Lib.hid hj1
          clear hs1 hj1 HV
          have z0 : wj.cell? ⟨R, 0, none⟩ = some (.int .i64 sl) := by rw [cell_row HS1.out.s]; rfl
          have z1 : wj.cell? ⟨R, 1, none⟩ = some (.int .i64 sr) := by rw [cell_row HS1.out.s]; rfl
          have z2 : wj.cell? ⟨R, 2, none⟩ = some (.slice A n cap) := by rw [cell_row HS1.out.s]; rfl
          have z3 : wj.cell? ⟨R, 3, none⟩ = some (.slice A2 q kc) := by rw [cell_row HS1.out.s]; rfl
          by_cases hlt2 : i0 < n
          · have hn0 : ¬ (n : Int) = 0 := by omega
            have hnp : (0 : Int) < (n : Int) := by omega
            obtain ⟨k, hk, hkn⟩ : ∃ k : Nat, (f + (i0 : Int)) % (n : Int) = (k : Int) ∧ k < n := ⟨((f + (i0 : Int)) % (n : Int)).toNat, by have := Int.emod_nonneg (f + (i0 : Int)) hn0; omega, by have := Int.emod_nonneg (f + (i0 : Int)) hn0; have := Int.emod_lt_of_pos (f + (i0 : Int)) hnp; omega⟩
            have hkt : (f + (i0 : Int)).tmod (n : Int) = (k : Int) := by rw [Int.tmod_eq_emod_of_nonneg (by omega)]; exact hk
            have i1 : (i0 : Int) < (n : Int) := by omega
            go_wp2_with fail
            go_loopw [11, 12] (fun b m wr => ∃ m0 : Nat, m0 ≤ n ∧ b = .bool (freK zs p k m0) ∧ m = .int .i64 (m0 : Int) ∧ Hid (ByS w R G n #[.int .i64 sl, .int .i64 sr, .slice A n cap, .slice A2 q kc] p wr)) (fun _ m _ => n - (intOf m).toNat)
            case atStart => exact ⟨0, Nat.zero_le _, rfl, rfl, HS1⟩
            case round =>
              obtain ⟨m0, hm9, rfl, rfl, HS2⟩ := hrel
              obtain ⟨wi, rfl⟩ : ∃ wi, wi = wr := ⟨_, rfl⟩
              clear z0 z1 z2 z3 HS1
              have z0 : wi.cell? ⟨R, 0, none⟩ = some (.int .i64 sl) := by rw [cell_row HS2.out.s]; rfl
              have z1 : wi.cell? ⟨R, 1, none⟩ = some (.int .i64 sr) := by rw [cell_row HS2.out.s]; rfl
              have z2 : wi.cell? ⟨R, 2, none⟩ = some (.slice A n cap) := by rw [cell_row HS2.out.s]; rfl
              have z3 : wi.cell? ⟨R, 3, none⟩ = some (.slice A2 q kc) := by rw [cell_row HS2.out.s]; rfl
              by_cases hlt3 : m0 < n
              · obtain ⟨bz, oz, rfl, hcz⟩ := X.out.2 (by omega)
                have y0 := HS2.out.g.cell hlt3
                have a0 := (HS2.out.b.cell (lt_of_cell (hcz m0 hlt3).1)).trans (hcz m0 hlt3).1
                have a1 := (HS2.out.b.cell (lt_of_cell (hcz m0 hlt3).2)).trans (hcz m0 hlt3).2
                have b0 := (HS2.out.b.cell (lt_of_cell (hcz k hkn).1)).trans (hcz k hkn).1
                have b1 := (HS2.out.b.cell (lt_of_cell (hcz k hkn).2)).trans (hcz k hkn).2
                have Hs := Lib.hid (freK_succ zs p k m0)
                have Hd := Lib.hid (show difB zs m0 k = (((gAt zs m0).lo != (gAt zs k).lo) && ((gAt zs m0).hi != (gAt zs k).hi)) from rfl)
                obtain ⟨fr, hfr⟩ : ∃ v, freK zs p k m0 = v := ⟨_, rfl⟩
                obtain ⟨pm, hpm⟩ : ∃ v, p m0 = v := ⟨_, rfl⟩
                obtain ⟨la, hla⟩ : ∃ v, (gAt zs m0).lo = v := ⟨_, rfl⟩
                obtain ⟨lb, hlb⟩ : ∃ v, (gAt zs m0).hi = v := ⟨_, rfl⟩
                obtain ⟨ka, hka⟩ : ∃ v, (gAt zs k).lo = v := ⟨_, rfl⟩
                obtain ⟨kb, hkb⟩ : ∃ v, (gAt zs k).hi = v := ⟨_, rfl⟩
                rw [hfr, hpm] at Hs
                rw [hpm] at y0
                rw [hla] at a0 Hd
                rw [hlb] at a1 Hd
                rw [hka] at b0 Hd
                rw [hkb] at b1 Hd
                rw [hfr]
                have m1 : (0 : Int) ≤ (m0 : Int) := by omega
                have m2 : (m0 : Int) < (n : Int) := by omega
                have k1 : (0 : Int) ≤ (k : Int) := by omega
                have k2 : (k : Int) < (n : Int) := by omega
                clear hcz hfr hpm hla hlb hka hkb
                rcases fr with _ | _
                · go_wp2_with fail
                  go_quiet (fail)
                  have HN := Lib.hid (HS2.out.new (drew_b wi nq))
                  clear HS2
                  go_wp2_with fail
                  go_roundw
                  case rel => exact ⟨m0 + 1, by omega, by rw [Hs.out]; rfl, by go_num, HN⟩
                  case measure => simp [intOf]; omega
                · rcases pm with _ | _
                  · have y1 : bI false = 0 := rfl
                    rw [y1] at y0
                    clear y1
                    go_wp2_with fail
                    go_quiet (fail)
                    have HN := Lib.hid (HS2.out.new (drew_b wi nq))
                    clear HS2
                    go_wp2_with fail
                    go_roundw
                    case rel => exact ⟨m0 + 1, by omega, by rw [Hs.out]; rfl, by go_num, HN⟩
                    case measure => simp [intOf]; omega
                  · have y1 : bI true = 1 := rfl
                    rw [y1] at y0
                    clear y1
                    by_cases e1 : la = ka
                    · have d1 : (la != ka) = false := by simp [e1]
                      rw [d1] at Hd
                      go_wp2_with fail
                      go_quiet (fail)
                      have HN := Lib.hid (HS2.out.new (drew_b wi nq))
                      clear HS2
                      go_wp2_with fail
                      go_roundw
                      case rel => exact ⟨m0 + 1, by omega, by rw [Hs.out, Hd.out]; rfl, by go_num, HN⟩
                      case measure => simp [intOf]; omega
                    · have d1 : (la != ka) = true := by rw [bne_iff_ne]; exact e1
                      rw [d1] at Hd
                      go_wp2_with fail
                      go_quiet (fail)
                      have HN := Lib.hid (HS2.out.new (drew_b wi nq))
                      clear HS2
                      go_wp2_with fail
                      go_roundw
                      case rel => exact ⟨m0 + 1, by omega, by rw [Hs.out, Hd.out]; rfl, by go_num, HN⟩
                      case measure => simp [intOf]; omega
              · obtain rfl : m0 = n := by omega
                have HF := Lib.hid (fun e : freK zs p k m0 = true => HJ.out.more Hz.out hkn e)
                obtain ⟨fr, hfr⟩ : ∃ v, freK zs p k m0 = v := ⟨_, rfl⟩
                rw [hfr] at HF ⊢
                clear hfr
                go_upto_region 18 with fail
                go_cut [114] from 99 to 115 (fun c wx => ∃ v, c = .bool v ∧ wx = wi)
                case first =>
                  by_cases hn1 : 1 < nu
                  rotate_left
                  · have d1 : ¬ (1 : Int) < (nu : Int) := by omega
                    go_wp2_with fail
                    go_meet
                    case rel => exact ⟨false, rfl, rfl⟩
                  · have d1 : (1 : Int) < (nu : Int) := by omega
                    have hm0 : ¬ (nu : Int) - 1 = 0 := by omega
                    obtain ⟨t, ht, htl⟩ : ∃ t : Nat, (1 : Int) + (i0 : Int) % ((nu : Int) - 1) = (t : Int) ∧ t < nu := ⟨((1 : Int) + (i0 : Int) % ((nu : Int) - 1)).toNat, by have := Int.emod_nonneg (i0 : Int) hm0; omega, by have := Int.emod_nonneg (i0 : Int) hm0; have := Int.emod_lt_of_pos (i0 : Int) (show (0 : Int) < (nu : Int) - 1 by omega); omega⟩
                    obtain ⟨r, hr, hrl⟩ : ∃ r : Nat, (i0 : Int) % ((nu : Int) - 1) = (r : Int) ∧ r + 1 = t := ⟨((i0 : Int) % ((nu : Int) - 1)).toNat, by have := Int.emod_nonneg (i0 : Int) hm0; omega, by have := Int.emod_nonneg (i0 : Int) hm0; omega⟩
                    have hrt : (i0 : Int).tmod ((nu : Int) - 1) = (r : Int) := by rw [Int.tmod_eq_emod_of_nonneg (by omega)]; exact hr
                    have h1t : (1 : Int) + (r : Int) = (t : Int) := by omega
                    obtain ⟨bu, ou, rfl, hcu⟩ := XU.out.2.2 (by omega)
                    have x0 := (HS2.out.b.cell (lt_of_cell (hcu t htl))).trans (hcu t htl)
                    have hu0 := XU.out.2.1 t
                    obtain ⟨u, hu⟩ : ∃ v, iAt us t = v := ⟨_, rfl⟩
                    rw [hu] at x0 hu0
                    have hu1 := hu0.1
                    have hu2 := hu0.2
                    obtain ⟨z, hz, hz8⟩ : ∃ z : Int, u % 8 = z ∧ u.tmod 8 = z := ⟨_, rfl, Int.tmod_eq_emod_of_nonneg hu1⟩
                    have t1 : (t : Int) < (nu : Int) := by omega
                    have t0 : (0 : Int) ≤ (t : Int) := by omega
                    clear hcu hu ht hu0 hrl
                    by_cases hz0 : z = 0
                    · have dz : (z == 0) = true := by simp [hz0]
                      clear hz0
                      go_wp2_with fail
                      go_meet
                      case rel => exact ⟨true, rfl, rfl⟩
                    · have dz : (z == 0) = false := by simp [hz0]
                      clear hz0
                      go_wp2_with fail
                      go_meet
                      case rel => exact ⟨false, rfl, rfl⟩
                case rest =>
                 obtain ⟨sb, rfl, rfl⟩ := hcut
                 go_upto_if 114 with fail
                 go_cut [8, 11] from 115 to 117 (fun s b wx => ∃ sk' : Nat, sk' ≤ i0 + 1 ∧ s = .int .i64 (sk' : Int) ∧ (∃ v, b = .bool v ∧ (v = true → fr = true)) ∧ wx = wc)
                 case first =>
                  cases sb
                  · go_wp2_with fail
                    go_meet
                    case rel => exact ⟨sk, by omega, rfl, ⟨fr, rfl, fun e => e⟩, rfl⟩
                  · go_wp2_with fail
                    go_meet
                    case rel => exact ⟨sk + 1, by omega, by go_num, ⟨false, rfl, fun e => by cases e⟩, rfl⟩
                 case rest =>
                  obtain ⟨sk', hsk, rfl, ⟨v, rfl, hv⟩, rfl⟩ := hcut
                  cases v
                  · go_wp2_with fail
                    go_roundw
                    case rel => exact ⟨i0 + 1, sk', by omega, hsk, rfl, by go_num, Lib.hid ⟨p, HS2.out, HJ.out⟩⟩
                    case measure => simp [intOf]; omega
                  · have HJ2 := Lib.hid (HF.out (hv rfl))
                    have HS3 := Lib.hid (HS2.out.set hkn)
                    have y0 := HS2.out.g.cell hkn
                    have fG := fun o : Nat => frozen_row (k := o) HS2.out.g
                    have k1 : (0 : Int) ≤ (k : Int) := by omega
                    have k2 : (k : Int) < (m0 : Int) := by omega
                    go_wp2_with fail
                    go_roundw
                    case rel => exact ⟨i0 + 1, sk', by omega, hsk, rfl, by go_num, Lib.hid ⟨_, HS3.out, HJ2.out⟩⟩
                    case measure => simp [intOf]; omega
          · obtain rfl : i0 = n := by omega
            go_wp2_with fail
            go_loopw [13, 14] (fun v i wr => ∃ k0 : Nat, k0 ≤ i0 ∧ i = .int .i64 (k0 : Int) ∧ Hid (ByS w R G i0 #[.int .i64 sl, .int .i64 sr, .slice A i0 cap, .slice A2 q kc] p wr ∧ wr.ownsRow 0 3 1 v (fI p k0).length (flatI (fI p k0)) ∧ (∀ j, v.ownBlock = some j → G < j))) (fun v i _ => i0 - (intOf i).toNat)
            case atStart => exact ⟨0, Nat.zero_le _, rfl, Lib.hid ⟨HS1.out, ⟨rfl, .inl ⟨rfl, rfl⟩⟩, fun j e => (by cases e)⟩⟩
            case round =>
              obtain ⟨k0, hk9, rfl, HV⟩ := hrel
              obtain ⟨wi, rfl⟩ : ∃ wi, wi = wr := ⟨_, rfl⟩
              clear HS1 z0 z1 z2 z3
              obtain ⟨hs2, hown, hnew⟩ := HV.out
              by_cases hlt4 : k0 < i0
              · have y0 := hs2.g.cell hlt4
                have k1 : (0 : Int) ≤ (k0 : Int) := by omega
                have k2 : (k0 : Int) < (i0 : Int) := by omega
                have Hsn := Lib.hid (fI_snoc p k0)
                have hll := fI_len p k0
                obtain ⟨C, cp, W1, r1, o1, kp1, d1⟩ := app_int hown (k0 : Int) (by omega)
                obtain ⟨pk, hpk⟩ : ∃ v, p k0 = v := ⟨_, rfl⟩
                rw [hpk] at y0 Hsn
                have HS2 := Lib.hid hs2
                have Hown := Lib.hid hown
                have Hnew := Lib.hid hnew
                cases pk
                · have y1 : bI false = 0 := rfl
                  rw [y1] at y0
                  rw [if_neg (by simp)] at Hsn
                  clear y1 hpk hs2 hown hnew HV r1 o1 kp1 d1
                  go_wp2_with fail
                  go_roundw
                  case rel => exact ⟨k0 + 1, by omega, by go_num, Lib.hid ⟨HS2.out, by rw [Hsn.out]; exact Hown.out, Hnew.out⟩⟩
                  case measure => simp [intOf]; omega
                · have y1 : bI true = 1 := rfl
                  rw [y1] at y0
                  rw [if_pos rfl] at Hsn
                  have HN := Lib.hid (show ByS w R G i0 _ p W1 ∧ W1.ownsRow 0 3 1 (.slice C ((fI p k0).length + 1) cp) (fI p (k0 + 1)).length (flatI (fI p (k0 + 1))) ∧ (∀ j, (Value.slice C ((fI p k0).length + 1) cp).ownBlock = some j → G < j) from
                    ⟨⟨(kp1.block _ (lt_of_block hs2.s) (fun e => by have := hnew _ e; have := hs2.lt; omega)).trans hs2.s, (kp1.block _ (lt_of_block hs2.g) (fun e => by have := hnew _ e; omega)).trans hs2.g, hs2.b.trans (kp1.below hs2.b.size (fun j hj e => by have := hnew _ e; have := hs2.lt; omega)), hs2.lt⟩, by rw [Hsn.out, List.length_append]; exact o1, fun g e => by
                      rcases d1 g e with e2 | e2
                      · exact hnew g e2
                      · have := lt_of_block hs2.g; omega⟩)
                  clear y1 hpk hs2 hown hnew HV o1 kp1 d1
                  go_wp2_with fail
                  go_roundw
                  case rel => exact ⟨k0 + 1, by omega, by go_num, HN⟩
                  case measure => simp [intOf]; omega
              · obtain rfl : k0 = i0 := by omega
                obtain ⟨C, cp, rfl, hcp, hI9, -⟩ := ints_own rfl hown
                have HI9 := Lib.hid hI9
                have HB9 := Lib.hid hs2.b
                clear hs2 hown hnew HV hI9
                go_wp2_with fail
                go_ret
                exact ⟨C, cp, p, rfl, hcp, HI9.out, HJ.out, HB9.out⟩
end Go.Proofs.Ytnodkgejggnehaa
