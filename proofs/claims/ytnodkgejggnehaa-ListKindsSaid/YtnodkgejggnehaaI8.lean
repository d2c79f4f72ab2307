/- Stage 5: Items, of the document. -/
import Derived.Test.YtnodkgejggnehaaK6
import Derived.Test.YtnodkgejggnehaaSu
import Derived.Test.YtnodkgejggnehaaZed
import Derived.Deep.RegionHeld3
import Derived.Deep.CutRange
import Derived.Deep.Cut
import Derived.IntWalk
namespace Go.Proofs.Ytnodkgejggnehaa
set_option linter.unusedSimpArgs false
set_option linter.unusedVariables false
open Go.RowKit Go.Shelf
/-- What the inner loop holds: the sheet without links of an item, in its box. -/
structure ItX (sl sr : Int) (n kn : Nat) (zs : List Rg) (ks : List Int) (l a q T m : Nat) (C : Option Addr) (cp : Nat) (C2 : Option Addr) (c2 : Nat) (zs' : List Rg) (ks' : List Int) (f : Nat → Nat) (rm : Nat → Bool) (W : World) : Prop where
  row : W.heap[T]? = some (.cells #[.int .i64 sl, .int .i64 sr, .slice C m cp, .slice C2 kn c2] 25 (0, 0))
  r : Rgs W C m zs'
  i : Ints W C2 kn ks'
  s : SubS n zs ks m zs' ks' f rm
  ch : chkS sl sr zs' ks' = 0
  fj : ∀ j, j < q → f j = j
  qm : q ≤ m
  mn : m ≤ n
  rm : ∀ k : Nat, k < n → (rm k = true ↔ q ≤ k ∧ eN zs l k = a ∧ (k : Int) ∉ ks)
def ItS (sl sr : Int) (n kn : Nat) (zs : List Rg) (ks : List Int) (l a q T : Nat) (W : World) : Prop := ∃ m C cp C2 c2 zs' ks' f rm, ItX sl sr n kn zs ks l a q T m C cp C2 c2 zs' ks' f rm W
theorem ItX.new {sl sr : Int} {n kn : Nat} {zs : List Rg} {ks : List Int} {l a q T m : Nat} {C : Option Addr} {cp : Nat} {C2 : Option Addr} {c2 : Nat} {zs' : List Rg} {ks' : List Int} {f : Nat → Nat} {rm : Nat → Bool} {W W' : World} (h : ItX sl sr n kn zs ks l a q T m C cp C2 c2 zs' ks' f rm W) (hb : Below W.heap.size W W') : ItX sl sr n kn zs ks l a q T m C cp C2 c2 zs' ks' f rm W' :=
  ⟨(hb.block _ (lt_of_block h.row)).trans h.row, h.r.below hb (Nat.le_refl _), h.i.below hb (Nat.le_refl _), h.s, h.ch, h.fj, h.qm, h.mn, h.rm⟩
theorem ItS.new {sl sr : Int} {n kn : Nat} {zs : List Rg} {ks : List Int} {l a q T : Nat} {W W' : World} (h : ItS sl sr n kn zs ks l a q T W) (hb : Below W.heap.size W W') : ItS sl sr n kn zs ks l a q T W' := by
  obtain ⟨m, C, cp, C2, c2, zs', ks', f, rm, h⟩ := h
  exact ⟨m, C, cp, C2, c2, zs', ks', f, rm, h.new hb⟩
/-- A link that stays: it is of another item, or known. -/
theorem ItS.stay {sl sr : Int} {n kn : Nat} {zs : List Rg} {ks : List Int} {l a q T : Nat} {W : World} (h : ItS sl sr n kn zs ks l a (q + 1) T W) (hs : eN zs l q ≠ a ∨ (q : Int) ∈ ks) : ItS sl sr n kn zs ks l a q T W := by
  obtain ⟨m, C, cp, C2, c2, zs', ks', f, rm, h⟩ := h
  refine ⟨m, C, cp, C2, c2, zs', ks', f, rm, h.row, h.r, h.i, h.s, h.ch, fun j hj => h.fj j (by omega), by have := h.qm; omega, h.mn, fun k hk => (h.rm k hk).trans ?_⟩
  constructor
  · rintro ⟨h1, h2, h3⟩; exact ⟨by omega, h2, h3⟩
  · rintro ⟨h1, h2, h3⟩
    refine ⟨?_, h2, h3⟩
    rcases (by omega : k = q ∨ q + 1 ≤ k) with rfl | e
    · rcases hs with e | e
      · exact absurd h2 e
      · exact absurd e h3
    · exact e
def setT (W : World) (T : Nat) (sl sr : Int) (x y : Value) : World := (((W.setCell ⟨T, 0, none⟩ (.int .i64 sl)).setCell ⟨T, 1, none⟩ (.int .i64 sr)).setCell ⟨T, 2, none⟩ x).setCell ⟨T, 3, none⟩ y
theorem setT_keeps (W : World) (T : Nat) (sl sr : Int) (x y : Value) : Keeps (fun j => j = T) W (setT W T sl sr x y) := ((keeps_setCell W T 0 (.int .i64 sl)).trans (keeps_setCell _ T 1 (.int .i64 sr))).trans ((keeps_setCell _ T 2 x).trans (keeps_setCell _ T 3 y))
theorem ItX.less {sl sr : Int} {n kn : Nat} {zs : List Rg} {ks : List Int} {l a q T m : Nat} {C : Option Addr} {cp : Nat} {C2 : Option Addr} {c2 : Nat} {zs' : List Rg} {ks' : List Int} {f : Nat → Nat} {rm : Nat → Bool} {W W' : World} (h : ItX sl sr n kn zs ks l a (q + 1) T m C cp C2 c2 zs' ks' f rm W) (hkn : ks'.length = kn)
    (hq : q < n) (ha : eN zs l q = a) (hin : (q : Int) ∉ ks) {D : Option Addr} {dp : Nat} {D2 : Option Addr} {d2 : Nat}
    (hT : W'.heap[T]? = some (.cells #[.int .i64 sl, .int .i64 sr, .slice C m cp, .slice C2 kn c2] 25 (0, 0)))
    (hr : Rgs W' D (m - 1) (wzP q zs' m)) (hi : Ints W' D2 kn (wkP q ks' kn)) (hD : ∀ a, D = some a → T < a.block) (hD2 : ∀ a, D2 = some a → T < a.block) :
    ItS sl sr n kn zs ks l a q T (setT W' T sl sr (.slice D (m - 1) dp) (.slice D2 kn d2)) := by
  have hkk := setT_keeps W' T sl sr (.slice D (m - 1) dp) (.slice D2 kn d2)
  have hss := set_same 3 (.slice D2 kn d2) (set_same 2 (.slice D (m - 1) dp) (set_same 1 (.int .i64 sr) (set_same 0 (.int .i64 sl) hT)))
  have hml := h.r.1
  have H' := shn_of h.ch hml
  have hqm := h.qm
  have hfq := h.fj q (by omega)
  have hin' : (q : Int) ∉ ks' := fun e => hin (by have := (h.s.kn q (by omega)).1 e; rwa [hfq] at this)
  have hst := h.s.step H' (show q < m by omega) hfq hin
  have hch := wo_chk h.ch hml (show q < m by omega) hin'
  rw [hkn] at hst hch
  refine ⟨m - 1, D, dp, D2, d2, _, _, _, _, hss, hr.keepN hkk (fun h0 a e (e2 : a.block = T) => by have := hD a e; omega), hi.keepN hkk (fun h0 a e (e2 : a.block = T) => by have := hD2 a e; omega), hst, hch, fun j hj => ?_, by omega, by have := h.mn; omega, fun k hk => ?_⟩
  · show f (oldN q j) = j
    have : oldN q j = j := by unfold oldN; rw [if_pos hj]
    rw [this]; exact h.fj j (by omega)
  · rw [Bool.or_eq_true, decide_eq_true_eq, h.rm k hk]
    constructor
    · rintro (⟨h1, h2, h3⟩ | rfl)
      · exact ⟨by omega, h2, h3⟩
      · exact ⟨Nat.le_refl _, ha, hin⟩
    · rintro ⟨h1, h2, h3⟩
      rcases (by omega : k = q ∨ q + 1 ≤ k) with e | e
      · exact .inr e
      · exact .inl ⟨e, h2, h3⟩
theorem smB_step {n : Nat} {zs : List Rg} {ks : List Int} {l a q : Nat} (hq : q < n) : smB n zs ks l a q ↔ smB n zs ks l a (q + 1) ∨ (eN zs l q = a ∧ kindS n zs (opnL n zs ks) (kNt ks) q ≠ 0) := by
  constructor
  · rintro ⟨k, h1, h2, h3, h4⟩
    rcases (by omega : k = q ∨ q + 1 ≤ k) with rfl | e
    · exact .inr ⟨h3, h4⟩
    · exact .inl ⟨k, e, h2, h3, h4⟩
  · rintro (⟨k, h1, h2, h3, h4⟩ | ⟨h3, h4⟩)
    · exact ⟨k, by omega, h2, h3, h4⟩
    · exact ⟨q, Nat.le_refl _, hq, h3, h4⟩
theorem knB_step {n : Nat} {zs : List Rg} {ks : List Int} {l a q : Nat} (hq : q < n) : knB n zs ks l a q ↔ knB n zs ks l a (q + 1) ∨ (eN zs l q = a ∧ (q : Int) ∈ ks) := by
  constructor
  · rintro ⟨k, h1, h2, h3, h4⟩
    rcases (by omega : k = q ∨ q + 1 ≤ k) with rfl | e
    · exact .inr ⟨h3, h4⟩
    · exact .inl ⟨k, e, h2, h3, h4⟩
  · rintro (⟨k, h1, h2, h3, h4⟩ | ⟨h3, h4⟩)
    · exact ⟨k, by omega, h2, h3, h4⟩
    · exact ⟨q, Nat.le_refl _, hq, h3, h4⟩
section
attribute [local go_sem ↓] exec_app at_app
attribute [local go_sem] Oper.semAt_some
set_option maxRecDepth 100000 in
set_option maxHeartbeats 40000000 in
theorem items28_ (sl sr : Int) (A : Option Addr) (n cap : Nat) (zs : List Rg) (A2 : Option Addr) (kn kc : Nat) (ks : List Int) (rt : Bool) (c l : Nat) (w : World) (h : Rgs w A n zs) (hI : Ints w A2 kn ks) (hk : kn ≤ 1000) (he : chkS sl sr zs ks = 0) (hc : (if rt = true then sr else sl) = (c : Int)) (hl : (if rt = true then 1 else 0) = l) :
    Calls Try.prog 28 #[.agg #[.int .i64 sl, .int .i64 sr, .slice A n cap, .slice A2 kn kc], .bool rt] w fun e w' => ∃ C cp, e = .returned (.tuple #[.slice C c cp, .int .i64 0]) ∧ c ≤ cp ∧ Ints w' C c (ikL n zs (opnL n zs ks) (kNt ks) l c) ∧ Below w.heap.size w w' := by
  have hzl := h.1
  have hkl := hI.1
  have hrng := (shg_of he).rng
  have hn40 : n ≤ 40 := by rw [← hzl]; exact (shg_of he).n40
  have hc12 : c ≤ 12 := by
    by_cases e : rt = true
    · rw [if_pos e] at hc; omega
    · rw [if_neg e] at hc; omega
  have Hc := Lib.hid hc
  have Hle := Lib.hid (show ∀ x y : Nat, ∀ k, eN zs 0 k = x → eN zs 1 k = y → ((if rt = true then (y : Int) else (x : Int)) = ((eN zs l k : Nat) : Int)) from fun x y k e1 e2 => by
    rw [← hl]
    by_cases e : rt = true
    · rw [if_pos e, if_pos e, e2]
    · rw [if_neg e, if_neg e, e1])
  have Hsh := Lib.hid (shn_of he hzl)
  have Hin := Lib.hid (show ∀ j, j < kn → 0 ≤ iAt ks j ∧ iAt ks j < (n : Int) from fun j hj => by
    have hm : iAt ks j ∈ ks := by rw [iAt_eq (by omega)]; exact List.getElem_mem _
    obtain ⟨k, h1, h2⟩ := Hsh.out.nm _ hm
    omega)
  have Hn := Lib.hid hn40
  have He := Lib.hid he
  have Hk := Lib.hid hk
  have Hzl := Lib.hid hzl
  have Hkl := Lib.hid hkl
  clear he hzl hkl hn40 hk hrng hc hl
  obtain ⟨R, hR⟩ : ∃ v, w.heap.size = v := ⟨_, rfl⟩
  have hb0 := below_alloc_ w (.cells #[.int .i64 sl, .int .i64 sr, .slice A n cap, .slice A2 kn kc] 25)
  have hr0 := heap_alloc_new_ w (.cells #[.int .i64 sl, .int .i64 sr, .slice A n cap, .slice A2 kn kc] 25)
  have hz0 : (w.alloc (.cells #[.int .i64 sl, .int .i64 sr, .slice A n cap, .slice A2 kn kc] 25)).heap.size = w.heap.size + 1 := by simp
  obtain ⟨w0, hw0⟩ : ∃ v, w.alloc (.cells #[.int .i64 sl, .int .i64 sr, .slice A n cap, .slice A2 kn kc] 25) = v := ⟨_, rfl⟩
  rw [hw0] at hb0 hr0 hz0
  rw [hR] at hr0 hz0
  have hB := hb0
  have X := Lib.hid (h.below hB (Nat.le_refl _))
  have XI := Lib.hid (hI.below hB (Nat.le_refl _))
  have HS := Lib.hid hr0
  have HW0 := Lib.hid hw0
  have B := Lib.hid hB
  have HR := Lib.hid hR
  clear hB hR hb0 hr0 hz0 hw0 h hI
  have zHS0 : w0.cell? ⟨R, 0, none⟩ = some (.int .i64 sl) := by rw [cell_row HS.out]; rfl
  have zHS1 : w0.cell? ⟨R, 1, none⟩ = some (.int .i64 sr) := by rw [cell_row HS.out]; rfl
  have zHS2 : w0.cell? ⟨R, 2, none⟩ = some (.slice A n cap) := by rw [cell_row HS.out]; rfl
  have zHS3 : w0.cell? ⟨R, 3, none⟩ = some (.slice A2 kn kc) := by rw [cell_row HS.out]; rfl
  go_enter Try.func28, Try.ntmps28
  go_wp2_with fail
  try rw [HW0.out]
  try rw [HR.out]
  try simp only [Nat.add_assoc, Nat.reduceAdd]
  try go_wp2_with fail
  clear zHS0 zHS1 zHS2 zHS3
  refine (checkSheet19 sl sr A n cap zs A2 kn kc ks w0 X.out XI.out (by have := Hn.out; omega) (by have := Hk.out; omega)).mono ?_
  rintro en w1 ⟨rfl, hb⟩
  replace X := Lib.hid (X.out.below hb (Nat.le_refl _))
  replace XI := Lib.hid (XI.out.below hb (Nat.le_refl _))
  replace HS := Lib.hid ((hb.block _ (lt_of_block HS.out)).trans HS.out)
  replace B := Lib.hid (B.out.trans (hb.mono B.out.size))
  rw [He.out]
  try clear hb
  have zHS0 : w1.cell? ⟨R, 0, none⟩ = some (.int .i64 sl) := by rw [cell_row HS.out]; rfl
  have zHS1 : w1.cell? ⟨R, 1, none⟩ = some (.int .i64 sr) := by rw [cell_row HS.out]; rfl
  have zHS2 : w1.cell? ⟨R, 2, none⟩ = some (.slice A n cap) := by rw [cell_row HS.out]; rfl
  have zHS3 : w1.cell? ⟨R, 3, none⟩ = some (.slice A2 kn kc) := by rw [cell_row HS.out]; rfl
  go_upto_if 22 with fail
  go_cut [6] from 23 to 24 (fun v wx => v = .int .i64 (c : Int) ∧ wx = w1)
  case first =>
    cases rt
    · have hcc := Hc.out
      rw [if_neg (by simp)] at hcc
      have Hcc := Lib.hid hcc
      clear hcc
      go_wp2_with fail
      go_meet
      case rel => exact ⟨by rw [Hcc.out], rfl⟩
    · have hcc := Hc.out
      rw [if_pos rfl] at hcc
      have Hcc := Lib.hid hcc
      clear hcc
      go_wp2_with fail
      go_meet
      case rel => exact ⟨by rw [Hcc.out], rfl⟩
  case rest =>
    obtain ⟨rfl, e9⟩ := hcut
    obtain rfl : w1 = wc := e9.symm
    clear e9
    go_wp2_with fail
    clear zHS0 zHS1 zHS2 zHS3
    refine (kinds26 sl sr A n cap zs A2 kn kc ks w1 X.out XI.out Hk.out He.out).mono ?_
    rintro en w2 ⟨CK, ck, rfl, hck, hik, hb⟩
    replace X := Lib.hid (X.out.below hb (Nat.le_refl _))
    replace XI := Lib.hid (XI.out.below hb (Nat.le_refl _))
    replace HS := Lib.hid ((hb.block _ (lt_of_block HS.out)).trans HS.out)
    replace B := Lib.hid (B.out.trans (hb.mono B.out.size))
    have HKd := Lib.hid hik
    clear hik hck
    try clear hb
    have zHS0 : w2.cell? ⟨R, 0, none⟩ = some (.int .i64 sl) := by rw [cell_row HS.out]; rfl
    have zHS1 : w2.cell? ⟨R, 1, none⟩ = some (.int .i64 sr) := by rw [cell_row HS.out]; rfl
    have zHS2 : w2.cell? ⟨R, 2, none⟩ = some (.slice A n cap) := by rw [cell_row HS.out]; rfl
    have zHS3 : w2.cell? ⟨R, 3, none⟩ = some (.slice A2 kn kc) := by rw [cell_row HS.out]; rfl
    go_wp2_with fail
    clear zHS0 zHS1 zHS2 zHS3
    have XA := X
    have IA := XI
    have KA := HKd
    have SA := HS
    have BA := B
    have HV0 := Lib.hid (show w2.ownsRow 0 3 1 (Value.slice none 0 0) 0 (flatI (ikL n zs (opnL n zs ks) (kNt ks) l 0)) ∧ (∀ g, ((Value.slice none 0 0)).ownBlock = some g → w2.heap.size ≤ g) ∧ Below w2.heap.size w2 w2 from ⟨own_nil _ _ _, fun g e => (by cases e), Below.refl _ _⟩)
    clear X XI HKd HS B
    go_loopw [9, 10] (fun v iv wr => ∃ (a : Nat) (v0 : Value), a ≤ c ∧ v = v0 ∧ iv = .int .i64 (a : Int) ∧ Hid (wr.ownsRow 0 3 1 v0 a (flatI (ikL n zs (opnL n zs ks) (kNt ks) l a)) ∧ (∀ g, (v0).ownBlock = some g → w2.heap.size ≤ g) ∧ Below w2.heap.size w2 wr)) (fun _ v _ => c - (intOf v).toNat)
    case atStart => exact ⟨0, _, Nat.zero_le _, rfl, rfl, HV0⟩
    case round =>
      obtain ⟨a, v9, ha, hv9, rfl, HV⟩ := hrel
      obtain rfl : v9 = _ := hv9.symm
      obtain ⟨w3, rfl⟩ : ∃ v, v = wr := ⟨_, rfl⟩
      clear HV0
      have hb := HV.out.2.2
      have X := Lib.hid (XA.out.below hb (Nat.le_refl _))
      have XI := Lib.hid (IA.out.below hb (Nat.le_refl _))
      have HKd := Lib.hid (KA.out.below hb (Nat.le_refl _))
      have HS := Lib.hid ((hb.block _ (lt_of_block SA.out)).trans SA.out)
      have B := Lib.hid (BA.out.trans (hb.mono BA.out.size))
      clear hb
      by_cases hlt : a < c
      · have hnb := Hn.out
        have zHS0 : w3.cell? ⟨R, 0, none⟩ = some (.int .i64 sl) := by rw [cell_row HS.out]; rfl
        have zHS1 : w3.cell? ⟨R, 1, none⟩ = some (.int .i64 sr) := by rw [cell_row HS.out]; rfl
        have zHS2 : w3.cell? ⟨R, 2, none⟩ = some (.slice A n cap) := by rw [cell_row HS.out]; rfl
        have zHS3 : w3.cell? ⟨R, 3, none⟩ = some (.slice A2 kn kc) := by rw [cell_row HS.out]; rfl
        have hzl := lt_of_block HS.out
        have hb := below_alloc_ w3 (.cells #[.int .i64 sl, .int .i64 sr, .slice A n cap, .slice A2 kn kc] 25)
        have hr := heap_alloc_new_ w3 (.cells #[.int .i64 sl, .int .i64 sr, .slice A n cap, .slice A2 kn kc] 25)
        obtain ⟨w4, hw4⟩ : ∃ v, w3.alloc (.cells #[.int .i64 sl, .int .i64 sr, .slice A n cap, .slice A2 kn kc] 25) = v := ⟨_, rfl⟩
        obtain ⟨T, hT⟩ : ∃ v, w3.heap.size = v := ⟨_, rfl⟩
        rw [hw4] at hb hr
        rw [hT] at hr
        have Hw4 := Lib.hid hw4
        have HTe := Lib.hid hT
        have hown := own_keep HV.out.1 (Keeps.of_new (Mut := fun _ => False) hb) (fun _ _ e => e)
        have HOT := Lib.hid (show ∀ g, Value.ownBlock v9 = some g → g ≠ T from fun g e => by have := own_lt HV.out.1 g e; omega)
        have hbw := HV.out.2.2.trans (hb.mono HV.out.2.2.size)
        have HGT := Lib.hid (show w2.heap.size ≤ T by rw [← hT]; exact HV.out.2.2.size)
        have hX1 : Rgs w4 A n zs := X.out.below hb (Nat.le_refl _)
        have hI1 : Ints w4 A2 kn ks := XI.out.below hb (Nat.le_refl _)
        clear hw4 hT
        have hS : ItS sl sr n kn zs ks l a n T w4 := ⟨n, A, cap, A2, kc, zs, ks, id, fun _ => false, hr, hX1, hI1, SubS.start n zs ks, He.out, fun j hj => rfl, Nat.le_refl _, Nat.le_refl _, fun k hk => ⟨fun e => (by cases e), fun e => (by have := e.1; omega)⟩⟩
        have HI0 := Lib.hid (show (false = true ↔ smB n zs ks l a n) ∧ (false = true ↔ knB n zs ks l a n) ∧ ItS sl sr n kn zs ks l a n T w4 ∧ w4.ownsRow 0 3 1 v9 a (flatI (ikL n zs (opnL n zs ks) (kNt ks) l a)) ∧ (∀ g, (v9).ownBlock = some g → w2.heap.size ≤ g) ∧ Below w2.heap.size w2 w4 from ⟨⟨fun e => (by cases e), fun ⟨k, h1, h2, _⟩ => absurd h1 (by omega)⟩, ⟨fun e => (by cases e), fun ⟨k, h1, h2, _⟩ => absurd h1 (by omega)⟩, hS, hown, HV.out.2.1, hbw⟩)
        clear hb hr hown hbw hX1 hI1 hS HV
        go_wp2_with fail
        try rw [Hw4.out]
        try rw [HTe.out]
        try go_wp2_with fail
        clear hzl
        clear zHS0 zHS1 zHS2 zHS3
        clear X XI HKd HS B
        go_loopw [11, 12, 14] (fun sv kv iv wr => ∃ (q : Nat) (z : Int) (sm kb : Bool), q ≤ n ∧ z + 1 = (q : Int) ∧ sv = .bool sm ∧ kv = .bool kb ∧ iv = .int .i64 z ∧ Hid ((sm = true ↔ smB n zs ks l a q) ∧ (kb = true ↔ knB n zs ks l a q) ∧ ItS sl sr n kn zs ks l a q T wr ∧ wr.ownsRow 0 3 1 v9 a (flatI (ikL n zs (opnL n zs ks) (kNt ks) l a)) ∧ (∀ g, (v9).ownBlock = some g → w2.heap.size ≤ g) ∧ Below w2.heap.size w2 wr)) (fun _ _ v _ => (intOf v + 1).toNat)
        case atStart => exact ⟨n, (n : Int) - 1, false, false, Nat.le_refl _, by omega, rfl, rfl, by go_num, HI0⟩
        case round =>
          obtain ⟨q, z, sm, kb, hq, hz, rfl, rfl, rfl, HJ⟩ := hrel
          obtain ⟨w5, rfl⟩ : ∃ v, v = wr := ⟨_, rfl⟩
          clear HI0
          have hb := HJ.out.2.2.2.2.2
          have X := Lib.hid (XA.out.below hb (Nat.le_refl _))
          have XI := Lib.hid (IA.out.below hb (Nat.le_refl _))
          have HKd := Lib.hid (KA.out.below hb (Nat.le_refl _))
          have HS := Lib.hid ((hb.block _ (lt_of_block SA.out)).trans SA.out)
          have B := Lib.hid (BA.out.trans (hb.mono BA.out.size))
          clear hb
          by_cases hz0 : 0 ≤ z
          · have hnb := Hn.out
            obtain ⟨k, rfl⟩ : ∃ k : Nat, z = (k : Int) := ⟨z.toNat, by omega⟩
            obtain rfl : q = k + 1 := by omega
            have hkn : k < n := by omega
            have hz1 : (k : Int) ≥ 0 := by omega
            obtain ⟨bz, oz, eZ, hcz⟩ := X.out.2 (by omega)
            subst eZ
            have hzk := (Hsh.out.z.at hkn).1
            have cA := (hcz k hkn).1
            have cB := (hcz k hkn).2
            rw [hzk] at cA cB
            simp only at cA cB
            obtain ⟨ga, hga⟩ : ∃ v, eN zs 0 k = v := ⟨_, rfl⟩
            obtain ⟨gb, hgb⟩ : ∃ v, eN zs 1 k = v := ⟨_, rfl⟩
            rw [hga] at cA
            rw [hgb] at cB
            have hle := Hle.out ga gb k hga hgb
            have Hle2 := Lib.hid hle
            obtain ⟨bk, ok, eK, hck⟩ := HKd.out.2 (by omega)
            subst eK
            have i0 : (0 : Int) ≤ (k : Int) := by omega
            have i1 : (k : Int) < (n : Int) := by omega
            have Hzz := Lib.hid hz
            clear hcz hzk hga hgb hle hck hz0 hz hq
            have zHS0 : w5.cell? ⟨R, 0, none⟩ = some (.int .i64 sl) := by rw [cell_row HS.out]; rfl
            have zHS1 : w5.cell? ⟨R, 1, none⟩ = some (.int .i64 sr) := by rw [cell_row HS.out]; rfl
            have zHS2 : w5.cell? ⟨R, 2, none⟩ = some (.slice (some ⟨bz, oz, none⟩) n cap) := by rw [cell_row HS.out]; rfl
            have zHS3 : w5.cell? ⟨R, 3, none⟩ = some (.slice A2 kn kc) := by rw [cell_row HS.out]; rfl
            go_wp2_with fail
            clear zHS0 zHS1 zHS2 zHS3
            refine (has56 (ga : Int) (gb : Int) (a : Int) rt w5).mono ?_
            rintro en w6 ⟨rfl, hb⟩
            replace X := Lib.hid (X.out.below hb (Nat.le_refl _))
            replace XI := Lib.hid (XI.out.below hb (Nat.le_refl _))
            replace HKd := Lib.hid (HKd.out.below hb (Nat.le_refl _))
            replace HS := Lib.hid ((hb.block _ (lt_of_block HS.out)).trans HS.out)
            replace B := Lib.hid (B.out.trans (hb.mono B.out.size))
            rw [Hle2.out]
            have hJ := HJ.out
            have HJ2 := Lib.hid (show (sm = true ↔ smB n zs ks l a (k + 1)) ∧ (kb = true ↔ knB n zs ks l a (k + 1)) ∧ ItS sl sr n kn zs ks l a (k + 1) T w6 ∧ w6.ownsRow 0 3 1 v9 a (flatI (ikL n zs (opnL n zs ks) (kNt ks) l a)) ∧ (∀ g, (v9).ownBlock = some g → w2.heap.size ≤ g) ∧ Below w2.heap.size w2 w6 from ⟨hJ.1, hJ.2.1, hJ.2.2.1.new hb, own_keep hJ.2.2.2.1 (Keeps.of_new (Mut := fun _ => False) hb) (fun _ _ e => e), hJ.2.2.2.2.1, hJ.2.2.2.2.2.trans (hb.mono hJ.2.2.2.2.2.size)⟩)
            clear HJ hJ cA cB
            by_cases hka : eN zs l k = a
            rotate_left
            try clear hb
            · rw [decide_eq_false (show ¬ ((eN zs l k : Nat) : Int) = (a : Int) by omega)]
              have hJ := HJ2.out
              have HN := Lib.hid (show (sm = true ↔ smB n zs ks l a k) ∧ (kb = true ↔ knB n zs ks l a k) ∧ ItS sl sr n kn zs ks l a k T w6 ∧ w6.ownsRow 0 3 1 v9 a (flatI (ikL n zs (opnL n zs ks) (kNt ks) l a)) ∧ (∀ g, (v9).ownBlock = some g → w2.heap.size ≤ g) ∧ Below w2.heap.size w2 w6 from ⟨hJ.1.trans ⟨fun h => (smB_step hkn).2 (.inl h), fun h => ((smB_step hkn).1 h).resolve_right (fun e => hka e.1)⟩, hJ.2.1.trans ⟨fun h => (knB_step hkn).2 (.inl h), fun h => ((knB_step hkn).1 h).resolve_right (fun e => hka e.1)⟩, hJ.2.2.1.stay (.inl hka), hJ.2.2.2⟩)
              clear hJ
              have zHS0 : w6.cell? ⟨R, 0, none⟩ = some (.int .i64 sl) := by rw [cell_row HS.out]; rfl
              have zHS1 : w6.cell? ⟨R, 1, none⟩ = some (.int .i64 sr) := by rw [cell_row HS.out]; rfl
              have zHS2 : w6.cell? ⟨R, 2, none⟩ = some (.slice (some ⟨bz, oz, none⟩) n cap) := by rw [cell_row HS.out]; rfl
              have zHS3 : w6.cell? ⟨R, 3, none⟩ = some (.slice A2 kn kc) := by rw [cell_row HS.out]; rfl
              go_wp2_with fail
              clear zHS0 zHS1 zHS2 zHS3
              go_roundw
              case rel => exact ⟨k, (k : Int) - 1, sm, kb, by omega, by omega, rfl, rfl, by go_num, HN⟩
              case measure => simp [intOf] <;> omega
            rw [decide_eq_true (show ((eN zs l k : Nat) : Int) = (a : Int) by omega)]
            have x0 := (HKd.out.2 (by omega))
            obtain ⟨b8, o8, e8, hck⟩ := x0
            cases e8
            have x0 := hck k hkn
            rw [kindsK_at hkn] at x0
            obtain ⟨kv, hkv⟩ : ∃ v, kindS n zs (opnL n zs ks) (kNt ks) k = v := ⟨_, rfl⟩
            rw [hkv] at x0
            have hk3 : 0 < kv ↔ kindS n zs (opnL n zs ks) (kNt ks) k ≠ 0 := by
              rw [hkv]
              rcases kind_may n zs (opnL n zs ks) (kNt ks) k with e | e | e <;> rw [hkv] at e <;> omega
            have Hk3 := Lib.hid hk3
            clear hck hkv hk3
            have zHS0 : w6.cell? ⟨R, 0, none⟩ = some (.int .i64 sl) := by rw [cell_row HS.out]; rfl
            have zHS1 : w6.cell? ⟨R, 1, none⟩ = some (.int .i64 sr) := by rw [cell_row HS.out]; rfl
            have zHS2 : w6.cell? ⟨R, 2, none⟩ = some (.slice (some ⟨bz, oz, none⟩) n cap) := by rw [cell_row HS.out]; rfl
            have zHS3 : w6.cell? ⟨R, 3, none⟩ = some (.slice A2 kn kc) := by rw [cell_row HS.out]; rfl
            go_upto_region 17 with fail
            go_cut [11] from 40 to 67 (fun v wx => v = .bool (sm || decide (0 < kv)) ∧ wx = w6)
            case first =>
              by_cases hk0 : 0 < kv
              · have hk1 : kv > 0 := hk0
                cases sm
                · go_wp2_with fail
                  go_meet
                  case rel => exact ⟨by simp [hk0], rfl⟩
                · go_wp2_with fail
                  go_meet
                  case rel => exact ⟨by simp [hk0], rfl⟩
              · have hk1 : ¬ kv > 0 := hk0
                cases sm
                · go_wp2_with fail
                  go_meet
                  case rel => exact ⟨by simp [hk0], rfl⟩
                · go_wp2_with fail
                  go_meet
                  case rel => exact ⟨by simp [hk0], rfl⟩
            case rest =>
              obtain ⟨rfl, e9⟩ := hcut
              obtain rfl : w6 = wc := e9.symm
              clear e9 x0
              obtain ⟨s2, hs2⟩ : ∃ v, (sm || decide (0 < kv)) = v := ⟨_, rfl⟩
              have hs3 : s2 = true ↔ smB n zs ks l a k := by
                rw [← hs2, Bool.or_eq_true, decide_eq_true_eq, HJ2.out.1, Hk3.out, smB_step hkn]
                exact ⟨fun e => e.elim .inl (fun e => .inr ⟨hka, e⟩), fun e => e.elim .inl (fun e => .inr e.2)⟩
              rw [hs2]
              have Hs3 := Lib.hid hs3
              clear hs2 hs3
              go_wp2_with fail
              clear zHS0 zHS1 zHS2 zHS3
              refine (in34 A2 kn kc ks (k : Int) w6 XI.out (by have := Hk.out; omega)).mono ?_
              rintro en w9 ⟨rfl, e9⟩
              obtain rfl : w6 = w9 := e9.symm
              clear e9
              by_cases hin : (k : Int) ∈ ks
              · rw [decide_eq_true hin]
                have zHS0 : w6.cell? ⟨R, 0, none⟩ = some (.int .i64 sl) := by rw [cell_row HS.out]; rfl
                have zHS1 : w6.cell? ⟨R, 1, none⟩ = some (.int .i64 sr) := by rw [cell_row HS.out]; rfl
                have zHS2 : w6.cell? ⟨R, 2, none⟩ = some (.slice (some ⟨bz, oz, none⟩) n cap) := by rw [cell_row HS.out]; rfl
                have zHS3 : w6.cell? ⟨R, 3, none⟩ = some (.slice A2 kn kc) := by rw [cell_row HS.out]; rfl
                go_wp2_with fail
                clear zHS0 zHS1 zHS2 zHS3
                have hJ := HJ2.out
                have HN := Lib.hid (show (s2 = true ↔ smB n zs ks l a k) ∧ (true = true ↔ knB n zs ks l a k) ∧ ItS sl sr n kn zs ks l a k T w6 ∧ w6.ownsRow 0 3 1 v9 a (flatI (ikL n zs (opnL n zs ks) (kNt ks) l a)) ∧ (∀ g, (v9).ownBlock = some g → w2.heap.size ≤ g) ∧ Below w2.heap.size w2 w6 from ⟨Hs3.out, ⟨fun _ => (knB_step hkn).2 (.inr ⟨hka, hin⟩), fun _ => rfl⟩, hJ.2.2.1.stay (.inr hin), hJ.2.2.2⟩)
                go_roundw
                case rel => exact ⟨k, (k : Int) - 1, s2, true, by omega, by omega, rfl, rfl, by go_num, HN⟩
                case measure => simp [intOf] <;> omega
              · rw [decide_eq_false hin]
                obtain ⟨m, C, cp, C2, c2, zs', ks', f, rm, hx⟩ := HJ2.out.2.2.1
                have HX := Lib.hid hx
                have HTr := Lib.hid hx.row
                have Hin2 := Lib.hid (show ∀ j, j < kn → -1000000 ≤ iAt ks' j ∧ iAt ks' j ≤ 1000000 from fun j hj => by
                  have hl := hx.i.1
                  have hm : iAt ks' j ∈ ks' := by rw [iAt_eq (by omega)]; exact List.getElem_mem _
                  obtain ⟨k, h1, h2⟩ := (shn_of hx.ch hx.r.1).nm _ hm
                  have := hx.mn
                  omega)
                have hmn := hx.mn
                have hqm := hx.qm
                clear hx
                have zHS0 : w6.cell? ⟨R, 0, none⟩ = some (.int .i64 sl) := by rw [cell_row HS.out]; rfl
                have zHS1 : w6.cell? ⟨R, 1, none⟩ = some (.int .i64 sr) := by rw [cell_row HS.out]; rfl
                have zHS2 : w6.cell? ⟨R, 2, none⟩ = some (.slice (some ⟨bz, oz, none⟩) n cap) := by rw [cell_row HS.out]; rfl
                have zHS3 : w6.cell? ⟨R, 3, none⟩ = some (.slice A2 kn kc) := by rw [cell_row HS.out]; rfl
                have zHTr0 : w6.cell? ⟨T, 0, none⟩ = some (.int .i64 sl) := by rw [cell_row HTr.out]; rfl
                have zHTr1 : w6.cell? ⟨T, 1, none⟩ = some (.int .i64 sr) := by rw [cell_row HTr.out]; rfl
                have zHTr2 : w6.cell? ⟨T, 2, none⟩ = some (.slice C m cp) := by rw [cell_row HTr.out]; rfl
                have zHTr3 : w6.cell? ⟨T, 3, none⟩ = some (.slice C2 kn c2) := by rw [cell_row HTr.out]; rfl
                go_wp2_with fail
                clear zHS0 zHS1 zHS2 zHS3 zHTr0 zHTr1 zHTr2 zHTr3
                refine (without36n sl sr C m cp zs' C2 kn c2 ks' k w6 HX.out.r HX.out.i (by omega) Hk.out Hin2.out).mono ?_
                rintro en w7 ⟨D, dp, D2, d2, rfl, hdp, hd2, hr2, hi2, hbl, hb⟩
                replace X := Lib.hid (X.out.below hb (Nat.le_refl _))
                replace XI := Lib.hid (XI.out.below hb (Nat.le_refl _))
                replace HKd := Lib.hid (HKd.out.below hb (Nat.le_refl _))
                replace HS := Lib.hid ((hb.block _ (lt_of_block HS.out)).trans HS.out)
                replace HTr := Lib.hid ((hb.block _ (lt_of_block HTr.out)).trans HTr.out)
                replace B := Lib.hid (B.out.trans (hb.mono B.out.size))
                have hl := wzP_lenE zs' (show k < m by omega)
                rw [hl] at hr2 hdp ⊢
                have hlt9 := lt_of_block HX.out.row
                have hN := ItX.less (dp := dp) (d2 := d2) HX.out HX.out.i.1 hkn hka hin HTr.out hr2 hi2 (fun a e => by have := hbl.1 a e; omega) (fun a e => by have := hbl.2 a e; omega)
                have hkk := setT_keeps w7 T sl sr (.slice D (m - 1) dp) (.slice D2 kn d2)
                have hJ := HJ2.out.2.2.2
                have hbb := hJ.2.2.trans (hb.mono hJ.2.2.size)
                have hoo := own_keep (own_keep hJ.1 (Keeps.of_new (Mut := fun _ => False) hb) (fun _ _ e => e)) hkk (fun g e => HOT.out g e)
                have HN := Lib.hid (show (s2 = true ↔ smB n zs ks l a k) ∧ (kb = true ↔ knB n zs ks l a k) ∧ ItS sl sr n kn zs ks l a k T (setT w7 T sl sr (.slice D (m - 1) dp) (.slice D2 kn d2)) ∧ (setT w7 T sl sr (.slice D (m - 1) dp) (.slice D2 kn d2)).ownsRow 0 3 1 v9 a (flatI (ikL n zs (opnL n zs ks) (kNt ks) l a)) ∧ (∀ g, (v9).ownBlock = some g → w2.heap.size ≤ g) ∧ Below w2.heap.size w2 (setT w7 T sl sr (.slice D (m - 1) dp) (.slice D2 kn d2)) from ⟨Hs3.out, HJ2.out.2.1.trans ⟨fun h => (knB_step hkn).2 (.inl h), fun h => ((knB_step hkn).1 h).resolve_right (fun e => hin e.2)⟩, hN, hoo, hJ.2.1, hbb.trans (hkk.below hbb.size (fun j hj (e : j = T) => by have := HGT.out; omega))⟩)
                unfold setT at HN
                clear hl hr2 hdp hd2 hi2 hbl hlt9 hN hkk hJ hbb hoo HX HJ2
                try clear hb
                have zHS0 : w7.cell? ⟨R, 0, none⟩ = some (.int .i64 sl) := by rw [cell_row HS.out]; rfl
                have zHS1 : w7.cell? ⟨R, 1, none⟩ = some (.int .i64 sr) := by rw [cell_row HS.out]; rfl
                have zHS2 : w7.cell? ⟨R, 2, none⟩ = some (.slice (some ⟨bz, oz, none⟩) n cap) := by rw [cell_row HS.out]; rfl
                have zHS3 : w7.cell? ⟨R, 3, none⟩ = some (.slice A2 kn kc) := by rw [cell_row HS.out]; rfl
                have zHTr0 : w7.cell? ⟨T, 0, none⟩ = some (.int .i64 sl) := by rw [cell_row HTr.out]; rfl
                have zHTr1 : w7.cell? ⟨T, 1, none⟩ = some (.int .i64 sr) := by rw [cell_row HTr.out]; rfl
                have zHTr2 : w7.cell? ⟨T, 2, none⟩ = some (.slice C m cp) := by rw [cell_row HTr.out]; rfl
                have zHTr3 : w7.cell? ⟨T, 3, none⟩ = some (.slice C2 kn c2) := by rw [cell_row HTr.out]; rfl
                have fS := fun o : Nat => frozen_row (k := o) HTr.out
                go_wp2_with fail
                clear zHS0 zHS1 zHS2 zHS3 zHTr0 zHTr1 zHTr2 zHTr3
                go_roundw
                case rel => exact ⟨k, (k : Int) - 1, s2, kb, by omega, by omega, rfl, rfl, by go_num, HN⟩
                case measure => simp [intOf] <;> omega
          · obtain rfl : q = 0 := by omega
            obtain rfl : z = -1 := by omega
            obtain ⟨m, C, cp, C2, c2, zs', ks', f, rm, hx⟩ := HJ.out.2.2.1
            have HX := Lib.hid hx
            have HTr := Lib.hid hx.row
            have Hs0 := Lib.hid HJ.out.1
            have Hk0 := Lib.hid HJ.out.2.1
            have hJ := HJ.out.2.2.2
            have hnb := Hn.out
            have HX2 := Lib.hid (shn_of hx.ch hx.r.1)
            clear hx HJ hz0 hz hq
            cases kb
            rotate_left
            · go_wp2_with fail
              refine wp_region_held_drew (S := fun w2 => Below w5.heap.size w5 w2) (by kernel_rfl) (drew_b _ _) (fun hS0 => ?_)
              refine wpAnyH_take (i := 0) (oi := { dst := some 68, op := Go.Op.move (Go.Operand.tmp 12), type := 4, pos := "ref.go:234", after := #[], guard := none }) (v := .bool true) rfl (by kernel_rfl) (by kernel_rfl) (by kernel_rfl) (fun _ _ _ h => h) (Or.inl ⟨by rfl, by intro w2 hSw; (try dsimp only at hSw); go_simp⟩) hS0 ?_
              try simp only [Act.put, List.setIfInBounds_toArray, List.set_cons_zero, List.set_cons_succ]
              refine wpAnyH_take (i := 1) (oi := { dst := some 69, op := Go.Op.move (Go.Operand.tmp 68), type := 4, pos := "ref.go:234", after := #[{ on := 0, ground := Go.Ground.data }], guard := none }) (v := .bool true) rfl (by kernel_rfl) (by kernel_rfl) (by kernel_rfl) (fun _ _ _ h => h) (Or.inl ⟨by rfl, by intro w2 hSw; (try dsimp only at hSw); go_simp⟩) hS0 ?_
              try simp only [Act.put, List.setIfInBounds_toArray, List.set_cons_zero, List.set_cons_succ]
              refine wpAnyH_take (i := 2) (oi := { dst := some 70, op := Go.Op.move (Go.Operand.tmp 11), type := 4, pos := "ref.go:234", after := #[{ on := 1, ground := Go.Ground.guard }], guard := some (1, false) }) (v := undef) rfl (by kernel_rfl) (by kernel_rfl) (by kernel_rfl) (fun _ _ _ h => h) (Or.inr ⟨by rfl, rfl⟩) hS0 ?_
              try simp only [Act.put, List.setIfInBounds_toArray, List.set_cons_zero, List.set_cons_succ]
              refine wpAnyH_take (i := 3) (oi := { dst := some 71, op := Go.Op.move (Go.Operand.tmp 70), type := 4, pos := "ref.go:234", after := #[{ on := 2, ground := Go.Ground.data }, { on := 1, ground := Go.Ground.chain }, { on := 1, ground := Go.Ground.guard }], guard := some (1, false) }) (v := undef) rfl (by kernel_rfl) (by kernel_rfl) (by kernel_rfl) (fun _ _ _ h => h) (Or.inr ⟨by rfl, rfl⟩) hS0 ?_
              try simp only [Act.put, List.setIfInBounds_toArray, List.set_cons_zero, List.set_cons_succ]
              refine wpAnyH_take (i := 4) (oi := { dst := some 72, op := Go.Op.load 25 (Go.Operand.tmp 13), type := 25, pos := "ref.go:234", after := #[{ on := 3, ground := Go.Ground.guard }], guard := some (3, true) }) (v := undef) rfl (by kernel_rfl) (by kernel_rfl) (by kernel_rfl) (fun _ _ _ h => h) (Or.inr ⟨by rfl, rfl⟩) hS0 ?_
              try simp only [Act.put, List.setIfInBounds_toArray, List.set_cons_zero, List.set_cons_succ]
              refine wpAnyH_take (i := 5) (oi := { dst := some 73, op := Go.Op.call { callee := Go.Callee.value (Go.Operand.func 24), args := #[Go.Operand.tmp 72], argTypes := #[25] }, type := 3, pos := "ref.go:234", after := #[{ on := 4, ground := Go.Ground.data }, { on := 3, ground := Go.Ground.chain }, { on := 3, ground := Go.Ground.guard }], guard := some (3, true) }) (v := undef) rfl (by kernel_rfl) (by kernel_rfl) (by kernel_rfl) (fun _ _ _ h => h) (Or.inr ⟨by rfl, rfl⟩) hS0 ?_
              try simp only [Act.put, List.setIfInBounds_toArray, List.set_cons_zero, List.set_cons_succ]
              refine wpAnyH_take (i := 6) (oi := { dst := some 74, op := Go.Op.load 25 (Go.Operand.tmp 2), type := 25, pos := "ref.go:234", after := #[{ on := 3, ground := Go.Ground.guard }], guard := some (3, true) }) (v := undef) rfl (by kernel_rfl) (by kernel_rfl) (by kernel_rfl) (fun _ _ _ h => h) (Or.inr ⟨by rfl, rfl⟩) hS0 ?_
              try simp only [Act.put, List.setIfInBounds_toArray, List.set_cons_zero, List.set_cons_succ]
              refine wpAnyH_take (i := 7) (oi := { dst := some 75, op := Go.Op.call { callee := Go.Callee.value (Go.Operand.func 24), args := #[Go.Operand.tmp 74], argTypes := #[25] }, type := 3, pos := "ref.go:234", after := #[{ on := 6, ground := Go.Ground.data }, { on := 5, ground := Go.Ground.chain }, { on := 3, ground := Go.Ground.guard }], guard := some (3, true) }) (v := undef) rfl (by kernel_rfl) (by kernel_rfl) (by kernel_rfl) (fun _ _ _ h => h) (Or.inr ⟨by rfl, rfl⟩) hS0 ?_
              try simp only [Act.put, List.setIfInBounds_toArray, List.set_cons_zero, List.set_cons_succ]
              refine wpAnyH_take (i := 8) (oi := { dst := some 76, op := Go.Op.binOp Go.BinOp.lss 3 (Go.Operand.tmp 73) (Go.Operand.tmp 75) 3, type := 4, pos := "ref.go:234", after := #[{ on := 5, ground := Go.Ground.data }, { on := 7, ground := Go.Ground.data }, { on := 3, ground := Go.Ground.guard }], guard := some (3, true) }) (v := undef) rfl (by kernel_rfl) (by kernel_rfl) (by kernel_rfl) (fun _ _ _ h => h) (Or.inr ⟨by rfl, rfl⟩) hS0 ?_
              try simp only [Act.put, List.setIfInBounds_toArray, List.set_cons_zero, List.set_cons_succ]
              refine wpAnyH_take (i := 9) (oi := { dst := some 77, op := Go.Op.pick (Go.Operand.tmp 71) (Go.Operand.tmp 76) (Go.Operand.const (Go.Value.bool false)), type := 4, pos := "ref.go:234", after := #[{ on := 3, ground := Go.Ground.data }, { on := 8, ground := Go.Ground.data }, { on := 1, ground := Go.Ground.guard }], guard := some (1, false) }) (v := undef) rfl (by kernel_rfl) (by kernel_rfl) (by kernel_rfl) (fun _ _ _ h => h) (Or.inr ⟨by rfl, rfl⟩) hS0 ?_
              try simp only [Act.put, List.setIfInBounds_toArray, List.set_cons_zero, List.set_cons_succ]
              refine wpAnyH_take (i := 10) (oi := { dst := some 78, op := Go.Op.pick (Go.Operand.tmp 69) (Go.Operand.const (Go.Value.bool true)) (Go.Operand.tmp 77), type := 4, pos := "ref.go:234", after := #[{ on := 1, ground := Go.Ground.data }, { on := 9, ground := Go.Ground.data }], guard := none }) (v := .bool true) rfl (by kernel_rfl) (by kernel_rfl) (by kernel_rfl) (fun _ _ _ h => h) (Or.inl ⟨by rfl, by intro w2 hSw; (try dsimp only at hSw); go_simp⟩) hS0 ?_
              try simp only [Act.put, List.setIfInBounds_toArray, List.set_cons_zero, List.set_cons_succ]
              refine wpAnyH_done (by kernel_rfl) ?_ _
              obtain ⟨V9, hV9⟩ : ∃ v, w5.drew = v := ⟨_, rfl⟩
              rw [hV9] at hS0 ⊢
              clear hV9
              have hJ := (show V9.ownsRow 0 3 1 v9 a (flatI (ikL n zs (opnL n zs ks) (kNt ks) l a)) ∧ (∀ g, v9.ownBlock = some g → w2.heap.size ≤ g) ∧ Below w2.heap.size w2 V9 from ⟨own_keep hJ.1 (Keeps.of_new (Mut := fun _ => False) hS0) (fun _ _ e => e), hJ.2.1, hJ.2.2.trans (hS0.mono hJ.2.2.size)⟩)
              clear hS0
              have hit := it_known Hsh.out (by have := Hk0.out; simpa using this)
              have hks := ikL_succ n zs (opnL n zs ks) (kNt ks) l a
              rw [hit] at hks
              obtain ⟨E, ec, W1, hrun, hown2, hkp, hnew⟩ := app_int (hJ.1) 2 (by omega)
              rw [← hks] at hown2
              have hbj := hJ.2.2
              have hsz2 := hbj.size
              have HN := Lib.hid (show W1.ownsRow 0 3 1 (Value.slice E (a + 1) ec) (a + 1) (flatI (ikL n zs (opnL n zs ks) (kNt ks) l (a + 1))) ∧ (∀ g, ((Value.slice E (a + 1) ec)).ownBlock = some g → w2.heap.size ≤ g) ∧ Below w2.heap.size w2 W1 from ⟨hown2, fun g e => by
                rcases hnew g e with e2 | e2
                · exact hJ.2.1 g e2
                · omega, hbj.trans (hkp.below hsz2 (fun j hj e => by have := hJ.2.1 j e; omega))⟩)
              have hrun2 : runA Try.prog 23 v9 (.slice (some ⟨V9.heap.size, 0, none⟩) 1 1) (V9.alloc (.cells (Array.foldl (fun (cs : Array Value) (x : Value × Nat) => cs.setIfInBounds x.snd x.fst) #[[Value.int IntKind.i64 0][0]?.getD default] #[(Value.int IntKind.i64 2, 0)] 0 1) 3)) = .ok (.value (.slice E (a + 1) ec)) W1 := hrun
              clear hit hks hown2 hbj hsz2 hkp hnew hJ
              go_wp2_with fail
              try (first | rw [hrun] | rw [hrun2])
              try go_wp2_with fail
              go_roundw
              case rel => exact ⟨a + 1, _, by omega, rfl, by go_num, HN⟩
              case measure => simp [intOf] <;> omega
            cases sm
            · go_wp2_with fail
              refine wp_region_held_drew (S := fun w2 => Below w5.heap.size w5 w2) (by kernel_rfl) (drew_b _ _) (fun hS0 => ?_)
              refine wpAnyH_take (i := 0) (oi := { dst := some 68, op := Go.Op.move (Go.Operand.tmp 12), type := 4, pos := "ref.go:234", after := #[], guard := none }) (v := .bool false) rfl (by kernel_rfl) (by kernel_rfl) (by kernel_rfl) (fun _ _ _ h => h) (Or.inl ⟨by rfl, by intro w2 hSw; (try dsimp only at hSw); go_simp⟩) hS0 ?_
              try simp only [Act.put, List.setIfInBounds_toArray, List.set_cons_zero, List.set_cons_succ]
              refine wpAnyH_take (i := 1) (oi := { dst := some 69, op := Go.Op.move (Go.Operand.tmp 68), type := 4, pos := "ref.go:234", after := #[{ on := 0, ground := Go.Ground.data }], guard := none }) (v := .bool false) rfl (by kernel_rfl) (by kernel_rfl) (by kernel_rfl) (fun _ _ _ h => h) (Or.inl ⟨by rfl, by intro w2 hSw; (try dsimp only at hSw); go_simp⟩) hS0 ?_
              try simp only [Act.put, List.setIfInBounds_toArray, List.set_cons_zero, List.set_cons_succ]
              refine wpAnyH_take (i := 2) (oi := { dst := some 70, op := Go.Op.move (Go.Operand.tmp 11), type := 4, pos := "ref.go:234", after := #[{ on := 1, ground := Go.Ground.guard }], guard := some (1, false) }) (v := .bool false) rfl (by kernel_rfl) (by kernel_rfl) (by kernel_rfl) (fun _ _ _ h => h) (Or.inl ⟨by rfl, by intro w2 hSw; (try dsimp only at hSw); go_simp⟩) hS0 ?_
              try simp only [Act.put, List.setIfInBounds_toArray, List.set_cons_zero, List.set_cons_succ]
              refine wpAnyH_take (i := 3) (oi := { dst := some 71, op := Go.Op.move (Go.Operand.tmp 70), type := 4, pos := "ref.go:234", after := #[{ on := 2, ground := Go.Ground.data }, { on := 1, ground := Go.Ground.chain }, { on := 1, ground := Go.Ground.guard }], guard := some (1, false) }) (v := .bool false) rfl (by kernel_rfl) (by kernel_rfl) (by kernel_rfl) (fun _ _ _ h => h) (Or.inl ⟨by rfl, by intro w2 hSw; (try dsimp only at hSw); go_simp⟩) hS0 ?_
              try simp only [Act.put, List.setIfInBounds_toArray, List.set_cons_zero, List.set_cons_succ]
              refine wpAnyH_take (i := 4) (oi := { dst := some 72, op := Go.Op.load 25 (Go.Operand.tmp 13), type := 25, pos := "ref.go:234", after := #[{ on := 3, ground := Go.Ground.guard }], guard := some (3, true) }) (v := undef) rfl (by kernel_rfl) (by kernel_rfl) (by kernel_rfl) (fun _ _ _ h => h) (Or.inr ⟨by rfl, rfl⟩) hS0 ?_
              try simp only [Act.put, List.setIfInBounds_toArray, List.set_cons_zero, List.set_cons_succ]
              refine wpAnyH_take (i := 5) (oi := { dst := some 73, op := Go.Op.call { callee := Go.Callee.value (Go.Operand.func 24), args := #[Go.Operand.tmp 72], argTypes := #[25] }, type := 3, pos := "ref.go:234", after := #[{ on := 4, ground := Go.Ground.data }, { on := 3, ground := Go.Ground.chain }, { on := 3, ground := Go.Ground.guard }], guard := some (3, true) }) (v := undef) rfl (by kernel_rfl) (by kernel_rfl) (by kernel_rfl) (fun _ _ _ h => h) (Or.inr ⟨by rfl, rfl⟩) hS0 ?_
              try simp only [Act.put, List.setIfInBounds_toArray, List.set_cons_zero, List.set_cons_succ]
              refine wpAnyH_take (i := 6) (oi := { dst := some 74, op := Go.Op.load 25 (Go.Operand.tmp 2), type := 25, pos := "ref.go:234", after := #[{ on := 3, ground := Go.Ground.guard }], guard := some (3, true) }) (v := undef) rfl (by kernel_rfl) (by kernel_rfl) (by kernel_rfl) (fun _ _ _ h => h) (Or.inr ⟨by rfl, rfl⟩) hS0 ?_
              try simp only [Act.put, List.setIfInBounds_toArray, List.set_cons_zero, List.set_cons_succ]
              refine wpAnyH_take (i := 7) (oi := { dst := some 75, op := Go.Op.call { callee := Go.Callee.value (Go.Operand.func 24), args := #[Go.Operand.tmp 74], argTypes := #[25] }, type := 3, pos := "ref.go:234", after := #[{ on := 6, ground := Go.Ground.data }, { on := 5, ground := Go.Ground.chain }, { on := 3, ground := Go.Ground.guard }], guard := some (3, true) }) (v := undef) rfl (by kernel_rfl) (by kernel_rfl) (by kernel_rfl) (fun _ _ _ h => h) (Or.inr ⟨by rfl, rfl⟩) hS0 ?_
              try simp only [Act.put, List.setIfInBounds_toArray, List.set_cons_zero, List.set_cons_succ]
              refine wpAnyH_take (i := 8) (oi := { dst := some 76, op := Go.Op.binOp Go.BinOp.lss 3 (Go.Operand.tmp 73) (Go.Operand.tmp 75) 3, type := 4, pos := "ref.go:234", after := #[{ on := 5, ground := Go.Ground.data }, { on := 7, ground := Go.Ground.data }, { on := 3, ground := Go.Ground.guard }], guard := some (3, true) }) (v := undef) rfl (by kernel_rfl) (by kernel_rfl) (by kernel_rfl) (fun _ _ _ h => h) (Or.inr ⟨by rfl, rfl⟩) hS0 ?_
              try simp only [Act.put, List.setIfInBounds_toArray, List.set_cons_zero, List.set_cons_succ]
              refine wpAnyH_take (i := 9) (oi := { dst := some 77, op := Go.Op.pick (Go.Operand.tmp 71) (Go.Operand.tmp 76) (Go.Operand.const (Go.Value.bool false)), type := 4, pos := "ref.go:234", after := #[{ on := 3, ground := Go.Ground.data }, { on := 8, ground := Go.Ground.data }, { on := 1, ground := Go.Ground.guard }], guard := some (1, false) }) (v := .bool false) rfl (by kernel_rfl) (by kernel_rfl) (by kernel_rfl) (fun _ _ _ h => h) (Or.inl ⟨by rfl, by intro w2 hSw; (try dsimp only at hSw); go_simp⟩) hS0 ?_
              try simp only [Act.put, List.setIfInBounds_toArray, List.set_cons_zero, List.set_cons_succ]
              refine wpAnyH_take (i := 10) (oi := { dst := some 78, op := Go.Op.pick (Go.Operand.tmp 69) (Go.Operand.const (Go.Value.bool true)) (Go.Operand.tmp 77), type := 4, pos := "ref.go:234", after := #[{ on := 1, ground := Go.Ground.data }, { on := 9, ground := Go.Ground.data }], guard := none }) (v := .bool false) rfl (by kernel_rfl) (by kernel_rfl) (by kernel_rfl) (fun _ _ _ h => h) (Or.inl ⟨by rfl, by intro w2 hSw; (try dsimp only at hSw); go_simp⟩) hS0 ?_
              try simp only [Act.put, List.setIfInBounds_toArray, List.set_cons_zero, List.set_cons_succ]
              refine wpAnyH_done (by kernel_rfl) ?_ _
              obtain ⟨V9, hV9⟩ : ∃ v, w5.drew = v := ⟨_, rfl⟩
              rw [hV9] at hS0 ⊢
              clear hV9
              have hJ := (show V9.ownsRow 0 3 1 v9 a (flatI (ikL n zs (opnL n zs ks) (kNt ks) l a)) ∧ (∀ g, v9.ownBlock = some g → w2.heap.size ≤ g) ∧ Below w2.heap.size w2 V9 from ⟨own_keep hJ.1 (Keeps.of_new (Mut := fun _ => False) hS0) (fun _ _ e => e), hJ.2.1, hJ.2.2.trans (hS0.mono hJ.2.2.size)⟩)
              clear hS0
              have hit := it_none Hsh.out (fun e => by have := Hs0.out; simp at this; exact this e)
              have hks := ikL_succ n zs (opnL n zs ks) (kNt ks) l a
              rw [hit] at hks
              obtain ⟨E, ec, W1, hrun, hown2, hkp, hnew⟩ := app_int (hJ.1) 0 (by omega)
              rw [← hks] at hown2
              have hbj := hJ.2.2
              have hsz2 := hbj.size
              have HN := Lib.hid (show W1.ownsRow 0 3 1 (Value.slice E (a + 1) ec) (a + 1) (flatI (ikL n zs (opnL n zs ks) (kNt ks) l (a + 1))) ∧ (∀ g, ((Value.slice E (a + 1) ec)).ownBlock = some g → w2.heap.size ≤ g) ∧ Below w2.heap.size w2 W1 from ⟨hown2, fun g e => by
                rcases hnew g e with e2 | e2
                · exact hJ.2.1 g e2
                · omega, hbj.trans (hkp.below hsz2 (fun j hj e => by have := hJ.2.1 j e; omega))⟩)
              have hrun2 : runA Try.prog 23 v9 (.slice (some ⟨V9.heap.size, 0, none⟩) 1 1) (V9.alloc (.cells (Array.foldl (fun (cs : Array Value) (x : Value × Nat) => cs.setIfInBounds x.snd x.fst) #[[Value.int IntKind.i64 0][0]?.getD default] #[(Value.int IntKind.i64 0, 0)] 0 1) 3)) = .ok (.value (.slice E (a + 1) ec)) W1 := hrun
              clear hit hks hown2 hbj hsz2 hkp hnew hJ
              go_wp2_with fail
              try (first | rw [hrun] | rw [hrun2])
              try go_wp2_with fail
              go_roundw
              case rel => exact ⟨a + 1, _, by omega, rfl, by go_num, HN⟩
              case measure => simp [intOf] <;> omega
            · have hrm : ∀ k, k < n → (rm k = true ↔ eN zs l k = a) := fun k hk => (HX.out.rm k hk).trans ⟨fun e => e.2.1, fun e => ⟨Nat.zero_le _, e, fun e2 => (by have := Hk0.out; simp at this; exact this ⟨k, Nat.zero_le _, hk, e, e2⟩)⟩⟩
              have hsm : smB n zs ks l a 0 := by have := Hs0.out; simpa using this
              have hls := fun h9 => it_less HX.out.s Hsh.out HX2.out (fun k hk hr => (hrm k hk).1 hr) h9
              have hso := fun h9 => it_some HX.out.s Hsh.out HX2.out (fun k hk hr => (hrm k hk).2 hr) hsm h9
              obtain ⟨s1, hs1⟩ : ∃ v, siz m zs' ks' = v := ⟨_, rfl⟩
              obtain ⟨sN, hsN⟩ : ∃ v, siz n zs ks = v := ⟨_, rfl⟩
              rw [hs1, hsN] at hls hso
              have Hs1 := Lib.hid hs1
              have HsN := Lib.hid hsN
              have Hls := Lib.hid hls
              have Hso := Lib.hid hso
              clear hrm hsm hls hso hs1 hsN
              have zHS0 : w5.cell? ⟨R, 0, none⟩ = some (.int .i64 sl) := by rw [cell_row HS.out]; rfl
              have zHS1 : w5.cell? ⟨R, 1, none⟩ = some (.int .i64 sr) := by rw [cell_row HS.out]; rfl
              have zHS2 : w5.cell? ⟨R, 2, none⟩ = some (.slice A n cap) := by rw [cell_row HS.out]; rfl
              have zHS3 : w5.cell? ⟨R, 3, none⟩ = some (.slice A2 kn kc) := by rw [cell_row HS.out]; rfl
              have zHTr0 : w5.cell? ⟨T, 0, none⟩ = some (.int .i64 sl) := by rw [cell_row HTr.out]; rfl
              have zHTr1 : w5.cell? ⟨T, 1, none⟩ = some (.int .i64 sr) := by rw [cell_row HTr.out]; rfl
              have zHTr2 : w5.cell? ⟨T, 2, none⟩ = some (.slice C m cp) := by rw [cell_row HTr.out]; rfl
              have zHTr3 : w5.cell? ⟨T, 3, none⟩ = some (.slice C2 kn c2) := by rw [cell_row HTr.out]; rfl
              go_wp2_with fail
              by_cases hlt9 : s1 < sN
              · have d1 : (s1 : Int) < (sN : Int) := by omega
                have d2 := decide_eq_true d1
                refine wp_region_held_drew (S := fun w2 => Below w5.heap.size w5 w2) (by kernel_rfl) (drew_b _ _) (fun hS0 => ?_)
                refine wpAnyH_take (i := 0) (oi := { dst := some 68, op := Go.Op.move (Go.Operand.tmp 12), type := 4, pos := "ref.go:234", after := #[], guard := none }) (v := .bool false) rfl (by kernel_rfl) (by kernel_rfl) (by kernel_rfl) (fun _ _ _ h => h) (Or.inl ⟨by rfl, by intro w2 hSw; (try dsimp only at hSw); have y0 := (hSw.cell (lt_of_cell zHS0)).trans zHS0; have y1 := (hSw.cell (lt_of_cell zHS1)).trans zHS1; have y2 := (hSw.cell (lt_of_cell zHS2)).trans zHS2; have y3 := (hSw.cell (lt_of_cell zHS3)).trans zHS3; have u0 := (hSw.cell (lt_of_cell zHTr0)).trans zHTr0; have u1 := (hSw.cell (lt_of_cell zHTr1)).trans zHTr1; have u2 := (hSw.cell (lt_of_cell zHTr2)).trans zHTr2; have u3 := (hSw.cell (lt_of_cell zHTr3)).trans zHTr3; go_simp⟩) hS0 ?_
                try simp only [Act.put, List.setIfInBounds_toArray, List.set_cons_zero, List.set_cons_succ]
                refine wpAnyH_take (i := 1) (oi := { dst := some 69, op := Go.Op.move (Go.Operand.tmp 68), type := 4, pos := "ref.go:234", after := #[{ on := 0, ground := Go.Ground.data }], guard := none }) (v := .bool false) rfl (by kernel_rfl) (by kernel_rfl) (by kernel_rfl) (fun _ _ _ h => h) (Or.inl ⟨by rfl, by intro w2 hSw; (try dsimp only at hSw); have y0 := (hSw.cell (lt_of_cell zHS0)).trans zHS0; have y1 := (hSw.cell (lt_of_cell zHS1)).trans zHS1; have y2 := (hSw.cell (lt_of_cell zHS2)).trans zHS2; have y3 := (hSw.cell (lt_of_cell zHS3)).trans zHS3; have u0 := (hSw.cell (lt_of_cell zHTr0)).trans zHTr0; have u1 := (hSw.cell (lt_of_cell zHTr1)).trans zHTr1; have u2 := (hSw.cell (lt_of_cell zHTr2)).trans zHTr2; have u3 := (hSw.cell (lt_of_cell zHTr3)).trans zHTr3; go_simp⟩) hS0 ?_
                try simp only [Act.put, List.setIfInBounds_toArray, List.set_cons_zero, List.set_cons_succ]
                refine wpAnyH_take (i := 2) (oi := { dst := some 70, op := Go.Op.move (Go.Operand.tmp 11), type := 4, pos := "ref.go:234", after := #[{ on := 1, ground := Go.Ground.guard }], guard := some (1, false) }) (v := .bool true) rfl (by kernel_rfl) (by kernel_rfl) (by kernel_rfl) (fun _ _ _ h => h) (Or.inl ⟨by rfl, by intro w2 hSw; (try dsimp only at hSw); have y0 := (hSw.cell (lt_of_cell zHS0)).trans zHS0; have y1 := (hSw.cell (lt_of_cell zHS1)).trans zHS1; have y2 := (hSw.cell (lt_of_cell zHS2)).trans zHS2; have y3 := (hSw.cell (lt_of_cell zHS3)).trans zHS3; have u0 := (hSw.cell (lt_of_cell zHTr0)).trans zHTr0; have u1 := (hSw.cell (lt_of_cell zHTr1)).trans zHTr1; have u2 := (hSw.cell (lt_of_cell zHTr2)).trans zHTr2; have u3 := (hSw.cell (lt_of_cell zHTr3)).trans zHTr3; go_simp⟩) hS0 ?_
                try simp only [Act.put, List.setIfInBounds_toArray, List.set_cons_zero, List.set_cons_succ]
                refine wpAnyH_take (i := 3) (oi := { dst := some 71, op := Go.Op.move (Go.Operand.tmp 70), type := 4, pos := "ref.go:234", after := #[{ on := 2, ground := Go.Ground.data }, { on := 1, ground := Go.Ground.chain }, { on := 1, ground := Go.Ground.guard }], guard := some (1, false) }) (v := .bool true) rfl (by kernel_rfl) (by kernel_rfl) (by kernel_rfl) (fun _ _ _ h => h) (Or.inl ⟨by rfl, by intro w2 hSw; (try dsimp only at hSw); have y0 := (hSw.cell (lt_of_cell zHS0)).trans zHS0; have y1 := (hSw.cell (lt_of_cell zHS1)).trans zHS1; have y2 := (hSw.cell (lt_of_cell zHS2)).trans zHS2; have y3 := (hSw.cell (lt_of_cell zHS3)).trans zHS3; have u0 := (hSw.cell (lt_of_cell zHTr0)).trans zHTr0; have u1 := (hSw.cell (lt_of_cell zHTr1)).trans zHTr1; have u2 := (hSw.cell (lt_of_cell zHTr2)).trans zHTr2; have u3 := (hSw.cell (lt_of_cell zHTr3)).trans zHTr3; go_simp⟩) hS0 ?_
                try simp only [Act.put, List.setIfInBounds_toArray, List.set_cons_zero, List.set_cons_succ]
                refine wpAnyH_take (i := 4) (oi := { dst := some 72, op := Go.Op.load 25 (Go.Operand.tmp 13), type := 25, pos := "ref.go:234", after := #[{ on := 3, ground := Go.Ground.guard }], guard := some (3, true) }) (v := .agg #[.int .i64 sl, .int .i64 sr, .slice C m cp, .slice C2 kn c2]) rfl (by kernel_rfl) (by kernel_rfl) (by kernel_rfl) (fun _ _ _ h => h) (Or.inl ⟨by rfl, by intro w2 hSw; (try dsimp only at hSw); have y0 := (hSw.cell (lt_of_cell zHS0)).trans zHS0; have y1 := (hSw.cell (lt_of_cell zHS1)).trans zHS1; have y2 := (hSw.cell (lt_of_cell zHS2)).trans zHS2; have y3 := (hSw.cell (lt_of_cell zHS3)).trans zHS3; have u0 := (hSw.cell (lt_of_cell zHTr0)).trans zHTr0; have u1 := (hSw.cell (lt_of_cell zHTr1)).trans zHTr1; have u2 := (hSw.cell (lt_of_cell zHTr2)).trans zHTr2; have u3 := (hSw.cell (lt_of_cell zHTr3)).trans zHTr3; go_simp⟩) hS0 ?_
                try simp only [Act.put, List.setIfInBounds_toArray, List.set_cons_zero, List.set_cons_succ]
                refine wpAnyH_take (i := 6) (oi := { dst := some 74, op := Go.Op.load 25 (Go.Operand.tmp 2), type := 25, pos := "ref.go:234", after := #[{ on := 3, ground := Go.Ground.guard }], guard := some (3, true) }) (v := .agg #[.int .i64 sl, .int .i64 sr, .slice A n cap, .slice A2 kn kc]) rfl (by kernel_rfl) (by kernel_rfl) (by kernel_rfl) (fun _ _ _ h => h) (Or.inl ⟨by rfl, by intro w2 hSw; (try dsimp only at hSw); have y0 := (hSw.cell (lt_of_cell zHS0)).trans zHS0; have y1 := (hSw.cell (lt_of_cell zHS1)).trans zHS1; have y2 := (hSw.cell (lt_of_cell zHS2)).trans zHS2; have y3 := (hSw.cell (lt_of_cell zHS3)).trans zHS3; have u0 := (hSw.cell (lt_of_cell zHTr0)).trans zHTr0; have u1 := (hSw.cell (lt_of_cell zHTr1)).trans zHTr1; have u2 := (hSw.cell (lt_of_cell zHTr2)).trans zHTr2; have u3 := (hSw.cell (lt_of_cell zHTr3)).trans zHTr3; go_simp⟩) hS0 ?_
                try simp only [Act.put, List.setIfInBounds_toArray, List.set_cons_zero, List.set_cons_succ]
                refine wpAnyH_ready (rs := [5]) (by kernel_rfl) (by simp) ?_
                refine AllReadyH.cons (o := { dst := some 73, op := Go.Op.call { callee := Go.Callee.value (Go.Operand.func 24), args := #[Go.Operand.tmp 72], argTypes := #[25] }, type := 3, pos := "ref.go:234", after := #[{ on := 4, ground := Go.Ground.data }, { on := 3, ground := Go.Ground.chain }, { on := 3, ground := Go.Ground.guard }], guard := some (3, true) }) rfl (fun K2 hK => ?_) AllReadyH.nil
                go_simp
                refine (size24 sl sr C m cp zs' C2 kn c2 ks' _ (HX.out.r.below hS0 (Nat.le_refl _)) (HX.out.i.below hS0 (Nat.le_refl _)) (by have := Hk.out; omega) HX.out.ch).mono ?_
                rintro e9 V1 ⟨rfl, hb9⟩
                rw [Hs1.out]
                (try go_simp)
                refine hK.out _ _ (hS0.trans (hb9.mono hS0.size)) (fun hS1 => ?_)
                clear hK K2 hb9
                try simp only [Act.put, List.setIfInBounds_toArray, List.set_cons_zero, List.set_cons_succ]
                refine wpAnyH_ready (rs := [7]) (by kernel_rfl) (by simp) ?_
                refine AllReadyH.cons (o := { dst := some 75, op := Go.Op.call { callee := Go.Callee.value (Go.Operand.func 24), args := #[Go.Operand.tmp 74], argTypes := #[25] }, type := 3, pos := "ref.go:234", after := #[{ on := 6, ground := Go.Ground.data }, { on := 5, ground := Go.Ground.chain }, { on := 3, ground := Go.Ground.guard }], guard := some (3, true) }) rfl (fun K2 hK => ?_) AllReadyH.nil
                go_simp
                refine (size24 sl sr A n cap zs A2 kn kc ks V1 (X.out.below hS1 (Nat.le_refl _)) (XI.out.below hS1 (Nat.le_refl _)) (by have := Hk.out; omega) He.out).mono ?_
                rintro e9 V2 ⟨rfl, hb9⟩
                rw [HsN.out]
                (try go_simp)
                refine hK.out _ _ (hS1.trans (hb9.mono hS1.size)) (fun hS2 => ?_)
                clear hK K2 hb9
                try simp only [Act.put, List.setIfInBounds_toArray, List.set_cons_zero, List.set_cons_succ]
                refine wpAnyH_take (i := 8) (oi := { dst := some 76, op := Go.Op.binOp Go.BinOp.lss 3 (Go.Operand.tmp 73) (Go.Operand.tmp 75) 3, type := 4, pos := "ref.go:234", after := #[{ on := 5, ground := Go.Ground.data }, { on := 7, ground := Go.Ground.data }, { on := 3, ground := Go.Ground.guard }], guard := some (3, true) }) (v := .bool true) rfl (by kernel_rfl) (by kernel_rfl) (by kernel_rfl) (fun _ _ _ h => h) (Or.inl ⟨by rfl, by intro w2 hSw; (try dsimp only at hSw); have y0 := (hSw.cell (lt_of_cell zHS0)).trans zHS0; have y1 := (hSw.cell (lt_of_cell zHS1)).trans zHS1; have y2 := (hSw.cell (lt_of_cell zHS2)).trans zHS2; have y3 := (hSw.cell (lt_of_cell zHS3)).trans zHS3; have u0 := (hSw.cell (lt_of_cell zHTr0)).trans zHTr0; have u1 := (hSw.cell (lt_of_cell zHTr1)).trans zHTr1; have u2 := (hSw.cell (lt_of_cell zHTr2)).trans zHTr2; have u3 := (hSw.cell (lt_of_cell zHTr3)).trans zHTr3; go_simp⟩) hS2 ?_
                try simp only [Act.put, List.setIfInBounds_toArray, List.set_cons_zero, List.set_cons_succ]
                refine wpAnyH_take (i := 9) (oi := { dst := some 77, op := Go.Op.pick (Go.Operand.tmp 71) (Go.Operand.tmp 76) (Go.Operand.const (Go.Value.bool false)), type := 4, pos := "ref.go:234", after := #[{ on := 3, ground := Go.Ground.data }, { on := 8, ground := Go.Ground.data }, { on := 1, ground := Go.Ground.guard }], guard := some (1, false) }) (v := .bool true) rfl (by kernel_rfl) (by kernel_rfl) (by kernel_rfl) (fun _ _ _ h => h) (Or.inl ⟨by rfl, by intro w2 hSw; (try dsimp only at hSw); have y0 := (hSw.cell (lt_of_cell zHS0)).trans zHS0; have y1 := (hSw.cell (lt_of_cell zHS1)).trans zHS1; have y2 := (hSw.cell (lt_of_cell zHS2)).trans zHS2; have y3 := (hSw.cell (lt_of_cell zHS3)).trans zHS3; have u0 := (hSw.cell (lt_of_cell zHTr0)).trans zHTr0; have u1 := (hSw.cell (lt_of_cell zHTr1)).trans zHTr1; have u2 := (hSw.cell (lt_of_cell zHTr2)).trans zHTr2; have u3 := (hSw.cell (lt_of_cell zHTr3)).trans zHTr3; go_simp⟩) hS2 ?_
                try simp only [Act.put, List.setIfInBounds_toArray, List.set_cons_zero, List.set_cons_succ]
                refine wpAnyH_take (i := 10) (oi := { dst := some 78, op := Go.Op.pick (Go.Operand.tmp 69) (Go.Operand.const (Go.Value.bool true)) (Go.Operand.tmp 77), type := 4, pos := "ref.go:234", after := #[{ on := 1, ground := Go.Ground.data }, { on := 9, ground := Go.Ground.data }], guard := none }) (v := .bool true) rfl (by kernel_rfl) (by kernel_rfl) (by kernel_rfl) (fun _ _ _ h => h) (Or.inl ⟨by rfl, by intro w2 hSw; (try dsimp only at hSw); have y0 := (hSw.cell (lt_of_cell zHS0)).trans zHS0; have y1 := (hSw.cell (lt_of_cell zHS1)).trans zHS1; have y2 := (hSw.cell (lt_of_cell zHS2)).trans zHS2; have y3 := (hSw.cell (lt_of_cell zHS3)).trans zHS3; have u0 := (hSw.cell (lt_of_cell zHTr0)).trans zHTr0; have u1 := (hSw.cell (lt_of_cell zHTr1)).trans zHTr1; have u2 := (hSw.cell (lt_of_cell zHTr2)).trans zHTr2; have u3 := (hSw.cell (lt_of_cell zHTr3)).trans zHTr3; go_simp⟩) hS2 ?_
                try simp only [Act.put, List.setIfInBounds_toArray, List.set_cons_zero, List.set_cons_succ]
                refine wpAnyH_done (by kernel_rfl) ?_ _
                clear zHS0 zHS1 zHS2 zHS3 zHTr0 zHTr1 zHTr2 zHTr3
                have hJ := (show V2.ownsRow 0 3 1 v9 a (flatI (ikL n zs (opnL n zs ks) (kNt ks) l a)) ∧ (∀ g, v9.ownBlock = some g → w2.heap.size ≤ g) ∧ Below w2.heap.size w2 V2 from ⟨own_keep hJ.1 (Keeps.of_new (Mut := fun _ => False) hS2) (fun _ _ e => e), hJ.2.1, hJ.2.2.trans (hS2.mono hJ.2.2.size)⟩)
                clear hS0 hS1 hS2 d1 d2
                have hit := Hls.out hlt9
                have hks := ikL_succ n zs (opnL n zs ks) (kNt ks) l a
                rw [hit] at hks
                obtain ⟨E, ec, W1, hrun, hown2, hkp, hnew⟩ := app_int (hJ.1) 2 (by omega)
                rw [← hks] at hown2
                have hbj := hJ.2.2
                have hsz2 := hbj.size
                have HN := Lib.hid (show W1.ownsRow 0 3 1 (Value.slice E (a + 1) ec) (a + 1) (flatI (ikL n zs (opnL n zs ks) (kNt ks) l (a + 1))) ∧ (∀ g, ((Value.slice E (a + 1) ec)).ownBlock = some g → w2.heap.size ≤ g) ∧ Below w2.heap.size w2 W1 from ⟨hown2, fun g e => by
                  rcases hnew g e with e2 | e2
                  · exact hJ.2.1 g e2
                  · omega, hbj.trans (hkp.below hsz2 (fun j hj e => by have := hJ.2.1 j e; omega))⟩)
                have hrun2 : runA Try.prog 23 v9 (.slice (some ⟨V2.heap.size, 0, none⟩) 1 1) (V2.alloc (.cells (Array.foldl (fun (cs : Array Value) (x : Value × Nat) => cs.setIfInBounds x.snd x.fst) #[[Value.int IntKind.i64 0][0]?.getD default] #[(Value.int IntKind.i64 2, 0)] 0 1) 3)) = .ok (.value (.slice E (a + 1) ec)) W1 := hrun
                clear hit hks hown2 hbj hsz2 hkp hnew hJ
                go_wp2_with fail
                try (first | rw [hrun] | rw [hrun2])
                try go_wp2_with fail
                go_roundw
                case rel => exact ⟨a + 1, _, by omega, rfl, by go_num, HN⟩
                case measure => simp [intOf] <;> omega
              · have d1 : ¬ (s1 : Int) < (sN : Int) := by omega
                have d2 := decide_eq_false d1
                refine wp_region_held_drew (S := fun w2 => Below w5.heap.size w5 w2) (by kernel_rfl) (drew_b _ _) (fun hS0 => ?_)
                refine wpAnyH_take (i := 0) (oi := { dst := some 68, op := Go.Op.move (Go.Operand.tmp 12), type := 4, pos := "ref.go:234", after := #[], guard := none }) (v := .bool false) rfl (by kernel_rfl) (by kernel_rfl) (by kernel_rfl) (fun _ _ _ h => h) (Or.inl ⟨by rfl, by intro w2 hSw; (try dsimp only at hSw); have y0 := (hSw.cell (lt_of_cell zHS0)).trans zHS0; have y1 := (hSw.cell (lt_of_cell zHS1)).trans zHS1; have y2 := (hSw.cell (lt_of_cell zHS2)).trans zHS2; have y3 := (hSw.cell (lt_of_cell zHS3)).trans zHS3; have u0 := (hSw.cell (lt_of_cell zHTr0)).trans zHTr0; have u1 := (hSw.cell (lt_of_cell zHTr1)).trans zHTr1; have u2 := (hSw.cell (lt_of_cell zHTr2)).trans zHTr2; have u3 := (hSw.cell (lt_of_cell zHTr3)).trans zHTr3; go_simp⟩) hS0 ?_
                try simp only [Act.put, List.setIfInBounds_toArray, List.set_cons_zero, List.set_cons_succ]
                refine wpAnyH_take (i := 1) (oi := { dst := some 69, op := Go.Op.move (Go.Operand.tmp 68), type := 4, pos := "ref.go:234", after := #[{ on := 0, ground := Go.Ground.data }], guard := none }) (v := .bool false) rfl (by kernel_rfl) (by kernel_rfl) (by kernel_rfl) (fun _ _ _ h => h) (Or.inl ⟨by rfl, by intro w2 hSw; (try dsimp only at hSw); have y0 := (hSw.cell (lt_of_cell zHS0)).trans zHS0; have y1 := (hSw.cell (lt_of_cell zHS1)).trans zHS1; have y2 := (hSw.cell (lt_of_cell zHS2)).trans zHS2; have y3 := (hSw.cell (lt_of_cell zHS3)).trans zHS3; have u0 := (hSw.cell (lt_of_cell zHTr0)).trans zHTr0; have u1 := (hSw.cell (lt_of_cell zHTr1)).trans zHTr1; have u2 := (hSw.cell (lt_of_cell zHTr2)).trans zHTr2; have u3 := (hSw.cell (lt_of_cell zHTr3)).trans zHTr3; go_simp⟩) hS0 ?_
                try simp only [Act.put, List.setIfInBounds_toArray, List.set_cons_zero, List.set_cons_succ]
                refine wpAnyH_take (i := 2) (oi := { dst := some 70, op := Go.Op.move (Go.Operand.tmp 11), type := 4, pos := "ref.go:234", after := #[{ on := 1, ground := Go.Ground.guard }], guard := some (1, false) }) (v := .bool true) rfl (by kernel_rfl) (by kernel_rfl) (by kernel_rfl) (fun _ _ _ h => h) (Or.inl ⟨by rfl, by intro w2 hSw; (try dsimp only at hSw); have y0 := (hSw.cell (lt_of_cell zHS0)).trans zHS0; have y1 := (hSw.cell (lt_of_cell zHS1)).trans zHS1; have y2 := (hSw.cell (lt_of_cell zHS2)).trans zHS2; have y3 := (hSw.cell (lt_of_cell zHS3)).trans zHS3; have u0 := (hSw.cell (lt_of_cell zHTr0)).trans zHTr0; have u1 := (hSw.cell (lt_of_cell zHTr1)).trans zHTr1; have u2 := (hSw.cell (lt_of_cell zHTr2)).trans zHTr2; have u3 := (hSw.cell (lt_of_cell zHTr3)).trans zHTr3; go_simp⟩) hS0 ?_
                try simp only [Act.put, List.setIfInBounds_toArray, List.set_cons_zero, List.set_cons_succ]
                refine wpAnyH_take (i := 3) (oi := { dst := some 71, op := Go.Op.move (Go.Operand.tmp 70), type := 4, pos := "ref.go:234", after := #[{ on := 2, ground := Go.Ground.data }, { on := 1, ground := Go.Ground.chain }, { on := 1, ground := Go.Ground.guard }], guard := some (1, false) }) (v := .bool true) rfl (by kernel_rfl) (by kernel_rfl) (by kernel_rfl) (fun _ _ _ h => h) (Or.inl ⟨by rfl, by intro w2 hSw; (try dsimp only at hSw); have y0 := (hSw.cell (lt_of_cell zHS0)).trans zHS0; have y1 := (hSw.cell (lt_of_cell zHS1)).trans zHS1; have y2 := (hSw.cell (lt_of_cell zHS2)).trans zHS2; have y3 := (hSw.cell (lt_of_cell zHS3)).trans zHS3; have u0 := (hSw.cell (lt_of_cell zHTr0)).trans zHTr0; have u1 := (hSw.cell (lt_of_cell zHTr1)).trans zHTr1; have u2 := (hSw.cell (lt_of_cell zHTr2)).trans zHTr2; have u3 := (hSw.cell (lt_of_cell zHTr3)).trans zHTr3; go_simp⟩) hS0 ?_
                try simp only [Act.put, List.setIfInBounds_toArray, List.set_cons_zero, List.set_cons_succ]
                refine wpAnyH_take (i := 4) (oi := { dst := some 72, op := Go.Op.load 25 (Go.Operand.tmp 13), type := 25, pos := "ref.go:234", after := #[{ on := 3, ground := Go.Ground.guard }], guard := some (3, true) }) (v := .agg #[.int .i64 sl, .int .i64 sr, .slice C m cp, .slice C2 kn c2]) rfl (by kernel_rfl) (by kernel_rfl) (by kernel_rfl) (fun _ _ _ h => h) (Or.inl ⟨by rfl, by intro w2 hSw; (try dsimp only at hSw); have y0 := (hSw.cell (lt_of_cell zHS0)).trans zHS0; have y1 := (hSw.cell (lt_of_cell zHS1)).trans zHS1; have y2 := (hSw.cell (lt_of_cell zHS2)).trans zHS2; have y3 := (hSw.cell (lt_of_cell zHS3)).trans zHS3; have u0 := (hSw.cell (lt_of_cell zHTr0)).trans zHTr0; have u1 := (hSw.cell (lt_of_cell zHTr1)).trans zHTr1; have u2 := (hSw.cell (lt_of_cell zHTr2)).trans zHTr2; have u3 := (hSw.cell (lt_of_cell zHTr3)).trans zHTr3; go_simp⟩) hS0 ?_
                try simp only [Act.put, List.setIfInBounds_toArray, List.set_cons_zero, List.set_cons_succ]
                refine wpAnyH_take (i := 6) (oi := { dst := some 74, op := Go.Op.load 25 (Go.Operand.tmp 2), type := 25, pos := "ref.go:234", after := #[{ on := 3, ground := Go.Ground.guard }], guard := some (3, true) }) (v := .agg #[.int .i64 sl, .int .i64 sr, .slice A n cap, .slice A2 kn kc]) rfl (by kernel_rfl) (by kernel_rfl) (by kernel_rfl) (fun _ _ _ h => h) (Or.inl ⟨by rfl, by intro w2 hSw; (try dsimp only at hSw); have y0 := (hSw.cell (lt_of_cell zHS0)).trans zHS0; have y1 := (hSw.cell (lt_of_cell zHS1)).trans zHS1; have y2 := (hSw.cell (lt_of_cell zHS2)).trans zHS2; have y3 := (hSw.cell (lt_of_cell zHS3)).trans zHS3; have u0 := (hSw.cell (lt_of_cell zHTr0)).trans zHTr0; have u1 := (hSw.cell (lt_of_cell zHTr1)).trans zHTr1; have u2 := (hSw.cell (lt_of_cell zHTr2)).trans zHTr2; have u3 := (hSw.cell (lt_of_cell zHTr3)).trans zHTr3; go_simp⟩) hS0 ?_
                try simp only [Act.put, List.setIfInBounds_toArray, List.set_cons_zero, List.set_cons_succ]
                refine wpAnyH_ready (rs := [5]) (by kernel_rfl) (by simp) ?_
                refine AllReadyH.cons (o := { dst := some 73, op := Go.Op.call { callee := Go.Callee.value (Go.Operand.func 24), args := #[Go.Operand.tmp 72], argTypes := #[25] }, type := 3, pos := "ref.go:234", after := #[{ on := 4, ground := Go.Ground.data }, { on := 3, ground := Go.Ground.chain }, { on := 3, ground := Go.Ground.guard }], guard := some (3, true) }) rfl (fun K2 hK => ?_) AllReadyH.nil
                go_simp
                refine (size24 sl sr C m cp zs' C2 kn c2 ks' _ (HX.out.r.below hS0 (Nat.le_refl _)) (HX.out.i.below hS0 (Nat.le_refl _)) (by have := Hk.out; omega) HX.out.ch).mono ?_
                rintro e9 V1 ⟨rfl, hb9⟩
                rw [Hs1.out]
                (try go_simp)
                refine hK.out _ _ (hS0.trans (hb9.mono hS0.size)) (fun hS1 => ?_)
                clear hK K2 hb9
                try simp only [Act.put, List.setIfInBounds_toArray, List.set_cons_zero, List.set_cons_succ]
                refine wpAnyH_ready (rs := [7]) (by kernel_rfl) (by simp) ?_
                refine AllReadyH.cons (o := { dst := some 75, op := Go.Op.call { callee := Go.Callee.value (Go.Operand.func 24), args := #[Go.Operand.tmp 74], argTypes := #[25] }, type := 3, pos := "ref.go:234", after := #[{ on := 6, ground := Go.Ground.data }, { on := 5, ground := Go.Ground.chain }, { on := 3, ground := Go.Ground.guard }], guard := some (3, true) }) rfl (fun K2 hK => ?_) AllReadyH.nil
                go_simp
                refine (size24 sl sr A n cap zs A2 kn kc ks V1 (X.out.below hS1 (Nat.le_refl _)) (XI.out.below hS1 (Nat.le_refl _)) (by have := Hk.out; omega) He.out).mono ?_
                rintro e9 V2 ⟨rfl, hb9⟩
                rw [HsN.out]
                (try go_simp)
                refine hK.out _ _ (hS1.trans (hb9.mono hS1.size)) (fun hS2 => ?_)
                clear hK K2 hb9
                try simp only [Act.put, List.setIfInBounds_toArray, List.set_cons_zero, List.set_cons_succ]
                refine wpAnyH_take (i := 8) (oi := { dst := some 76, op := Go.Op.binOp Go.BinOp.lss 3 (Go.Operand.tmp 73) (Go.Operand.tmp 75) 3, type := 4, pos := "ref.go:234", after := #[{ on := 5, ground := Go.Ground.data }, { on := 7, ground := Go.Ground.data }, { on := 3, ground := Go.Ground.guard }], guard := some (3, true) }) (v := .bool false) rfl (by kernel_rfl) (by kernel_rfl) (by kernel_rfl) (fun _ _ _ h => h) (Or.inl ⟨by rfl, by intro w2 hSw; (try dsimp only at hSw); have y0 := (hSw.cell (lt_of_cell zHS0)).trans zHS0; have y1 := (hSw.cell (lt_of_cell zHS1)).trans zHS1; have y2 := (hSw.cell (lt_of_cell zHS2)).trans zHS2; have y3 := (hSw.cell (lt_of_cell zHS3)).trans zHS3; have u0 := (hSw.cell (lt_of_cell zHTr0)).trans zHTr0; have u1 := (hSw.cell (lt_of_cell zHTr1)).trans zHTr1; have u2 := (hSw.cell (lt_of_cell zHTr2)).trans zHTr2; have u3 := (hSw.cell (lt_of_cell zHTr3)).trans zHTr3; go_simp⟩) hS2 ?_
                try simp only [Act.put, List.setIfInBounds_toArray, List.set_cons_zero, List.set_cons_succ]
                refine wpAnyH_take (i := 9) (oi := { dst := some 77, op := Go.Op.pick (Go.Operand.tmp 71) (Go.Operand.tmp 76) (Go.Operand.const (Go.Value.bool false)), type := 4, pos := "ref.go:234", after := #[{ on := 3, ground := Go.Ground.data }, { on := 8, ground := Go.Ground.data }, { on := 1, ground := Go.Ground.guard }], guard := some (1, false) }) (v := .bool false) rfl (by kernel_rfl) (by kernel_rfl) (by kernel_rfl) (fun _ _ _ h => h) (Or.inl ⟨by rfl, by intro w2 hSw; (try dsimp only at hSw); have y0 := (hSw.cell (lt_of_cell zHS0)).trans zHS0; have y1 := (hSw.cell (lt_of_cell zHS1)).trans zHS1; have y2 := (hSw.cell (lt_of_cell zHS2)).trans zHS2; have y3 := (hSw.cell (lt_of_cell zHS3)).trans zHS3; have u0 := (hSw.cell (lt_of_cell zHTr0)).trans zHTr0; have u1 := (hSw.cell (lt_of_cell zHTr1)).trans zHTr1; have u2 := (hSw.cell (lt_of_cell zHTr2)).trans zHTr2; have u3 := (hSw.cell (lt_of_cell zHTr3)).trans zHTr3; go_simp⟩) hS2 ?_
                try simp only [Act.put, List.setIfInBounds_toArray, List.set_cons_zero, List.set_cons_succ]
                refine wpAnyH_take (i := 10) (oi := { dst := some 78, op := Go.Op.pick (Go.Operand.tmp 69) (Go.Operand.const (Go.Value.bool true)) (Go.Operand.tmp 77), type := 4, pos := "ref.go:234", after := #[{ on := 1, ground := Go.Ground.data }, { on := 9, ground := Go.Ground.data }], guard := none }) (v := .bool false) rfl (by kernel_rfl) (by kernel_rfl) (by kernel_rfl) (fun _ _ _ h => h) (Or.inl ⟨by rfl, by intro w2 hSw; (try dsimp only at hSw); have y0 := (hSw.cell (lt_of_cell zHS0)).trans zHS0; have y1 := (hSw.cell (lt_of_cell zHS1)).trans zHS1; have y2 := (hSw.cell (lt_of_cell zHS2)).trans zHS2; have y3 := (hSw.cell (lt_of_cell zHS3)).trans zHS3; have u0 := (hSw.cell (lt_of_cell zHTr0)).trans zHTr0; have u1 := (hSw.cell (lt_of_cell zHTr1)).trans zHTr1; have u2 := (hSw.cell (lt_of_cell zHTr2)).trans zHTr2; have u3 := (hSw.cell (lt_of_cell zHTr3)).trans zHTr3; go_simp⟩) hS2 ?_
                try simp only [Act.put, List.setIfInBounds_toArray, List.set_cons_zero, List.set_cons_succ]
                refine wpAnyH_done (by kernel_rfl) ?_ _
                clear zHS0 zHS1 zHS2 zHS3 zHTr0 zHTr1 zHTr2 zHTr3
                have hJ := (show V2.ownsRow 0 3 1 v9 a (flatI (ikL n zs (opnL n zs ks) (kNt ks) l a)) ∧ (∀ g, v9.ownBlock = some g → w2.heap.size ≤ g) ∧ Below w2.heap.size w2 V2 from ⟨own_keep hJ.1 (Keeps.of_new (Mut := fun _ => False) hS2) (fun _ _ e => e), hJ.2.1, hJ.2.2.trans (hS2.mono hJ.2.2.size)⟩)
                clear hS0 hS1 hS2 d1 d2
                have hit := Hso.out hlt9
                have hks := ikL_succ n zs (opnL n zs ks) (kNt ks) l a
                rw [hit] at hks
                obtain ⟨E, ec, W1, hrun, hown2, hkp, hnew⟩ := app_int (hJ.1) 1 (by omega)
                rw [← hks] at hown2
                have hbj := hJ.2.2
                have hsz2 := hbj.size
                have HN := Lib.hid (show W1.ownsRow 0 3 1 (Value.slice E (a + 1) ec) (a + 1) (flatI (ikL n zs (opnL n zs ks) (kNt ks) l (a + 1))) ∧ (∀ g, ((Value.slice E (a + 1) ec)).ownBlock = some g → w2.heap.size ≤ g) ∧ Below w2.heap.size w2 W1 from ⟨hown2, fun g e => by
                  rcases hnew g e with e2 | e2
                  · exact hJ.2.1 g e2
                  · omega, hbj.trans (hkp.below hsz2 (fun j hj e => by have := hJ.2.1 j e; omega))⟩)
                have hrun2 : runA Try.prog 23 v9 (.slice (some ⟨V2.heap.size, 0, none⟩) 1 1) (V2.alloc (.cells (Array.foldl (fun (cs : Array Value) (x : Value × Nat) => cs.setIfInBounds x.snd x.fst) #[[Value.int IntKind.i64 0][0]?.getD default] #[(Value.int IntKind.i64 1, 0)] 0 1) 3)) = .ok (.value (.slice E (a + 1) ec)) W1 := hrun
                clear hit hks hown2 hbj hsz2 hkp hnew hJ
                go_wp2_with fail
                try (first | rw [hrun] | rw [hrun2])
                try go_wp2_with fail
                go_roundw
                case rel => exact ⟨a + 1, _, by omega, rfl, by go_num, HN⟩
                case measure => simp [intOf] <;> omega
      · obtain rfl : c = a := by omega
        obtain ⟨C, cp, rfl, hcp, hi, -⟩ := ints_own (ikL_len n zs (opnL n zs ks) (kNt ks) l c) HV.out.1
        have HI := Lib.hid hi
        have Hcp := Lib.hid hcp
        clear hi hcp
        have zHS0 : w3.cell? ⟨R, 0, none⟩ = some (.int .i64 sl) := by rw [cell_row HS.out]; rfl
        have zHS1 : w3.cell? ⟨R, 1, none⟩ = some (.int .i64 sr) := by rw [cell_row HS.out]; rfl
        have zHS2 : w3.cell? ⟨R, 2, none⟩ = some (.slice A n cap) := by rw [cell_row HS.out]; rfl
        have zHS3 : w3.cell? ⟨R, 3, none⟩ = some (.slice A2 kn kc) := by rw [cell_row HS.out]; rfl
        go_wp2_with fail
        clear zHS0 zHS1 zHS2 zHS3
        go_ret2
        exact ⟨C, cp, rfl, Hcp.out, HI.out, B.out⟩
theorem items28 (sl sr : Int) (A : Option Addr) (n cap : Nat) (zs : List Rg) (A2 : Option Addr) (kn kc : Nat) (ks : List Int) (rt : Bool) (w : World) (h : Rgs w A n zs) (hI : Ints w A2 kn ks) (hk : kn ≤ 1000) (he : chkS sl sr zs ks = 0) :
    Calls Try.prog 28 #[.agg #[.int .i64 sl, .int .i64 sr, .slice A n cap, .slice A2 kn kc], .bool rt] w fun e w' => ∃ C c cp, (if rt = true then sr else sl) = ((c : Nat) : Int) ∧ e = .returned (.tuple #[.slice C c cp, .int .i64 0]) ∧ c ≤ cp ∧ Ints w' C c (ikL n zs (opnL n zs ks) (kNt ks) (if rt = true then 1 else 0) c) ∧ Below w.heap.size w w' := by
  have hrng := (shg_of he).rng
  obtain ⟨c, hc⟩ : ∃ c : Nat, (if rt = true then sr else sl) = (c : Int) := by
    by_cases e : rt = true
    · rw [if_pos e]; exact ⟨sr.toNat, by omega⟩
    · rw [if_neg e]; exact ⟨sl.toNat, by omega⟩
  refine (items28_ sl sr A n cap zs A2 kn kc ks rt c (if rt = true then 1 else 0) w h hI hk he hc rfl).mono ?_
  rintro e w' ⟨C, cp, h1, h2, h3, h4⟩
  exact ⟨C, c, cp, hc, h1, h2, h3, h4⟩
end
end Go.Proofs.Ytnodkgejggnehaa
