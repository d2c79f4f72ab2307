/- Stage 5: ListOrder. -/
import Derived.Test.YtnodkgejggnehaaOr
import Derived.Test.YtnodkgejggnehaaZed
import Derived.Deep.RegionHeld3
import Derived.Deep.CutRange
import Derived.Deep.QuietTactic
import Derived.IntWalk
namespace Go.Proofs.Ytnodkgejggnehaa
set_option linter.unusedSimpArgs false
set_option linter.unusedVariables false
open Go.RowKit Go.Shelf
section
attribute [local go_sem ↓] exec_app at_app
attribute [local go_sem] Oper.semAt_some
section
variable {c d n : Nat} {zs : List Rg} {ks : List Int}
def kRt (n : Nat) (zs : List Rg) (ks : List Int) (s : Nat) : List Int := (List.range n).map fun i => kindS n zs (opnL n zs ks) (kNt ks) (tnN s n i)
def iRt (n : Nat) (zs : List Rg) (ks : List Int) (t c : Nat) : List Int := (List.range c).map fun a => ikS n zs (opnL n zs ks) (kNt ks) 0 (bkN t c a)
theorem kRt_at {s i : Nat} (hi : i < n) : iAt (kRt n zs ks s) i = kindS n zs (opnL n zs ks) (kNt ks) (tnN s n i) := by
  rw [iAt_eq (by simp [kRt]; exact hi)]; simp [kRt]
theorem iRt_at {t a : Nat} (ha : a < c) : iAt (iRt n zs ks t c) a = ikS n zs (opnL n zs ks) (kNt ks) 0 (bkN t c a) := by
  rw [iAt_eq (by simp [iRt]; exact ha)]; simp [iRt]
theorem ikL_at {a : Nat} (ha : a < c) : iAt (ikL n zs (opnL n zs ks) (kNt ks) 0 c) a = ikS n zs (opnL n zs ks) (kNt ks) 0 a := by
  rw [iAt_eq (by rw [ikL_len]; exact ha)]; simp [ikL]
theorem kinds_rt {s t u : Nat} (he : chkS (c : Int) (d : Int) zs ks = 0) (hn : zs.length = n) : kindsK n (rtZ s t u c d n zs n) (opnL n (rtZ s t u c d n zs n) (fI (rtP s n ks) n)) (kNt (fI (rtP s n ks) n)) n = kRt n zs ks s := by
  obtain ⟨h1, h2⟩ := rt_ok (s := s) (t := t) (u := u) he hn
  unfold kindsK kRt
  refine List.map_congr_left (fun i hi => ?_)
  exact h2.kind (shn_of he hn) (shn_of h1 (rtZ_len _ _ _ _ _ _ _ _)) (List.mem_range.1 hi)
theorem kinds_sw (he : chkS (c : Int) (d : Int) zs ks = 0) (hn : zs.length = n) : kindsK n (swZ zs n) (opnL n (swZ zs n) ks) (kNt ks) n = kindsK n zs (opnL n zs ks) (kNt ks) n := by
  obtain ⟨h1, h2⟩ := sw_ok he hn
  unfold kindsK
  refine List.map_congr_left (fun i hi => ?_)
  exact h2.kind (shn_of he hn) (shn_of h1 (swZ_len _ _)) (List.mem_range.1 hi)
theorem items_rt {s t u : Nat} (he : chkS (c : Int) (d : Int) zs ks = 0) (hn : zs.length = n) : ikL n (rtZ s t u c d n zs n) (opnL n (rtZ s t u c d n zs n) (fI (rtP s n ks) n)) (kNt (fI (rtP s n ks) n)) 0 c = iRt n zs ks t c := by
  obtain ⟨h1, h2⟩ := rt_ok (s := s) (t := t) (u := u) he hn
  have H := shn_of he hn
  have S := shg_of he
  unfold ikL iRt
  refine List.map_congr_left (fun a ha => ?_)
  have ha := List.mem_range.1 ha
  refine h2.item H (shn_of h1 (rtZ_len _ _ _ _ _ _ _ _)) (fun i hi => ?_)
  rw [rt_e0 H.z hi]
  have e0 : eN zs 0 (tnN s n i) < c := by have := S.e0 (tnN s n i) (by rw [hn]; exact tn_lt (by omega)); omega
  constructor
  · intro e; rw [← e, bk_tn e0]
  · intro e; rw [e, tn_bk ha]
theorem items_sw (he : chkS (c : Int) (d : Int) zs ks = 0) (hn : zs.length = n) : ikL n (swZ zs n) (opnL n (swZ zs n) ks) (kNt ks) 1 c = ikL n zs (opnL n zs ks) (kNt ks) 0 c := by
  obtain ⟨h1, h2⟩ := sw_ok he hn
  unfold ikL
  refine List.map_congr_left (fun a ha => ?_)
  exact h2.item (shn_of he hn) (shn_of h1 (swZ_len _ _)) (fun i hi => by rw [sw_e1 hi]; exact Iff.rfl)
end
set_option maxRecDepth 100000 in
set_option maxHeartbeats 40000000 in
theorem order9 (sl sr : Int) (A : Option Addr) (n cap : Nat) (zs : List Rg) (A2 : Option Addr) (kn kc : Nat) (ks : List Int) (s t u : Nat) (w : World) (h : Rgs w A n zs) (hI : Ints w A2 kn ks) (hc9 : n ≤ cap) (hs : s ≤ 255) (ht : t ≤ 255) (hu : u ≤ 255) :
    Calls Try.prog 9 #[.agg #[.int .i64 sl, .int .i64 sr, .slice A n cap, .slice A2 kn kc], .agg #[.int .u8 (s : Int), .int .u8 (t : Int), .int .u8 (u : Int)]] w fun e w' => e = .returned (.bool true) ∧ Below w.heap.size w w' := by
  have hzl := h.1
  have hkl := hI.1
  have Hzl := Lib.hid hzl
  have Hkl := Lib.hid hkl
  have Hc9 := Lib.hid hc9
  clear hzl hkl hc9
  obtain ⟨R, hR⟩ : ∃ v, w.heap.size = v := ⟨_, rfl⟩
  have hb0 := below_alloc_ w (.cells #[.int .i64 sl, .int .i64 sr, .slice A n cap, .slice A2 kn kc] 25)
  have hr0 := heap_alloc_new_ w (.cells #[.int .i64 sl, .int .i64 sr, .slice A n cap, .slice A2 kn kc] 25)
  have hz0 : (w.alloc (.cells #[.int .i64 sl, .int .i64 sr, .slice A n cap, .slice A2 kn kc] 25)).heap.size = w.heap.size + 1 := by simp
  obtain ⟨wb0, hwb0⟩ : ∃ v, w.alloc (.cells #[.int .i64 sl, .int .i64 sr, .slice A n cap, .slice A2 kn kc] 25) = v := ⟨_, rfl⟩
  rw [hwb0] at hb0 hr0 hz0
  rw [hR] at hr0 hz0
  have hB := hb0
  have hb1 := below_alloc_ wb0 (.cells #[.int .u8 (s : Int), .int .u8 (t : Int), .int .u8 (u : Int)] 53)
  have hr1 := heap_alloc_new_ wb0 (.cells #[.int .u8 (s : Int), .int .u8 (t : Int), .int .u8 (u : Int)] 53)
  have hz1 : (wb0.alloc (.cells #[.int .u8 (s : Int), .int .u8 (t : Int), .int .u8 (u : Int)] 53)).heap.size = wb0.heap.size + 1 := by simp
  obtain ⟨w0, hw0⟩ : ∃ v, wb0.alloc (.cells #[.int .u8 (s : Int), .int .u8 (t : Int), .int .u8 (u : Int)] 53) = v := ⟨_, rfl⟩
  rw [hw0] at hb1 hr1 hz1
  rw [hz0] at hr1 hz1
  replace hr0 := (hb1.block _ (lt_of_block hr0)).trans hr0
  replace hB := hB.trans (hb1.mono hB.size)
  have X := Lib.hid (h.below hB (Nat.le_refl _))
  have XI := Lib.hid (hI.below hB (Nat.le_refl _))
  have HS := Lib.hid hr0
  have HT := Lib.hid hr1
  have HW0 := Lib.hid hwb0
  have HW1 := Lib.hid hw0
  have B := Lib.hid hB
  have HR := Lib.hid hR
  clear hB hR hb0 hr0 hz0 hwb0 hb1 hr1 hz1 hw0 h hI
  have zHS0 : w0.cell? ⟨R, 0, none⟩ = some (.int .i64 sl) := by rw [cell_row HS.out]; rfl
  have zHS1 : w0.cell? ⟨R, 1, none⟩ = some (.int .i64 sr) := by rw [cell_row HS.out]; rfl
  have zHS2 : w0.cell? ⟨R, 2, none⟩ = some (.slice A n cap) := by rw [cell_row HS.out]; rfl
  have zHS3 : w0.cell? ⟨R, 3, none⟩ = some (.slice A2 kn kc) := by rw [cell_row HS.out]; rfl
  have zHT0 : w0.cell? ⟨R + 1, 0, none⟩ = some (.int .u8 (s : Int)) := by rw [cell_row HT.out]; rfl
  have zHT1 : w0.cell? ⟨R + 1, 1, none⟩ = some (.int .u8 (t : Int)) := by rw [cell_row HT.out]; rfl
  have zHT2 : w0.cell? ⟨R + 1, 2, none⟩ = some (.int .u8 (u : Int)) := by rw [cell_row HT.out]; rfl
  go_enter Try.func9, Try.ntmps9
  go_wp2_with fail
  try rw [HW0.out]
  try rw [HW1.out]
  try rw [HR.out]
  try simp only [Nat.add_assoc, Nat.reduceAdd]
  try go_wp2_with fail
  clear zHS0 zHS1 zHS2 zHS3 zHT0 zHT1 zHT2
  refine (fine32 sl sr A n cap zs A2 kn kc ks w0 X.out XI.out Hc9.out).mono ?_
  rintro en w1 ⟨rfl, hb⟩
  replace X := Lib.hid (X.out.below hb (Nat.le_refl _))
  replace XI := Lib.hid (XI.out.below hb (Nat.le_refl _))
  replace HS := Lib.hid ((hb.block _ (lt_of_block HS.out)).trans HS.out)
  replace HT := Lib.hid ((hb.block _ (lt_of_block HT.out)).trans HT.out)
  replace B := Lib.hid (B.out.trans (hb.mono B.out.size))
  cases hf : finB sl sr n kn zs ks
  try clear hb
  · clear hf
    have zHS0 : w1.cell? ⟨R, 0, none⟩ = some (.int .i64 sl) := by rw [cell_row HS.out]; rfl
    have zHS1 : w1.cell? ⟨R, 1, none⟩ = some (.int .i64 sr) := by rw [cell_row HS.out]; rfl
    have zHS2 : w1.cell? ⟨R, 2, none⟩ = some (.slice A n cap) := by rw [cell_row HS.out]; rfl
    have zHS3 : w1.cell? ⟨R, 3, none⟩ = some (.slice A2 kn kc) := by rw [cell_row HS.out]; rfl
    have zHT0 : w1.cell? ⟨R + 1, 0, none⟩ = some (.int .u8 (s : Int)) := by rw [cell_row HT.out]; rfl
    have zHT1 : w1.cell? ⟨R + 1, 1, none⟩ = some (.int .u8 (t : Int)) := by rw [cell_row HT.out]; rfl
    have zHT2 : w1.cell? ⟨R + 1, 2, none⟩ = some (.int .u8 (u : Int)) := by rw [cell_row HT.out]; rfl
    go_wp2_with fail
    clear zHS0 zHS1 zHS2 zHS3 zHT0 zHT1 zHT2
    refine (works15 w1).mono ?_
    rintro en w2 ⟨rfl, hb⟩
    replace B := Lib.hid (B.out.trans (hb.mono B.out.size))
    clear hb
    go_wp2_with fail
    go_ret
    exact ⟨rfl, B.out⟩
  obtain ⟨hn50, hk50, he⟩ := fin_yes hf
  clear hf
  have hrg := (shg_of he).rng
  obtain ⟨c, hc, hc12, hc1⟩ : ∃ c : Nat, sl = (c : Int) ∧ c ≤ 12 ∧ 1 ≤ c := ⟨sl.toNat, by omega, by omega, by omega⟩
  obtain ⟨d, hd, hd12, hd1⟩ : ∃ d : Nat, sr = (d : Int) ∧ d ≤ 12 ∧ 1 ≤ d := ⟨sr.toNat, by omega, by omega, by omega⟩
  subst hc
  subst hd
  obtain ⟨sN, hsN⟩ : ∃ v, siz n zs ks = v := ⟨_, rfl⟩
  have HsN := Lib.hid hsN
  have hs12 : sN ≤ 10000 := by
    rw [← hsN]
    obtain ⟨p, hp⟩ := gre_ex (shn_of he Hzl.out)
    rw [← hp.2]
    unfold cntP
    have := List.length_filter_le p (List.range n)
    rw [List.length_range] at this
    omega
  have Hs12 := Lib.hid hs12
  have He := Lib.hid he
  have Hn := Lib.hid hn50
  have Hk := Lib.hid hk50
  have HSh := Lib.hid (shn_of he Hzl.out)
  clear hs12 hsN he hn50 hk50
  clear hrg
  have zHS0 : w1.cell? ⟨R, 0, none⟩ = some (.int .i64 (c : Int)) := by rw [cell_row HS.out]; rfl
  have zHS1 : w1.cell? ⟨R, 1, none⟩ = some (.int .i64 (d : Int)) := by rw [cell_row HS.out]; rfl
  have zHS2 : w1.cell? ⟨R, 2, none⟩ = some (.slice A n cap) := by rw [cell_row HS.out]; rfl
  have zHS3 : w1.cell? ⟨R, 3, none⟩ = some (.slice A2 kn kc) := by rw [cell_row HS.out]; rfl
  have zHT0 : w1.cell? ⟨R + 1, 0, none⟩ = some (.int .u8 (s : Int)) := by rw [cell_row HT.out]; rfl
  have zHT1 : w1.cell? ⟨R + 1, 1, none⟩ = some (.int .u8 (t : Int)) := by rw [cell_row HT.out]; rfl
  have zHT2 : w1.cell? ⟨R + 1, 2, none⟩ = some (.int .u8 (u : Int)) := by rw [cell_row HT.out]; rfl
  go_upto_region 4 with fail
  go_cut [6, 7] from 31 to 43 (fun v6 v7 wx => ∃ D6 D7, v6 = .pointer (some ⟨D6, 0, none⟩) ∧ v7 = .pointer (some ⟨D7, 0, none⟩) ∧ w1.heap.size ≤ D6 ∧ w1.heap.size ≤ D7 ∧ OrI D6 D7 wx.heap.size (c : Int) (d : Int) (.slice A2 kn kc) wx [] [] [] wx ∧ Below w1.heap.size w1 wx)
  case first =>
    refine wp_region_held_drew (S := fun w2 => Below w1.heap.size w1 w2) (by kernel_rfl) (drew_b _ _) (fun hS0 => ?_)
    refine wpAnyH_take (i := 0) (oi := { dst := some 31, op := Go.Op.fieldAddr 25 (Go.Operand.tmp 2) 0, type := 0, pos := "outright.go:108", after := #[], guard := none }) (v := .pointer (some ⟨R, 0, none⟩)) rfl (by kernel_rfl) (by kernel_rfl) (by kernel_rfl) (fun _ _ _ h => h) (Or.inl ⟨by rfl, by intro w2 hSw; (try dsimp only at hSw); go_simp⟩) hS0 ?_
    try simp only [Act.put, List.setIfInBounds_toArray, List.set_cons_zero, List.set_cons_succ]
    refine wpAnyH_take (i := 1) (oi := { dst := some 32, op := Go.Op.load 3 (Go.Operand.tmp 31), type := 3, pos := "outright.go:108", after := #[{ on := 0, ground := Go.Ground.data }], guard := none }) (v := .int .i64 (c : Int)) rfl (by kernel_rfl) (by kernel_rfl) (by kernel_rfl) (fun _ _ _ h => h) (Or.inl ⟨by rfl, by intro w2 hSw; (try dsimp only at hSw); have y0 := (hSw.cell (lt_of_cell zHS0)).trans zHS0; have y1 := (hSw.cell (lt_of_cell zHS1)).trans zHS1; have y2 := (hSw.cell (lt_of_cell zHS2)).trans zHS2; have y3 := (hSw.cell (lt_of_cell zHS3)).trans zHS3; go_simp⟩) hS0 ?_
    try simp only [Act.put, List.setIfInBounds_toArray, List.set_cons_zero, List.set_cons_succ]
    refine wpAnyH_take (i := 2) (oi := { dst := some 33, op := Go.Op.fieldAddr 25 (Go.Operand.tmp 2) 1, type := 0, pos := "outright.go:108", after := #[], guard := none }) (v := .pointer (some ⟨R, 1, none⟩)) rfl (by kernel_rfl) (by kernel_rfl) (by kernel_rfl) (fun _ _ _ h => h) (Or.inl ⟨by rfl, by intro w2 hSw; (try dsimp only at hSw); go_simp⟩) hS0 ?_
    try simp only [Act.put, List.setIfInBounds_toArray, List.set_cons_zero, List.set_cons_succ]
    refine wpAnyH_take (i := 3) (oi := { dst := some 34, op := Go.Op.load 3 (Go.Operand.tmp 33), type := 3, pos := "outright.go:108", after := #[{ on := 2, ground := Go.Ground.data }], guard := none }) (v := .int .i64 (d : Int)) rfl (by kernel_rfl) (by kernel_rfl) (by kernel_rfl) (fun _ _ _ h => h) (Or.inl ⟨by rfl, by intro w2 hSw; (try dsimp only at hSw); have y0 := (hSw.cell (lt_of_cell zHS0)).trans zHS0; have y1 := (hSw.cell (lt_of_cell zHS1)).trans zHS1; have y2 := (hSw.cell (lt_of_cell zHS2)).trans zHS2; have y3 := (hSw.cell (lt_of_cell zHS3)).trans zHS3; go_simp⟩) hS0 ?_
    try simp only [Act.put, List.setIfInBounds_toArray, List.set_cons_zero, List.set_cons_succ]
    refine wpAnyH_take (i := 4) (oi := { dst := some 35, op := Go.Op.build 25 #[(0, Go.Operand.tmp 32), (1, Go.Operand.tmp 34)], type := 25, pos := "outright.go:108", after := #[{ on := 1, ground := Go.Ground.data }, { on := 3, ground := Go.Ground.data }], guard := none }) (v := .agg #[.int .i64 (c : Int), .int .i64 (d : Int), .slice none 0 0, .slice none 0 0]) rfl (by kernel_rfl) (by kernel_rfl) (by kernel_rfl) (fun _ _ _ h => h) (Or.inl ⟨by rfl, by intro w2 hSw; (try dsimp only at hSw); go_simp⟩) hS0 ?_
    try simp only [Act.put, List.setIfInBounds_toArray, List.set_cons_zero, List.set_cons_succ]
    refine wpAnyH_take (i := 5) (oi := { dst := some 36, op := Go.Op.fieldAddr 25 (Go.Operand.tmp 2) 1, type := 0, pos := "outright.go:108", after := #[{ on := 14, ground := Go.Ground.gcOnly Go.Departure.lateStores }], guard := none }) (v := .pointer (some ⟨R, 1, none⟩)) rfl (by kernel_rfl) (by kernel_rfl) (by kernel_rfl) (fun _ _ _ h => h) (Or.inl ⟨by rfl, by intro w2 hSw; (try dsimp only at hSw); go_simp⟩) hS0 ?_
    try simp only [Act.put, List.setIfInBounds_toArray, List.set_cons_zero, List.set_cons_succ]
    refine wpAnyH_take (i := 6) (oi := { dst := some 37, op := Go.Op.load 3 (Go.Operand.tmp 36), type := 3, pos := "outright.go:108", after := #[{ on := 5, ground := Go.Ground.data }, { on := 14, ground := Go.Ground.gcOnly Go.Departure.lateStores }], guard := none }) (v := .int .i64 (d : Int)) rfl (by kernel_rfl) (by kernel_rfl) (by kernel_rfl) (fun _ _ _ h => h) (Or.inl ⟨by rfl, by intro w2 hSw; (try dsimp only at hSw); have y0 := (hSw.cell (lt_of_cell zHS0)).trans zHS0; have y1 := (hSw.cell (lt_of_cell zHS1)).trans zHS1; have y2 := (hSw.cell (lt_of_cell zHS2)).trans zHS2; have y3 := (hSw.cell (lt_of_cell zHS3)).trans zHS3; go_simp⟩) hS0 ?_
    try simp only [Act.put, List.setIfInBounds_toArray, List.set_cons_zero, List.set_cons_succ]
    refine wpAnyH_take (i := 7) (oi := { dst := some 38, op := Go.Op.fieldAddr 25 (Go.Operand.tmp 2) 0, type := 0, pos := "outright.go:108", after := #[{ on := 14, ground := Go.Ground.gcOnly Go.Departure.lateStores }], guard := none }) (v := .pointer (some ⟨R, 0, none⟩)) rfl (by kernel_rfl) (by kernel_rfl) (by kernel_rfl) (fun _ _ _ h => h) (Or.inl ⟨by rfl, by intro w2 hSw; (try dsimp only at hSw); go_simp⟩) hS0 ?_
    try simp only [Act.put, List.setIfInBounds_toArray, List.set_cons_zero, List.set_cons_succ]
    refine wpAnyH_take (i := 8) (oi := { dst := some 39, op := Go.Op.load 3 (Go.Operand.tmp 38), type := 3, pos := "outright.go:108", after := #[{ on := 7, ground := Go.Ground.data }, { on := 14, ground := Go.Ground.gcOnly Go.Departure.lateStores }], guard := none }) (v := .int .i64 (c : Int)) rfl (by kernel_rfl) (by kernel_rfl) (by kernel_rfl) (fun _ _ _ h => h) (Or.inl ⟨by rfl, by intro w2 hSw; (try dsimp only at hSw); have y0 := (hSw.cell (lt_of_cell zHS0)).trans zHS0; have y1 := (hSw.cell (lt_of_cell zHS1)).trans zHS1; have y2 := (hSw.cell (lt_of_cell zHS2)).trans zHS2; have y3 := (hSw.cell (lt_of_cell zHS3)).trans zHS3; go_simp⟩) hS0 ?_
    try simp only [Act.put, List.setIfInBounds_toArray, List.set_cons_zero, List.set_cons_succ]
    refine wpAnyH_take (i := 9) (oi := { dst := some 40, op := Go.Op.fieldAddr 25 (Go.Operand.tmp 2) 3, type := 0, pos := "outright.go:108", after := #[{ on := 14, ground := Go.Ground.gcOnly Go.Departure.lateStores }], guard := none }) (v := .pointer (some ⟨R, 3, none⟩)) rfl (by kernel_rfl) (by kernel_rfl) (by kernel_rfl) (fun _ _ _ h => h) (Or.inl ⟨by rfl, by intro w2 hSw; (try dsimp only at hSw); go_simp⟩) hS0 ?_
    try simp only [Act.put, List.setIfInBounds_toArray, List.set_cons_zero, List.set_cons_succ]
    refine wpAnyH_take (i := 10) (oi := { dst := some 41, op := Go.Op.load 23 (Go.Operand.tmp 40), type := 23, pos := "outright.go:108", after := #[{ on := 9, ground := Go.Ground.data }, { on := 14, ground := Go.Ground.gcOnly Go.Departure.lateStores }], guard := none }) (v := .slice A2 kn kc) rfl (by kernel_rfl) (by kernel_rfl) (by kernel_rfl) (fun _ _ _ h => h) (Or.inl ⟨by rfl, by intro w2 hSw; (try dsimp only at hSw); have y0 := (hSw.cell (lt_of_cell zHS0)).trans zHS0; have y1 := (hSw.cell (lt_of_cell zHS1)).trans zHS1; have y2 := (hSw.cell (lt_of_cell zHS2)).trans zHS2; have y3 := (hSw.cell (lt_of_cell zHS3)).trans zHS3; go_simp⟩) hS0 ?_
    try simp only [Act.put, List.setIfInBounds_toArray, List.set_cons_zero, List.set_cons_succ]
    refine wpAnyH_take (i := 11) (oi := { dst := some 42, op := Go.Op.build 25 #[(0, Go.Operand.tmp 37), (1, Go.Operand.tmp 39), (3, Go.Operand.tmp 41)], type := 25, pos := "outright.go:108", after := #[{ on := 6, ground := Go.Ground.data }, { on := 8, ground := Go.Ground.data }, { on := 10, ground := Go.Ground.data }, { on := 14, ground := Go.Ground.gcOnly Go.Departure.lateStores }], guard := none }) (v := .agg #[.int .i64 (d : Int), .int .i64 (c : Int), .slice none 0 0, .slice A2 kn kc]) rfl (by kernel_rfl) (by kernel_rfl) (by kernel_rfl) (fun _ _ _ h => h) (Or.inl ⟨by rfl, by intro w2 hSw; (try dsimp only at hSw); go_simp⟩) hS0 ?_
    try simp only [Act.put, List.setIfInBounds_toArray, List.set_cons_zero, List.set_cons_succ]
    have hV0 := hS0
    generalize w1.drew = V0 at hV0 ⊢
    clear hS0
    refine wpAnyH_ready (rs := [12, 13]) (by kernel_rfl) (by simp) ?_
    refine AllReadyH.cons (o := { dst := some 6, op := Go.Op.alloc 25, type := 0, pos := "outright.go:108", after := #[], guard := none }) rfl (fun K2 hK => ?_) ?_
    · go_simp
      refine hK.out _ _ (hV0.trans ((below_alloc_ _ _).mono hV0.size)) (fun hV1 => ?_)
      clear hK K2
      have h6 := heap_alloc_new_ V0 (.cells #[.int .i64 0, .int .i64 0, .slice none 0 0, .slice none 0 0] 25)
      have hbx := below_alloc_ V0 (.cells #[.int .i64 0, .int .i64 0, .slice none 0 0, .slice none 0 0] 25)
      have hD6 := hV0.size
      generalize V0.alloc (.cells #[.int .i64 0, .int .i64 0, .slice none 0 0, .slice none 0 0] 25) = V1 at *
      generalize hDe : V0.heap.size = D6 at *
      clear hDe hbx
      try simp only [Act.put, List.setIfInBounds_toArray, List.set_cons_zero, List.set_cons_succ]
      refine wpAnyH_ready (rs := [13]) (by kernel_rfl) (by simp) ?_
      refine AllReadyH.cons (o := { dst := some 7, op := Go.Op.alloc 25, type := 0, pos := "outright.go:108", after := #[], guard := none }) rfl (fun K2 hK => ?_) ?_
      · go_simp
        refine hK.out _ _ (hV1.trans ((below_alloc_ _ _).mono hV1.size)) (fun hV2 => ?_)
        clear hK K2
        have h7 := heap_alloc_new_ V1 (.cells #[.int .i64 0, .int .i64 0, .slice none 0 0, .slice none 0 0] 25)
        have hbx := below_alloc_ V1 (.cells #[.int .i64 0, .int .i64 0, .slice none 0 0, .slice none 0 0] 25)
        have hD7 := hV1.size
        have hlo := lt_of_block h6
        replace h6 := (hbx.block _ hlo).trans h6
        generalize V1.alloc (.cells #[.int .i64 0, .int .i64 0, .slice none 0 0, .slice none 0 0] 25) = V2 at *
        generalize hDe : V1.heap.size = D7 at *
        clear hDe hbx
        have hne : D6 ≠ D7 := by omega
        clear hlo
        try simp only [Act.put, List.setIfInBounds_toArray, List.set_cons_zero, List.set_cons_succ]
        refine wpAnyH_ready (rs := [14]) (by kernel_rfl) (by simp) ?_
        refine AllReadyH.cons (o := { dst := none, op := Go.Op.store 25 (Go.Operand.tmp 6) (Go.Operand.tmp 35), type := 0, pos := "outright.go:108", after := #[{ on := 12, ground := Go.Ground.data }, { on := 4, ground := Go.Ground.data }, { on := 0, ground := Go.Ground.phase }, { on := 1, ground := Go.Ground.phase }, { on := 2, ground := Go.Ground.phase }, { on := 3, ground := Go.Ground.phase }, { on := 4, ground := Go.Ground.phase }, { on := 5, ground := Go.Ground.textOnly Go.Departure.lateStores }, { on := 6, ground := Go.Ground.textOnly Go.Departure.lateStores }, { on := 7, ground := Go.Ground.textOnly Go.Departure.lateStores }, { on := 8, ground := Go.Ground.textOnly Go.Departure.lateStores }, { on := 9, ground := Go.Ground.textOnly Go.Departure.lateStores }, { on := 10, ground := Go.Ground.textOnly Go.Departure.lateStores }, { on := 11, ground := Go.Ground.textOnly Go.Departure.lateStores }, { on := 12, ground := Go.Ground.phase }, { on := 13, ground := Go.Ground.phase }], guard := none }) rfl (fun K2 hK => ?_) ?_
        · have f0 : V2.cell? ⟨D6, 0, none⟩ = some (.int .i64 0) := by rw [cell_row h6]; rfl
          have f1 : V2.cell? ⟨D6, 1, none⟩ = some (.int .i64 0) := by rw [cell_row h6]; rfl
          have f2 : V2.cell? ⟨D6, 2, none⟩ = some (.slice none 0 0) := by rw [cell_row h6]; rfl
          have f3 : V2.cell? ⟨D6, 3, none⟩ = some (.slice none 0 0) := by rw [cell_row h6]; rfl
          have fz : ∀ i, V2.frozen? ⟨D6, i, none⟩ = false := fun i => frozen_row h6
          have hkk := ((keeps_setCell V2 D6 0 (.int .i64 (c : Int))).trans (keeps_setCell _ D6 1 (.int .i64 (d : Int)))).trans ((keeps_setCell _ D6 2 (.slice none 0 0)).trans (keeps_setCell _ D6 3 (.slice none 0 0)))
          have hss := set_same 3 (.slice none 0 0) (set_same 2 (.slice none 0 0) (set_same 1 (.int .i64 (d : Int)) (set_same 0 (.int .i64 (c : Int)) h6)))
          go_simp
          have hV3 : Below w1.heap.size w1 ((((V2.setCell ⟨D6, 0, none⟩ (.int .i64 (c : Int))).setCell ⟨D6, 1, none⟩ (.int .i64 (d : Int))).setCell ⟨D6, 2, none⟩ (.slice none 0 0)).setCell ⟨D6, 3, none⟩ (.slice none 0 0)) := hV2.trans (hkk.below hV2.size (fun j hj e => by omega))
          refine hK.out _ _ hV3 (fun _ => ?_)
          clear hK K2 f0 f1 f2 f3 fz
          replace h7 := (hkk.block _ (lt_of_block h7) (fun e => by omega)).trans h7
          clear h6
          have h6 := hss
          clear hss hkk
          generalize ((((V2.setCell ⟨D6, 0, none⟩ (.int .i64 (c : Int))).setCell ⟨D6, 1, none⟩ (.int .i64 (d : Int))).setCell ⟨D6, 2, none⟩ (.slice none 0 0)).setCell ⟨D6, 3, none⟩ (.slice none 0 0)) = V3 at *
          try simp only [Act.put, List.setIfInBounds_toArray, List.set_cons_zero, List.set_cons_succ]
          refine wpAnyH_ready (rs := [15]) (by kernel_rfl) (by simp) ?_
          refine AllReadyH.cons (o := { dst := none, op := Go.Op.store 25 (Go.Operand.tmp 7) (Go.Operand.tmp 42), type := 0, pos := "outright.go:108", after := #[{ on := 13, ground := Go.Ground.data }, { on := 11, ground := Go.Ground.data }, { on := 14, ground := Go.Ground.chain }, { on := 0, ground := Go.Ground.phase }, { on := 1, ground := Go.Ground.phase }, { on := 2, ground := Go.Ground.phase }, { on := 3, ground := Go.Ground.phase }, { on := 4, ground := Go.Ground.phase }, { on := 5, ground := Go.Ground.phase }, { on := 6, ground := Go.Ground.phase }, { on := 7, ground := Go.Ground.phase }, { on := 8, ground := Go.Ground.phase }, { on := 9, ground := Go.Ground.phase }, { on := 10, ground := Go.Ground.phase }, { on := 11, ground := Go.Ground.phase }, { on := 12, ground := Go.Ground.phase }, { on := 13, ground := Go.Ground.phase }, { on := 14, ground := Go.Ground.phase }], guard := none }) rfl (fun K2 hK => ?_) ?_
          · have f0 : V3.cell? ⟨D7, 0, none⟩ = some (.int .i64 0) := by rw [cell_row h7]; rfl
            have f1 : V3.cell? ⟨D7, 1, none⟩ = some (.int .i64 0) := by rw [cell_row h7]; rfl
            have f2 : V3.cell? ⟨D7, 2, none⟩ = some (.slice none 0 0) := by rw [cell_row h7]; rfl
            have f3 : V3.cell? ⟨D7, 3, none⟩ = some (.slice none 0 0) := by rw [cell_row h7]; rfl
            have fz : ∀ i, V3.frozen? ⟨D7, i, none⟩ = false := fun i => frozen_row h7
            have hkk := ((keeps_setCell V3 D7 0 (.int .i64 (d : Int))).trans (keeps_setCell _ D7 1 (.int .i64 (c : Int)))).trans ((keeps_setCell _ D7 2 (.slice none 0 0)).trans (keeps_setCell _ D7 3 (.slice A2 kn kc)))
            have hss := set_same 3 (.slice A2 kn kc) (set_same 2 (.slice none 0 0) (set_same 1 (.int .i64 (c : Int)) (set_same 0 (.int .i64 (d : Int)) h7)))
            go_simp
            have hV4 : Below w1.heap.size w1 ((((V3.setCell ⟨D7, 0, none⟩ (.int .i64 (d : Int))).setCell ⟨D7, 1, none⟩ (.int .i64 (c : Int))).setCell ⟨D7, 2, none⟩ (.slice none 0 0)).setCell ⟨D7, 3, none⟩ (.slice A2 kn kc)) := hV3.trans (hkk.below hV3.size (fun j hj e => by omega))
            refine hK.out _ _ hV4 (fun _ => ?_)
            clear hK K2 f0 f1 f2 f3 fz
            replace h6 := (hkk.block _ (lt_of_block h6) (fun e => by omega)).trans h6
            clear h7
            have h7 := hss
            clear hss hkk
            generalize ((((V3.setCell ⟨D7, 0, none⟩ (.int .i64 (d : Int))).setCell ⟨D7, 1, none⟩ (.int .i64 (c : Int))).setCell ⟨D7, 2, none⟩ (.slice none 0 0)).setCell ⟨D7, 3, none⟩ (.slice A2 kn kc)) = V4 at *
            try simp only [Act.put, List.setIfInBounds_toArray, List.set_cons_zero, List.set_cons_succ]
            refine wpAnyH_done (by kernel_rfl) ?_ _
            go_wp2_with fail
            go_meet
            case rel => exact ⟨D6, D7, rfl, rfl, hD6, hD7, ⟨⟨.slice none 0 0, .slice none 0 0, .slice none 0 0, h6, h7, own_nil _ _ _, own_nil _ _ _, own_nil _ _ _, fun g e => (by cases e), fun g e => (by cases e), fun g e => (by cases e), fun g e => (by cases e), fun g e => (by cases e), fun g e => (by cases e)⟩, Keeps.refl _ _, lt_of_block h6, lt_of_block h7, hne, rfl⟩, hV4⟩
          exact AllReadyH.nil
        exact AllReadyH.nil
      exact AllReadyH.nil
    refine AllReadyH.cons (o := { dst := some 7, op := Go.Op.alloc 25, type := 0, pos := "outright.go:108", after := #[], guard := none }) rfl (fun K2 hK => ?_) ?_
    · go_simp
      refine hK.out _ _ (hV0.trans ((below_alloc_ _ _).mono hV0.size)) (fun hV1 => ?_)
      clear hK K2
      have h7 := heap_alloc_new_ V0 (.cells #[.int .i64 0, .int .i64 0, .slice none 0 0, .slice none 0 0] 25)
      have hbx := below_alloc_ V0 (.cells #[.int .i64 0, .int .i64 0, .slice none 0 0, .slice none 0 0] 25)
      have hD7 := hV0.size
      generalize V0.alloc (.cells #[.int .i64 0, .int .i64 0, .slice none 0 0, .slice none 0 0] 25) = V1 at *
      generalize hDe : V0.heap.size = D7 at *
      clear hDe hbx
      try simp only [Act.put, List.setIfInBounds_toArray, List.set_cons_zero, List.set_cons_succ]
      refine wpAnyH_ready (rs := [12]) (by kernel_rfl) (by simp) ?_
      refine AllReadyH.cons (o := { dst := some 6, op := Go.Op.alloc 25, type := 0, pos := "outright.go:108", after := #[], guard := none }) rfl (fun K2 hK => ?_) ?_
      · go_simp
        refine hK.out _ _ (hV1.trans ((below_alloc_ _ _).mono hV1.size)) (fun hV2 => ?_)
        clear hK K2
        have h6 := heap_alloc_new_ V1 (.cells #[.int .i64 0, .int .i64 0, .slice none 0 0, .slice none 0 0] 25)
        have hbx := below_alloc_ V1 (.cells #[.int .i64 0, .int .i64 0, .slice none 0 0, .slice none 0 0] 25)
        have hD6 := hV1.size
        have hlo := lt_of_block h7
        replace h7 := (hbx.block _ hlo).trans h7
        generalize V1.alloc (.cells #[.int .i64 0, .int .i64 0, .slice none 0 0, .slice none 0 0] 25) = V2 at *
        generalize hDe : V1.heap.size = D6 at *
        clear hDe hbx
        have hne : D6 ≠ D7 := by omega
        clear hlo
        try simp only [Act.put, List.setIfInBounds_toArray, List.set_cons_zero, List.set_cons_succ]
        refine wpAnyH_ready (rs := [14]) (by kernel_rfl) (by simp) ?_
        refine AllReadyH.cons (o := { dst := none, op := Go.Op.store 25 (Go.Operand.tmp 6) (Go.Operand.tmp 35), type := 0, pos := "outright.go:108", after := #[{ on := 12, ground := Go.Ground.data }, { on := 4, ground := Go.Ground.data }, { on := 0, ground := Go.Ground.phase }, { on := 1, ground := Go.Ground.phase }, { on := 2, ground := Go.Ground.phase }, { on := 3, ground := Go.Ground.phase }, { on := 4, ground := Go.Ground.phase }, { on := 5, ground := Go.Ground.textOnly Go.Departure.lateStores }, { on := 6, ground := Go.Ground.textOnly Go.Departure.lateStores }, { on := 7, ground := Go.Ground.textOnly Go.Departure.lateStores }, { on := 8, ground := Go.Ground.textOnly Go.Departure.lateStores }, { on := 9, ground := Go.Ground.textOnly Go.Departure.lateStores }, { on := 10, ground := Go.Ground.textOnly Go.Departure.lateStores }, { on := 11, ground := Go.Ground.textOnly Go.Departure.lateStores }, { on := 12, ground := Go.Ground.phase }, { on := 13, ground := Go.Ground.phase }], guard := none }) rfl (fun K2 hK => ?_) ?_
        · have f0 : V2.cell? ⟨D6, 0, none⟩ = some (.int .i64 0) := by rw [cell_row h6]; rfl
          have f1 : V2.cell? ⟨D6, 1, none⟩ = some (.int .i64 0) := by rw [cell_row h6]; rfl
          have f2 : V2.cell? ⟨D6, 2, none⟩ = some (.slice none 0 0) := by rw [cell_row h6]; rfl
          have f3 : V2.cell? ⟨D6, 3, none⟩ = some (.slice none 0 0) := by rw [cell_row h6]; rfl
          have fz : ∀ i, V2.frozen? ⟨D6, i, none⟩ = false := fun i => frozen_row h6
          have hkk := ((keeps_setCell V2 D6 0 (.int .i64 (c : Int))).trans (keeps_setCell _ D6 1 (.int .i64 (d : Int)))).trans ((keeps_setCell _ D6 2 (.slice none 0 0)).trans (keeps_setCell _ D6 3 (.slice none 0 0)))
          have hss := set_same 3 (.slice none 0 0) (set_same 2 (.slice none 0 0) (set_same 1 (.int .i64 (d : Int)) (set_same 0 (.int .i64 (c : Int)) h6)))
          go_simp
          have hV3 : Below w1.heap.size w1 ((((V2.setCell ⟨D6, 0, none⟩ (.int .i64 (c : Int))).setCell ⟨D6, 1, none⟩ (.int .i64 (d : Int))).setCell ⟨D6, 2, none⟩ (.slice none 0 0)).setCell ⟨D6, 3, none⟩ (.slice none 0 0)) := hV2.trans (hkk.below hV2.size (fun j hj e => by omega))
          refine hK.out _ _ hV3 (fun _ => ?_)
          clear hK K2 f0 f1 f2 f3 fz
          replace h7 := (hkk.block _ (lt_of_block h7) (fun e => by omega)).trans h7
          clear h6
          have h6 := hss
          clear hss hkk
          generalize ((((V2.setCell ⟨D6, 0, none⟩ (.int .i64 (c : Int))).setCell ⟨D6, 1, none⟩ (.int .i64 (d : Int))).setCell ⟨D6, 2, none⟩ (.slice none 0 0)).setCell ⟨D6, 3, none⟩ (.slice none 0 0)) = V3 at *
          try simp only [Act.put, List.setIfInBounds_toArray, List.set_cons_zero, List.set_cons_succ]
          refine wpAnyH_ready (rs := [15]) (by kernel_rfl) (by simp) ?_
          refine AllReadyH.cons (o := { dst := none, op := Go.Op.store 25 (Go.Operand.tmp 7) (Go.Operand.tmp 42), type := 0, pos := "outright.go:108", after := #[{ on := 13, ground := Go.Ground.data }, { on := 11, ground := Go.Ground.data }, { on := 14, ground := Go.Ground.chain }, { on := 0, ground := Go.Ground.phase }, { on := 1, ground := Go.Ground.phase }, { on := 2, ground := Go.Ground.phase }, { on := 3, ground := Go.Ground.phase }, { on := 4, ground := Go.Ground.phase }, { on := 5, ground := Go.Ground.phase }, { on := 6, ground := Go.Ground.phase }, { on := 7, ground := Go.Ground.phase }, { on := 8, ground := Go.Ground.phase }, { on := 9, ground := Go.Ground.phase }, { on := 10, ground := Go.Ground.phase }, { on := 11, ground := Go.Ground.phase }, { on := 12, ground := Go.Ground.phase }, { on := 13, ground := Go.Ground.phase }, { on := 14, ground := Go.Ground.phase }], guard := none }) rfl (fun K2 hK => ?_) ?_
          · have f0 : V3.cell? ⟨D7, 0, none⟩ = some (.int .i64 0) := by rw [cell_row h7]; rfl
            have f1 : V3.cell? ⟨D7, 1, none⟩ = some (.int .i64 0) := by rw [cell_row h7]; rfl
            have f2 : V3.cell? ⟨D7, 2, none⟩ = some (.slice none 0 0) := by rw [cell_row h7]; rfl
            have f3 : V3.cell? ⟨D7, 3, none⟩ = some (.slice none 0 0) := by rw [cell_row h7]; rfl
            have fz : ∀ i, V3.frozen? ⟨D7, i, none⟩ = false := fun i => frozen_row h7
            have hkk := ((keeps_setCell V3 D7 0 (.int .i64 (d : Int))).trans (keeps_setCell _ D7 1 (.int .i64 (c : Int)))).trans ((keeps_setCell _ D7 2 (.slice none 0 0)).trans (keeps_setCell _ D7 3 (.slice A2 kn kc)))
            have hss := set_same 3 (.slice A2 kn kc) (set_same 2 (.slice none 0 0) (set_same 1 (.int .i64 (c : Int)) (set_same 0 (.int .i64 (d : Int)) h7)))
            go_simp
            have hV4 : Below w1.heap.size w1 ((((V3.setCell ⟨D7, 0, none⟩ (.int .i64 (d : Int))).setCell ⟨D7, 1, none⟩ (.int .i64 (c : Int))).setCell ⟨D7, 2, none⟩ (.slice none 0 0)).setCell ⟨D7, 3, none⟩ (.slice A2 kn kc)) := hV3.trans (hkk.below hV3.size (fun j hj e => by omega))
            refine hK.out _ _ hV4 (fun _ => ?_)
            clear hK K2 f0 f1 f2 f3 fz
            replace h6 := (hkk.block _ (lt_of_block h6) (fun e => by omega)).trans h6
            clear h7
            have h7 := hss
            clear hss hkk
            generalize ((((V3.setCell ⟨D7, 0, none⟩ (.int .i64 (d : Int))).setCell ⟨D7, 1, none⟩ (.int .i64 (c : Int))).setCell ⟨D7, 2, none⟩ (.slice none 0 0)).setCell ⟨D7, 3, none⟩ (.slice A2 kn kc)) = V4 at *
            try simp only [Act.put, List.setIfInBounds_toArray, List.set_cons_zero, List.set_cons_succ]
            refine wpAnyH_done (by kernel_rfl) ?_ _
            go_wp2_with fail
            go_meet
            case rel => exact ⟨D6, D7, rfl, rfl, hD6, hD7, ⟨⟨.slice none 0 0, .slice none 0 0, .slice none 0 0, h6, h7, own_nil _ _ _, own_nil _ _ _, own_nil _ _ _, fun g e => (by cases e), fun g e => (by cases e), fun g e => (by cases e), fun g e => (by cases e), fun g e => (by cases e), fun g e => (by cases e)⟩, Keeps.refl _ _, lt_of_block h6, lt_of_block h7, hne, rfl⟩, hV4⟩
          exact AllReadyH.nil
        exact AllReadyH.nil
      exact AllReadyH.nil
    exact AllReadyH.nil
  clear zHS0 zHS1 zHS2 zHS3 zHT0 zHT1 zHT2
  case rest =>
    obtain ⟨D6, D7, rfl, rfl, h6, h7, hor, hb⟩ := hcut
    obtain ⟨w2, rfl⟩ : ∃ v, v = wc := ⟨_, rfl⟩
    obtain ⟨Y, hY⟩ : ∃ v, w1.heap.size = v := ⟨_, rfl⟩
    rw [hY] at h6 h7 hb
    have HRY := Lib.hid (show R + 1 < Y by rw [← hY]; exact lt_of_block HT.out)
    have HwR := Lib.hid (show w.heap.size ≤ Y by rw [← hY]; exact B.out.size)
    have HzA := Lib.hid (eq_le hY)
    have HRB := Lib.hid (show R + 1 < w2.heap.size by have := HRY.out; have := HzA.out; have := hb.size; omega)
    have HD6 := Lib.hid h6
    have HD7 := Lib.hid h7
    have HbA := Lib.hid hb
    have HOr := Lib.hid hor
    have XA := X
    have IA := XI
    have SA := HS
    have TA := HT
    have BA := B
    clear hY h6 h7 hb hor X XI HS HT B
    go_wp2_with fail
    go_loopw [8] (fun v wr => ∃ q : Nat, q ≤ n ∧ v = .int .i64 (q : Int) ∧ Hid (OrI D6 D7 w2.heap.size (c : Int) (d : Int) (.slice A2 kn kc) w2 (rtZ s t u c d n zs q) (fI (rtP s n ks) q) (swZ zs q) wr)) (fun v _ => n - (intOf v).toNat)
    case atStart => exact ⟨0, Nat.zero_le _, rfl, HOr⟩
    case round =>
      obtain ⟨q, hq, rfl, HV⟩ := hrel
      obtain ⟨w3, rfl⟩ : ∃ v, v = wr := ⟨_, rfl⟩
      have hb : Below Y w1 w3 := HbA.out.trans (HV.out.keep.below (by have := HbA.out.size; have := HzA.out; omega) (fun j hj (e : j = D6 ∨ j = D7) => by have := HD6.out; have := HD7.out; omega))
      have X := Lib.hid (XA.out.below hb (by have := HzA.out; omega))
      have XI := Lib.hid (IA.out.below hb (by have := HzA.out; omega))
      have HS := Lib.hid ((hb.block _ (by have := HRY.out; omega)).trans SA.out)
      have HT := Lib.hid ((hb.block _ HRY.out).trans TA.out)
      have B := Lib.hid (BA.out.trans (hb.mono HwR.out))
      clear hb
      by_cases hlt : q < n
      · have hnb := Hn.out
        obtain ⟨bz, oz, eZ, hcz⟩ := X.out.2 (by omega)
        have hbz : bz < Y := by
          obtain ⟨b9, o9, e9, hc9⟩ := XA.out.2 (by omega)
          rw [eZ] at e9; cases e9
          have h1 := lt_of_cell (hc9 0 (by omega)).1
          have h2 := HzA.out; omega
        subst eZ
        have Hbz := Lib.hid hbz
        clear hbz
        obtain ⟨j, hj⟩ : ∃ v, tnN s n q = v := ⟨_, rfl⟩
        have hjn : j < n := by rw [← hj]; exact tn_lt (by omega)
        have hrem : ((q : Int) + (s : Int)).tmod (n : Int) = (j : Int) := by rw [Int.tmod_eq_emod_of_nonneg (by omega), ← hj]; rfl
        have hn0 : ¬ (n : Int) = 0 := by omega
        have Hj := Lib.hid hj
        have hzat := (HSh.out.z.at hjn).1
        have hz12 := (HSh.out.z.at hjn).2
        have hzaq := (HSh.out.z.at hlt).1
        have cA := (hcz j hjn).1
        have cB := (hcz j hjn).2
        have cC := (hcz q hlt).1
        have cD := (hcz q hlt).2
        rw [hzat] at cA cB
        rw [hzaq] at cC cD
        simp only at cA cB cC cD
        obtain ⟨ga, hga⟩ : ∃ v, eN zs 0 j = v := ⟨_, rfl⟩
        obtain ⟨gb, hgb⟩ : ∃ v, eN zs 1 j = v := ⟨_, rfl⟩
        obtain ⟨gc, hgc⟩ : ∃ v, eN zs 0 q = v := ⟨_, rfl⟩
        obtain ⟨gd, hgd⟩ : ∃ v, eN zs 1 q = v := ⟨_, rfl⟩
        rw [hga, hgb] at hzat hz12
        rw [hgc, hgd] at hzaq
        rw [hga] at cA
        rw [hgb] at cB
        rw [hgc] at cC
        rw [hgd] at cD
        obtain ⟨xa, hxa⟩ : ∃ v, tnN t c ga = v := ⟨_, rfl⟩
        obtain ⟨xb, hxb⟩ : ∃ v, tnN u d gb = v := ⟨_, rfl⟩
        have hrema : ((ga : Int) + (t : Int)).tmod (c : Int) = (xa : Int) := by rw [Int.tmod_eq_emod_of_nonneg (by omega), ← hxa]; rfl
        have hremb : ((gb : Int) + (u : Int)).tmod (d : Int) = (xb : Int) := by rw [Int.tmod_eq_emod_of_nonneg (by omega), ← hxb]; rfl
        have hc0 : ¬ (c : Int) = 0 := by omega
        have hd0 : ¬ (d : Int) = 0 := by omega
        have hzx : rtZ s t u c d n zs (q + 1) = rtZ s t u c d n zs q ++ [⟨(xa : Int), (xb : Int)⟩] := by
          rw [rtZ_succ, hj, hzat]; simp only [rtG, Int.toNat_natCast]; rw [hxa, hxb]
        have hsx : swZ zs (q + 1) = swZ zs q ++ [⟨(gd : Int), (gc : Int)⟩] := by rw [swZ_succ, hzaq]
        have Hzx := Lib.hid hzx
        have Hsx := Lib.hid hsx
        have Hz12 := Lib.hid hz12
        have Hgc := Lib.hid hgc
        have Hgd := Lib.hid hgd
        have i0 : (0 : Int) ≤ (q : Int) := by omega
        have i1 : (q : Int) < (n : Int) := by omega
        have j0 : (0 : Int) ≤ (j : Int) := by omega
        have j1 : (j : Int) < (n : Int) := by omega
        clear hcz hga hgb hgc hgd hzat hzaq hxa hxb hj hzx hsx hz12
        have zHS0 : w3.cell? ⟨R, 0, none⟩ = some (.int .i64 (c : Int)) := by rw [cell_row HS.out]; rfl
        have zHS1 : w3.cell? ⟨R, 1, none⟩ = some (.int .i64 (d : Int)) := by rw [cell_row HS.out]; rfl
        have zHS2 : w3.cell? ⟨R, 2, none⟩ = some (.slice (some ⟨bz, oz, none⟩) n cap) := by rw [cell_row HS.out]; rfl
        have zHS3 : w3.cell? ⟨R, 3, none⟩ = some (.slice A2 kn kc) := by rw [cell_row HS.out]; rfl
        have zHT0 : w3.cell? ⟨R + 1, 0, none⟩ = some (.int .u8 (s : Int)) := by rw [cell_row HT.out]; rfl
        have zHT1 : w3.cell? ⟨R + 1, 1, none⟩ = some (.int .u8 (t : Int)) := by rw [cell_row HT.out]; rfl
        have zHT2 : w3.cell? ⟨R + 1, 2, none⟩ = some (.int .u8 (u : Int)) := by rw [cell_row HT.out]; rfl
        go_wp2_with fail
        refine wp_region_held_drew (S := fun w2 => Below w3.heap.size w3 w2) (by kernel_rfl) (drew_b _ _) (fun hS0 => ?_)
        refine wpAnyH_take (i := 0) (oi := { dst := some 48, op := Go.Op.fieldAddr 25 (Go.Operand.tmp 2) 2, type := 0, pos := "outright.go:110", after := #[], guard := none }) (v := .pointer (some ⟨R, 2, none⟩)) rfl (by kernel_rfl) (by kernel_rfl) (by kernel_rfl) (fun _ _ _ h => h) (Or.inl ⟨by rfl, by intro w2 hSw; (try dsimp only at hSw); go_simp⟩) hS0 ?_
        try simp only [Act.put, List.setIfInBounds_toArray, List.set_cons_zero, List.set_cons_succ]
        refine wpAnyH_take (i := 1) (oi := { dst := some 49, op := Go.Op.load 22 (Go.Operand.tmp 48), type := 22, pos := "outright.go:110", after := #[{ on := 0, ground := Go.Ground.data }], guard := none }) (v := .slice (some ⟨bz, oz, none⟩) n cap) rfl (by kernel_rfl) (by kernel_rfl) (by kernel_rfl) (fun _ _ _ h => h) (Or.inl ⟨by rfl, by intro w2 hSw; (try dsimp only at hSw); have yHS2 := (hSw.cell (lt_of_cell zHS2)).trans zHS2; go_simp⟩) hS0 ?_
        try simp only [Act.put, List.setIfInBounds_toArray, List.set_cons_zero, List.set_cons_succ]
        refine wpAnyH_take (i := 2) (oi := { dst := some 50, op := Go.Op.move (Go.Operand.tmp 8), type := 3, pos := "outright.go:110", after := #[], guard := none }) (v := .int .i64 (q : Int)) rfl (by kernel_rfl) (by kernel_rfl) (by kernel_rfl) (fun _ _ _ h => h) (Or.inl ⟨by rfl, by intro w2 hSw; (try dsimp only at hSw); go_simp⟩) hS0 ?_
        try simp only [Act.put, List.setIfInBounds_toArray, List.set_cons_zero, List.set_cons_succ]
        refine wpAnyH_take (i := 3) (oi := { dst := some 51, op := Go.Op.indexAddr 53 (Go.Operand.tmp 3) (Go.Operand.const (Go.Value.int Go.IntKind.i64 0)), type := 0, pos := "outright.go:110", after := #[], guard := none }) (v := .pointer (some ⟨R + 1, 0, none⟩)) rfl (by kernel_rfl) (by kernel_rfl) (by kernel_rfl) (fun _ _ _ h => h) (Or.inl ⟨by rfl, by intro w2 hSw; (try dsimp only at hSw); go_simp⟩) hS0 ?_
        try simp only [Act.put, List.setIfInBounds_toArray, List.set_cons_zero, List.set_cons_succ]
        refine wpAnyH_take (i := 4) (oi := { dst := some 52, op := Go.Op.load 5 (Go.Operand.tmp 51), type := 5, pos := "outright.go:110", after := #[{ on := 3, ground := Go.Ground.data }], guard := none }) (v := .int .u8 (s : Int)) rfl (by kernel_rfl) (by kernel_rfl) (by kernel_rfl) (fun _ _ _ h => h) (Or.inl ⟨by rfl, by intro w2 hSw; (try dsimp only at hSw); have yHT0 := (hSw.cell (lt_of_cell zHT0)).trans zHT0; go_simp⟩) hS0 ?_
        try simp only [Act.put, List.setIfInBounds_toArray, List.set_cons_zero, List.set_cons_succ]
        refine wpAnyH_take (i := 5) (oi := { dst := some 53, op := Go.Op.convert 5 3 (Go.Operand.tmp 52), type := 3, pos := "outright.go:110", after := #[{ on := 4, ground := Go.Ground.data }], guard := none }) (v := .int .i64 (s : Int)) rfl (by kernel_rfl) (by kernel_rfl) (by kernel_rfl) (fun _ _ _ h => h) (Or.inl ⟨by rfl, by intro w2 hSw; (try dsimp only at hSw); go_simp; exact IntWalk.i64_in _ (by omega)⟩) hS0 ?_
        try simp only [Act.put, List.setIfInBounds_toArray, List.set_cons_zero, List.set_cons_succ]
        refine wpAnyH_take (i := 6) (oi := { dst := some 54, op := Go.Op.binOp Go.BinOp.add 3 (Go.Operand.tmp 50) (Go.Operand.tmp 53) 3, type := 3, pos := "outright.go:110", after := #[{ on := 2, ground := Go.Ground.data }, { on := 5, ground := Go.Ground.data }], guard := none }) (v := .int .i64 ((q : Int) + (s : Int))) rfl (by kernel_rfl) (by kernel_rfl) (by kernel_rfl) (fun _ _ _ h => h) (Or.inl ⟨by rfl, by intro w2 hSw; (try dsimp only at hSw); go_simp; exact IntWalk.i64_in _ (by omega)⟩) hS0 ?_
        try simp only [Act.put, List.setIfInBounds_toArray, List.set_cons_zero, List.set_cons_succ]
        refine wpAnyH_take (i := 7) (oi := { dst := some 55, op := Go.Op.move (Go.Operand.tmp 5), type := 3, pos := "outright.go:110", after := #[], guard := none }) (v := .int .i64 (n : Int)) rfl (by kernel_rfl) (by kernel_rfl) (by kernel_rfl) (fun _ _ _ h => h) (Or.inl ⟨by rfl, by intro w2 hSw; (try dsimp only at hSw); go_simp⟩) hS0 ?_
        try simp only [Act.put, List.setIfInBounds_toArray, List.set_cons_zero, List.set_cons_succ]
        refine wpAnyH_take (i := 8) (oi := { dst := some 56, op := Go.Op.binOp Go.BinOp.rem 3 (Go.Operand.tmp 54) (Go.Operand.tmp 55) 3, type := 3, pos := "outright.go:110", after := #[{ on := 6, ground := Go.Ground.data }, { on := 7, ground := Go.Ground.data }], guard := none }) (v := .int .i64 (j : Int)) rfl (by kernel_rfl) (by kernel_rfl) (by kernel_rfl) (fun _ _ _ h => h) (Or.inl ⟨by rfl, by intro w2 hSw; (try dsimp only at hSw); go_simp; omega⟩) hS0 ?_
        try simp only [Act.put, List.setIfInBounds_toArray, List.set_cons_zero, List.set_cons_succ]
        refine wpAnyH_take (i := 9) (oi := { dst := some 57, op := Go.Op.indexAddr 22 (Go.Operand.tmp 49) (Go.Operand.tmp 56), type := 0, pos := "outright.go:110", after := #[{ on := 1, ground := Go.Ground.data }, { on := 8, ground := Go.Ground.data }], guard := none }) (v := .pointer (some ⟨bz, oz + j * 2, none⟩)) rfl (by kernel_rfl) (by kernel_rfl) (by kernel_rfl) (fun _ _ _ h => h) (Or.inl ⟨by rfl, by intro w2 hSw; (try dsimp only at hSw); go_simp⟩) hS0 ?_
        try simp only [Act.put, List.setIfInBounds_toArray, List.set_cons_zero, List.set_cons_succ]
        refine wpAnyH_take (i := 10) (oi := { dst := some 58, op := Go.Op.load 55 (Go.Operand.tmp 57), type := 55, pos := "outright.go:110", after := #[{ on := 9, ground := Go.Ground.data }], guard := none }) (v := .agg #[.int .i64 (ga : Int), .int .i64 (gb : Int)]) rfl (by kernel_rfl) (by kernel_rfl) (by kernel_rfl) (fun _ _ _ h => h) (Or.inl ⟨by rfl, by intro w2 hSw; (try dsimp only at hSw); have y0 := (hSw.cell (lt_of_cell cA)).trans cA; have y1 := (hSw.cell (lt_of_cell cB)).trans cB; go_simp⟩) hS0 ?_
        try simp only [Act.put, List.setIfInBounds_toArray, List.set_cons_zero, List.set_cons_succ]
        clear zHS0 zHS1 zHS2 zHS3 zHT0 zHT1 zHT2
        have hV0 := hS0
        generalize w3.drew = V0 at hV0 ⊢
        clear hS0
        refine wpAnyH_ready (rs := [11]) (by kernel_rfl) (by simp) ?_
        refine AllReadyH.cons (o := { dst := some 9, op := Go.Op.alloc 55, type := 0, pos := "outright.go:110", after := #[], guard := none }) rfl (fun K2 hK => ?_) AllReadyH.nil
        go_simp
        refine hK.out _ _ (hV0.trans ((below_alloc_ _ _).mono hV0.size)) (fun hV1 => ?_)
        clear hK K2
        have h9 := heap_alloc_new_ V0 (.cells #[.int .i64 0, .int .i64 0] 55)
        have hD9 := hV0.size
        generalize V0.alloc (.cells #[.int .i64 0, .int .i64 0] 55) = V1 at *
        generalize hDe : V0.heap.size = D9 at *
        clear hDe hV0
        try simp only [Act.put, List.setIfInBounds_toArray, List.set_cons_zero, List.set_cons_succ]
        refine wpAnyH_ready (rs := [12]) (by kernel_rfl) (by simp) ?_
        refine AllReadyH.cons (o := { dst := none, op := Go.Op.store 55 (Go.Operand.tmp 9) (Go.Operand.tmp 58), type := 0, pos := "outright.go:110", after := #[{ on := 11, ground := Go.Ground.data }, { on := 10, ground := Go.Ground.data }, { on := 0, ground := Go.Ground.phase }, { on := 1, ground := Go.Ground.phase }, { on := 2, ground := Go.Ground.phase }, { on := 3, ground := Go.Ground.phase }, { on := 4, ground := Go.Ground.phase }, { on := 5, ground := Go.Ground.phase }, { on := 6, ground := Go.Ground.phase }, { on := 7, ground := Go.Ground.phase }, { on := 8, ground := Go.Ground.phase }, { on := 9, ground := Go.Ground.phase }, { on := 10, ground := Go.Ground.phase }, { on := 11, ground := Go.Ground.phase }], guard := none }) rfl (fun K2 hK => ?_) AllReadyH.nil
        have f0 : V1.cell? ⟨D9, 0, none⟩ = some (.int .i64 0) := by rw [cell_row h9]; rfl
        have f1 : V1.cell? ⟨D9, 1, none⟩ = some (.int .i64 0) := by rw [cell_row h9]; rfl
        have fz : ∀ i, V1.frozen? ⟨D9, i, none⟩ = false := fun i => frozen_row h9
        have hkk := (keeps_setCell V1 D9 0 (.int .i64 (ga : Int))).trans (keeps_setCell _ D9 1 (.int .i64 (gb : Int)))
        have hss := set_same 1 (.int .i64 (gb : Int)) (set_same 0 (.int .i64 (ga : Int)) h9)
        have hV2 : Below w3.heap.size w3 ((V1.setCell ⟨D9, 0, none⟩ (.int .i64 (ga : Int))).setCell ⟨D9, 1, none⟩ (.int .i64 (gb : Int))) := hV1.trans (hkk.below hV1.size (fun j hj e => by omega))
        go_simp
        refine hK.out _ _ hV2 (fun _ => ?_)
        clear hK K2 f0 f1 fz h9 hV1 hkk
        generalize (V1.setCell ⟨D9, 0, none⟩ (.int .i64 (ga : Int))).setCell ⟨D9, 1, none⟩ (.int .i64 (gb : Int)) = w4 at *
        try simp only [Act.put, List.setIfInBounds_toArray, List.set_cons_zero, List.set_cons_succ]
        refine wpAnyH_done (by kernel_rfl) ?_ _
        have HQ := Lib.hid hss
        have HB4 := Lib.hid hV2
        have hb := hV2
        clear hss hV2
        replace X := Lib.hid (X.out.below hb (Nat.le_refl _))
        replace XI := Lib.hid (XI.out.below hb (Nat.le_refl _))
        replace HS := Lib.hid ((hb.block _ (lt_of_block HS.out)).trans HS.out)
        replace HT := Lib.hid ((hb.block _ (lt_of_block HT.out)).trans HT.out)
        replace B := Lib.hid (B.out.trans (hb.mono B.out.size))
        clear hb
        have Hz2 := Hz12.out
        obtain ⟨vL, vK, hX0, hnext⟩ := HV.out.x (by rw [rtZ_len]; omega) (xa : Int) (xb : Int)
        rw [rtZ_len] at hnext
        have hX0 := (HB4.out.block _ (lt_of_block hX0)).trans hX0
        have HX0 := Lib.hid hX0
        have Hnext := Lib.hid hnext
        have hd6b := HV.out.ds.1
        have hd7b := HV.out.ds.2.1
        have hks := HV.out.keep.size
        have hRB := HRB.out
        clear hX0 hnext
        go_wp2_with fail
        refine Zed.region_z (z := 24) (S := fun W' => Keeps (fun j => w2.heap.size ≤ j ∧ j < w3.heap.size) w4 W') (by kernel_rfl) (Keeps.of_new (drew_b w4 1)) (fun hS0 => ?_)
        refine Zed.anyZ_take (i := 0) (oi := { dst := some 59, op := Go.Op.fieldAddr 25 (Go.Operand.tmp 6) 2, type := 0, pos := "outright.go:111", after := #[], guard := none }) (v := .pointer (some ⟨D6, 2, none⟩)) rfl (by decide) (by kernel_rfl) (by kernel_rfl) (by kernel_rfl) (by kernel_rfl) (fun _ _ _ h => h) (Or.inl ⟨by rfl, by intro w2 hSw; (try dsimp only at hSw); go_simp⟩) hS0 ?_
        try simp only [Act.put, List.setIfInBounds_toArray, List.set_cons_zero, List.set_cons_succ]
        refine Zed.anyZ_take (i := 1) (oi := { dst := some 60, op := Go.Op.load 22 (Go.Operand.tmp 59), type := 22, pos := "outright.go:111", after := #[{ on := 0, ground := Go.Ground.data }], guard := none }) (v := vL) rfl (by decide) (by kernel_rfl) (by kernel_rfl) (by kernel_rfl) (by kernel_rfl) (fun _ _ _ h => h) (Or.inl ⟨by rfl, by intro w2 hSw; (try dsimp only at hSw); have y0 := (hSw.block _ (lt_of_block HX0.out) (by omega)).trans HX0.out; have y1 : w2.cell? ⟨D6, 2, none⟩ = some (vL) := by {rw [cell_row y0]; rfl}; go_simp⟩) hS0 ?_
        try simp only [Act.put, List.setIfInBounds_toArray, List.set_cons_zero, List.set_cons_succ]
        refine Zed.anyZ_take (i := 2) (oi := { dst := some 61, op := Go.Op.fieldAddr 55 (Go.Operand.tmp 9) 0, type := 0, pos := "outright.go:111", after := #[], guard := none }) (v := .pointer (some ⟨D9, 0, none⟩)) rfl (by decide) (by kernel_rfl) (by kernel_rfl) (by kernel_rfl) (by kernel_rfl) (fun _ _ _ h => h) (Or.inl ⟨by rfl, by intro w2 hSw; (try dsimp only at hSw); go_simp⟩) hS0 ?_
        try simp only [Act.put, List.setIfInBounds_toArray, List.set_cons_zero, List.set_cons_succ]
        refine Zed.anyZ_take (i := 3) (oi := { dst := some 62, op := Go.Op.load 3 (Go.Operand.tmp 61), type := 3, pos := "outright.go:111", after := #[{ on := 2, ground := Go.Ground.data }], guard := none }) (v := .int .i64 (ga : Int)) rfl (by decide) (by kernel_rfl) (by kernel_rfl) (by kernel_rfl) (by kernel_rfl) (fun _ _ _ h => h) (Or.inl ⟨by rfl, by intro w2 hSw; (try dsimp only at hSw); have y0 := (hSw.block _ (lt_of_block HQ.out) (by omega)).trans HQ.out; have y1 : w2.cell? ⟨D9, 0, none⟩ = some (.int .i64 (ga : Int)) := by {rw [cell_row y0]; rfl}; go_simp⟩) hS0 ?_
        try simp only [Act.put, List.setIfInBounds_toArray, List.set_cons_zero, List.set_cons_succ]
        refine Zed.anyZ_take (i := 4) (oi := { dst := some 63, op := Go.Op.indexAddr 53 (Go.Operand.tmp 3) (Go.Operand.const (Go.Value.int Go.IntKind.i64 1)), type := 0, pos := "outright.go:111", after := #[], guard := none }) (v := .pointer (some ⟨R + 1, 1, none⟩)) rfl (by decide) (by kernel_rfl) (by kernel_rfl) (by kernel_rfl) (by kernel_rfl) (fun _ _ _ h => h) (Or.inl ⟨by rfl, by intro w2 hSw; (try dsimp only at hSw); go_simp⟩) hS0 ?_
        try simp only [Act.put, List.setIfInBounds_toArray, List.set_cons_zero, List.set_cons_succ]
        refine Zed.anyZ_take (i := 5) (oi := { dst := some 64, op := Go.Op.load 5 (Go.Operand.tmp 63), type := 5, pos := "outright.go:111", after := #[{ on := 4, ground := Go.Ground.data }], guard := none }) (v := .int .u8 (t : Int)) rfl (by decide) (by kernel_rfl) (by kernel_rfl) (by kernel_rfl) (by kernel_rfl) (fun _ _ _ h => h) (Or.inl ⟨by rfl, by intro w2 hSw; (try dsimp only at hSw); have y0 := (hSw.block _ (lt_of_block HT.out) (by omega)).trans HT.out; have y1 : w2.cell? ⟨R + 1, 1, none⟩ = some (.int .u8 (t : Int)) := by {rw [cell_row y0]; rfl}; go_simp⟩) hS0 ?_
        try simp only [Act.put, List.setIfInBounds_toArray, List.set_cons_zero, List.set_cons_succ]
        refine Zed.anyZ_take (i := 6) (oi := { dst := some 65, op := Go.Op.convert 5 3 (Go.Operand.tmp 64), type := 3, pos := "outright.go:111", after := #[{ on := 5, ground := Go.Ground.data }], guard := none }) (v := .int .i64 (t : Int)) rfl (by decide) (by kernel_rfl) (by kernel_rfl) (by kernel_rfl) (by kernel_rfl) (fun _ _ _ h => h) (Or.inl ⟨by rfl, by intro w2 hSw; (try dsimp only at hSw); go_simp; exact IntWalk.i64_in _ (by omega)⟩) hS0 ?_
        try simp only [Act.put, List.setIfInBounds_toArray, List.set_cons_zero, List.set_cons_succ]
        refine Zed.anyZ_take (i := 7) (oi := { dst := some 66, op := Go.Op.binOp Go.BinOp.add 3 (Go.Operand.tmp 62) (Go.Operand.tmp 65) 3, type := 3, pos := "outright.go:111", after := #[{ on := 3, ground := Go.Ground.data }, { on := 6, ground := Go.Ground.data }], guard := none }) (v := .int .i64 ((ga : Int) + (t : Int))) rfl (by decide) (by kernel_rfl) (by kernel_rfl) (by kernel_rfl) (by kernel_rfl) (fun _ _ _ h => h) (Or.inl ⟨by rfl, by intro w2 hSw; (try dsimp only at hSw); go_simp; exact IntWalk.i64_in _ (by omega)⟩) hS0 ?_
        try simp only [Act.put, List.setIfInBounds_toArray, List.set_cons_zero, List.set_cons_succ]
        refine Zed.anyZ_take (i := 8) (oi := { dst := some 67, op := Go.Op.fieldAddr 25 (Go.Operand.tmp 2) 0, type := 0, pos := "outright.go:111", after := #[], guard := none }) (v := .pointer (some ⟨R, 0, none⟩)) rfl (by decide) (by kernel_rfl) (by kernel_rfl) (by kernel_rfl) (by kernel_rfl) (fun _ _ _ h => h) (Or.inl ⟨by rfl, by intro w2 hSw; (try dsimp only at hSw); go_simp⟩) hS0 ?_
        try simp only [Act.put, List.setIfInBounds_toArray, List.set_cons_zero, List.set_cons_succ]
        refine Zed.anyZ_take (i := 9) (oi := { dst := some 68, op := Go.Op.load 3 (Go.Operand.tmp 67), type := 3, pos := "outright.go:111", after := #[{ on := 8, ground := Go.Ground.data }], guard := none }) (v := .int .i64 (c : Int)) rfl (by decide) (by kernel_rfl) (by kernel_rfl) (by kernel_rfl) (by kernel_rfl) (fun _ _ _ h => h) (Or.inl ⟨by rfl, by intro w2 hSw; (try dsimp only at hSw); have y0 := (hSw.block _ (lt_of_block HS.out) (by omega)).trans HS.out; have y1 : w2.cell? ⟨R, 0, none⟩ = some (.int .i64 (c : Int)) := by {rw [cell_row y0]; rfl}; go_simp⟩) hS0 ?_
        try simp only [Act.put, List.setIfInBounds_toArray, List.set_cons_zero, List.set_cons_succ]
        refine Zed.anyZ_take (i := 10) (oi := { dst := some 69, op := Go.Op.binOp Go.BinOp.rem 3 (Go.Operand.tmp 66) (Go.Operand.tmp 68) 3, type := 3, pos := "outright.go:111", after := #[{ on := 7, ground := Go.Ground.data }, { on := 9, ground := Go.Ground.data }], guard := none }) (v := .int .i64 (xa : Int)) rfl (by decide) (by kernel_rfl) (by kernel_rfl) (by kernel_rfl) (by kernel_rfl) (fun _ _ _ h => h) (Or.inl ⟨by rfl, by intro w2 hSw; (try dsimp only at hSw); go_simp; omega⟩) hS0 ?_
        try simp only [Act.put, List.setIfInBounds_toArray, List.set_cons_zero, List.set_cons_succ]
        refine Zed.anyZ_take (i := 11) (oi := { dst := some 70, op := Go.Op.fieldAddr 55 (Go.Operand.tmp 9) 1, type := 0, pos := "outright.go:111", after := #[], guard := none }) (v := .pointer (some ⟨D9, 1, none⟩)) rfl (by decide) (by kernel_rfl) (by kernel_rfl) (by kernel_rfl) (by kernel_rfl) (fun _ _ _ h => h) (Or.inl ⟨by rfl, by intro w2 hSw; (try dsimp only at hSw); go_simp⟩) hS0 ?_
        try simp only [Act.put, List.setIfInBounds_toArray, List.set_cons_zero, List.set_cons_succ]
        refine Zed.anyZ_take (i := 12) (oi := { dst := some 71, op := Go.Op.load 3 (Go.Operand.tmp 70), type := 3, pos := "outright.go:111", after := #[{ on := 11, ground := Go.Ground.data }], guard := none }) (v := .int .i64 (gb : Int)) rfl (by decide) (by kernel_rfl) (by kernel_rfl) (by kernel_rfl) (by kernel_rfl) (fun _ _ _ h => h) (Or.inl ⟨by rfl, by intro w2 hSw; (try dsimp only at hSw); have y0 := (hSw.block _ (lt_of_block HQ.out) (by omega)).trans HQ.out; have y1 : w2.cell? ⟨D9, 1, none⟩ = some (.int .i64 (gb : Int)) := by {rw [cell_row y0]; rfl}; go_simp⟩) hS0 ?_
        try simp only [Act.put, List.setIfInBounds_toArray, List.set_cons_zero, List.set_cons_succ]
        refine Zed.anyZ_take (i := 13) (oi := { dst := some 72, op := Go.Op.indexAddr 53 (Go.Operand.tmp 3) (Go.Operand.const (Go.Value.int Go.IntKind.i64 2)), type := 0, pos := "outright.go:111", after := #[], guard := none }) (v := .pointer (some ⟨R + 1, 2, none⟩)) rfl (by decide) (by kernel_rfl) (by kernel_rfl) (by kernel_rfl) (by kernel_rfl) (fun _ _ _ h => h) (Or.inl ⟨by rfl, by intro w2 hSw; (try dsimp only at hSw); go_simp⟩) hS0 ?_
        try simp only [Act.put, List.setIfInBounds_toArray, List.set_cons_zero, List.set_cons_succ]
        refine Zed.anyZ_take (i := 14) (oi := { dst := some 73, op := Go.Op.load 5 (Go.Operand.tmp 72), type := 5, pos := "outright.go:111", after := #[{ on := 13, ground := Go.Ground.data }], guard := none }) (v := .int .u8 (u : Int)) rfl (by decide) (by kernel_rfl) (by kernel_rfl) (by kernel_rfl) (by kernel_rfl) (fun _ _ _ h => h) (Or.inl ⟨by rfl, by intro w2 hSw; (try dsimp only at hSw); have y0 := (hSw.block _ (lt_of_block HT.out) (by omega)).trans HT.out; have y1 : w2.cell? ⟨R + 1, 2, none⟩ = some (.int .u8 (u : Int)) := by {rw [cell_row y0]; rfl}; go_simp⟩) hS0 ?_
        try simp only [Act.put, List.setIfInBounds_toArray, List.set_cons_zero, List.set_cons_succ]
        refine Zed.anyZ_take (i := 15) (oi := { dst := some 74, op := Go.Op.convert 5 3 (Go.Operand.tmp 73), type := 3, pos := "outright.go:111", after := #[{ on := 14, ground := Go.Ground.data }], guard := none }) (v := .int .i64 (u : Int)) rfl (by decide) (by kernel_rfl) (by kernel_rfl) (by kernel_rfl) (by kernel_rfl) (fun _ _ _ h => h) (Or.inl ⟨by rfl, by intro w2 hSw; (try dsimp only at hSw); go_simp; exact IntWalk.i64_in _ (by omega)⟩) hS0 ?_
        try simp only [Act.put, List.setIfInBounds_toArray, List.set_cons_zero, List.set_cons_succ]
        refine Zed.anyZ_take (i := 16) (oi := { dst := some 75, op := Go.Op.binOp Go.BinOp.add 3 (Go.Operand.tmp 71) (Go.Operand.tmp 74) 3, type := 3, pos := "outright.go:111", after := #[{ on := 12, ground := Go.Ground.data }, { on := 15, ground := Go.Ground.data }], guard := none }) (v := .int .i64 ((gb : Int) + (u : Int))) rfl (by decide) (by kernel_rfl) (by kernel_rfl) (by kernel_rfl) (by kernel_rfl) (fun _ _ _ h => h) (Or.inl ⟨by rfl, by intro w2 hSw; (try dsimp only at hSw); go_simp; exact IntWalk.i64_in _ (by omega)⟩) hS0 ?_
        try simp only [Act.put, List.setIfInBounds_toArray, List.set_cons_zero, List.set_cons_succ]
        refine Zed.anyZ_take (i := 17) (oi := { dst := some 76, op := Go.Op.fieldAddr 25 (Go.Operand.tmp 2) 1, type := 0, pos := "outright.go:111", after := #[], guard := none }) (v := .pointer (some ⟨R, 1, none⟩)) rfl (by decide) (by kernel_rfl) (by kernel_rfl) (by kernel_rfl) (by kernel_rfl) (fun _ _ _ h => h) (Or.inl ⟨by rfl, by intro w2 hSw; (try dsimp only at hSw); go_simp⟩) hS0 ?_
        try simp only [Act.put, List.setIfInBounds_toArray, List.set_cons_zero, List.set_cons_succ]
        refine Zed.anyZ_take (i := 18) (oi := { dst := some 77, op := Go.Op.load 3 (Go.Operand.tmp 76), type := 3, pos := "outright.go:111", after := #[{ on := 17, ground := Go.Ground.data }], guard := none }) (v := .int .i64 (d : Int)) rfl (by decide) (by kernel_rfl) (by kernel_rfl) (by kernel_rfl) (by kernel_rfl) (fun _ _ _ h => h) (Or.inl ⟨by rfl, by intro w2 hSw; (try dsimp only at hSw); have y0 := (hSw.block _ (lt_of_block HS.out) (by omega)).trans HS.out; have y1 : w2.cell? ⟨R, 1, none⟩ = some (.int .i64 (d : Int)) := by {rw [cell_row y0]; rfl}; go_simp⟩) hS0 ?_
        try simp only [Act.put, List.setIfInBounds_toArray, List.set_cons_zero, List.set_cons_succ]
        refine Zed.anyZ_take (i := 19) (oi := { dst := some 78, op := Go.Op.binOp Go.BinOp.rem 3 (Go.Operand.tmp 75) (Go.Operand.tmp 77) 3, type := 3, pos := "outright.go:111", after := #[{ on := 16, ground := Go.Ground.data }, { on := 18, ground := Go.Ground.data }], guard := none }) (v := .int .i64 (xb : Int)) rfl (by decide) (by kernel_rfl) (by kernel_rfl) (by kernel_rfl) (by kernel_rfl) (fun _ _ _ h => h) (Or.inl ⟨by rfl, by intro w2 hSw; (try dsimp only at hSw); go_simp; omega⟩) hS0 ?_
        try simp only [Act.put, List.setIfInBounds_toArray, List.set_cons_zero, List.set_cons_succ]
        obtain ⟨X2, hX2⟩ : ∃ v, w4.drew = v := ⟨_, rfl⟩
        have hbX : Below w4.heap.size w4 X2 := by rw [← hX2]; exact drew_b w4 1
        rw [hX2] at hS0 ⊢
        clear hX2
        refine Zed.anyZ_ready (rs := [20]) (by kernel_rfl) (by simp) ?_
        refine Zed.AllZ.cons (o := { dst := some 79, op := Go.Op.call { callee := Go.Callee.value (Go.Operand.func 37), args := #[Go.Operand.tmp 69, Go.Operand.tmp 78], argTypes := #[3, 3] }, type := 55, pos := "outright.go:111", after := #[{ on := 10, ground := Go.Ground.data }, { on := 19, ground := Go.Ground.data }], guard := none }) rfl (fun K hK => ?_) Zed.AllZ.nil
        go_simp
        refine (link37 (xa : Int) (xb : Int) X2).mono ?_
        rintro e9 X3 ⟨rfl, hb9⟩
        try go_simp
        refine hK.out _ _ (fun _ => (hS0.trans (Keeps.of_new hb9))) (fun hS10 => ?_)
        have hS1 := hS10 (by decide)
        clear hK K hS10
        try simp only [Act.put, List.setIfInBounds_toArray, List.set_cons_zero, List.set_cons_succ]
        refine Zed.anyZ_ready (rs := [21]) (by kernel_rfl) (by simp) ?_
        refine Zed.AllZ.cons (o := { dst := some 80, op := Go.Op.buildSlice 22 1 #[(0, Go.Operand.tmp 79)], type := 22, pos := "outright.go:111", after := #[{ on := 20, ground := Go.Ground.data }], guard := none }) rfl (fun K hK => ?_) Zed.AllZ.nil
        go_simp
        have hrE := heap_alloc_new_ X3 (.cells #[.int .i64 (xa : Int), .int .i64 (xb : Int)] 55)
        have hbE := below_alloc_ X3 (.cells #[.int .i64 (xa : Int), .int .i64 (xb : Int)] 55)
        obtain ⟨V, hV⟩ : ∃ V, X3.alloc (.cells #[.int .i64 (xa : Int), .int .i64 (xb : Int)] 55) = V := ⟨_, rfl⟩
        obtain ⟨P, hP⟩ : ∃ P, X3.heap.size = P := ⟨_, rfl⟩
        rw [hV] at hrE hbE ⊢
        rw [hP] at hrE ⊢
        clear hV hP
        refine hK.out _ _ (fun _ => (hS1.trans (Keeps.of_new hbE))) (fun hS20 => ?_)
        have hS2 := hS20 (by decide)
        clear hK K hS20
        try simp only [Act.put, List.setIfInBounds_toArray, List.set_cons_zero, List.set_cons_succ]
        have hbV := hbX.trans ((hb9.trans (hbE.mono hb9.size)).mono hbX.size)
        have hbW := HB4.out.trans (hbV.mono HB4.out.size)
        obtain ⟨C9, c9, W1, hrun, hW1, hkW1, hkV1, hNX⟩ := Hnext.out V P hbW hrE
        refine Zed.anyZ_ready (rs := [22]) (by kernel_rfl) (by simp) ?_
        refine Zed.AllZ.cons (o := { dst := some 81, op := Go.Op.call { callee := Go.Callee.builtin Go.Builtin.append, args := #[Go.Operand.tmp 60, Go.Operand.tmp 80], argTypes := #[22, 22] }, type := 22, pos := "outright.go:111", after := #[{ on := 1, ground := Go.Ground.data }, { on := 21, ground := Go.Ground.data }, { on := 20, ground := Go.Ground.chain }], guard := none }) rfl (fun K hK => ?_) Zed.AllZ.nil
        go_simp
        try rw [hrun]
        try go_simp
        refine hK.out _ _ (fun _ => (hS2.trans hkV1)) (fun hS30 => ?_)
        have hS3 := hS30 (by decide)
        clear hK K hS30
        try simp only [Act.put, List.setIfInBounds_toArray, List.set_cons_zero, List.set_cons_succ]
        refine Zed.anyZ_take (i := 23) (oi := { dst := some 82, op := Go.Op.fieldAddr 25 (Go.Operand.tmp 6) 2, type := 0, pos := "outright.go:111", after := #[{ on := 0, ground := Go.Ground.phase }, { on := 1, ground := Go.Ground.phase }, { on := 2, ground := Go.Ground.phase }, { on := 3, ground := Go.Ground.phase }, { on := 4, ground := Go.Ground.phase }, { on := 5, ground := Go.Ground.phase }, { on := 6, ground := Go.Ground.phase }, { on := 7, ground := Go.Ground.phase }, { on := 8, ground := Go.Ground.phase }, { on := 9, ground := Go.Ground.phase }, { on := 10, ground := Go.Ground.phase }, { on := 11, ground := Go.Ground.phase }, { on := 12, ground := Go.Ground.phase }, { on := 13, ground := Go.Ground.phase }, { on := 14, ground := Go.Ground.phase }, { on := 15, ground := Go.Ground.phase }, { on := 16, ground := Go.Ground.phase }, { on := 17, ground := Go.Ground.phase }, { on := 18, ground := Go.Ground.phase }, { on := 19, ground := Go.Ground.phase }, { on := 20, ground := Go.Ground.phase }, { on := 21, ground := Go.Ground.phase }, { on := 22, ground := Go.Ground.phase }], guard := none }) (v := .pointer (some ⟨D6, 2, none⟩)) rfl (by decide) (by kernel_rfl) (by kernel_rfl) (by kernel_rfl) (by kernel_rfl) (fun _ _ _ h => h) (Or.inl ⟨by rfl, by intro w2 hSw; (try dsimp only at hSw); go_simp⟩) hS3 ?_
        try simp only [Act.put, List.setIfInBounds_toArray, List.set_cons_zero, List.set_cons_succ]
        refine Zed.anyZ_ready (rs := [24]) (by kernel_rfl) (by simp) ?_
        refine Zed.AllZ.cons (o := { dst := none, op := Go.Op.store 22 (Go.Operand.tmp 82) (Go.Operand.tmp 81), type := 0, pos := "outright.go:111", after := #[{ on := 23, ground := Go.Ground.data }, { on := 22, ground := Go.Ground.data }, { on := 22, ground := Go.Ground.chain }, { on := 0, ground := Go.Ground.phase }, { on := 1, ground := Go.Ground.phase }, { on := 2, ground := Go.Ground.phase }, { on := 3, ground := Go.Ground.phase }, { on := 4, ground := Go.Ground.phase }, { on := 5, ground := Go.Ground.phase }, { on := 6, ground := Go.Ground.phase }, { on := 7, ground := Go.Ground.phase }, { on := 8, ground := Go.Ground.phase }, { on := 9, ground := Go.Ground.phase }, { on := 10, ground := Go.Ground.phase }, { on := 11, ground := Go.Ground.phase }, { on := 12, ground := Go.Ground.phase }, { on := 13, ground := Go.Ground.phase }, { on := 14, ground := Go.Ground.phase }, { on := 15, ground := Go.Ground.phase }, { on := 16, ground := Go.Ground.phase }, { on := 17, ground := Go.Ground.phase }, { on := 18, ground := Go.Ground.phase }, { on := 19, ground := Go.Ground.phase }, { on := 20, ground := Go.Ground.phase }, { on := 21, ground := Go.Ground.phase }, { on := 22, ground := Go.Ground.phase }], guard := none }) rfl (fun K hK => ?_) Zed.AllZ.nil
        have s1 : W1.cell? ⟨D6, 2, none⟩ = some vL := by rw [cell_row hW1]; rfl
        have fS := fun o : Nat => frozen_row (k := o) hW1
        go_simp
        refine hK.out _ _ (fun h => absurd rfl h) (fun _ => ?_)
        clear hK K
        try simp only [Act.put, List.setIfInBounds_toArray, List.set_cons_zero, List.set_cons_succ]
        refine Zed.anyZ_done (by kernel_rfl) ?_ _
        obtain ⟨w5, hw5⟩ : ∃ v, W1.setCell ⟨D6, 2, none⟩ (.slice C9 (q + 1) c9) = v := ⟨_, rfl⟩
        rw [hw5] at hNX ⊢
        rw [← Hzx.out] at hNX
        have HN := Lib.hid hNX
        clear hw5 hNX hW1 hkW1 hkV1 hrun hbV hbW hrE hbE hb9 hbX hS0 hS1 hS2 hS3 HX0 Hnext HQ HB4 HV X XI HS HT B hd6b hd7b hks hD9
        have hb : Below Y w1 w5 := HbA.out.trans (HN.out.keep.below (by have := HbA.out.size; have := HzA.out; omega) (fun j hj (e : j = D6 ∨ j = D7) => by have := HD6.out; have := HD7.out; omega))
        have X := Lib.hid (XA.out.below hb (by have := HzA.out; omega))
        have XI := Lib.hid (IA.out.below hb (by have := HzA.out; omega))
        have HS := Lib.hid ((hb.block _ (by have := HRY.out; omega)).trans SA.out)
        have HT := Lib.hid ((hb.block _ HRY.out).trans TA.out)
        have B := Lib.hid (BA.out.trans (hb.mono HwR.out))
        clear hb
        have zHS0 : w5.cell? ⟨R, 0, none⟩ = some (.int .i64 (c : Int)) := by rw [cell_row HS.out]; rfl
        have zHS1 : w5.cell? ⟨R, 1, none⟩ = some (.int .i64 (d : Int)) := by rw [cell_row HS.out]; rfl
        have zHS2 : w5.cell? ⟨R, 2, none⟩ = some (.slice (some ⟨bz, oz, none⟩) n cap) := by rw [cell_row HS.out]; rfl
        have zHS3 : w5.cell? ⟨R, 3, none⟩ = some (.slice A2 kn kc) := by rw [cell_row HS.out]; rfl
        have zHT0 : w5.cell? ⟨R + 1, 0, none⟩ = some (.int .u8 (s : Int)) := by rw [cell_row HT.out]; rfl
        have zHT1 : w5.cell? ⟨R + 1, 1, none⟩ = some (.int .u8 (t : Int)) := by rw [cell_row HT.out]; rfl
        have zHT2 : w5.cell? ⟨R + 1, 2, none⟩ = some (.int .u8 (u : Int)) := by rw [cell_row HT.out]; rfl
        go_wp2_with fail
        refine wp_region_held_drew (S := fun w2 => Below w5.heap.size w5 w2) (by kernel_rfl) (drew_b _ _) (fun hS0 => ?_)
        refine wpAnyH_take (i := 0) (oi := { dst := some 83, op := Go.Op.fieldAddr 25 (Go.Operand.tmp 2) 3, type := 0, pos := "outright.go:112", after := #[], guard := none }) (v := .pointer (some ⟨R, 3, none⟩)) rfl (by kernel_rfl) (by kernel_rfl) (by kernel_rfl) (fun _ _ _ h => h) (Or.inl ⟨by rfl, by intro w2 hSw; (try dsimp only at hSw); have yHS3 := (hSw.cell (lt_of_cell zHS3)).trans zHS3; have yHT0 := (hSw.cell (lt_of_cell zHT0)).trans zHT0;  go_simp⟩) hS0 ?_
        try simp only [Act.put, List.setIfInBounds_toArray, List.set_cons_zero, List.set_cons_succ]
        refine wpAnyH_take (i := 1) (oi := { dst := some 84, op := Go.Op.load 23 (Go.Operand.tmp 83), type := 23, pos := "outright.go:112", after := #[{ on := 0, ground := Go.Ground.data }], guard := none }) (v := .slice A2 kn kc) rfl (by kernel_rfl) (by kernel_rfl) (by kernel_rfl) (fun _ _ _ h => h) (Or.inl ⟨by rfl, by intro w2 hSw; (try dsimp only at hSw); have yHS3 := (hSw.cell (lt_of_cell zHS3)).trans zHS3; have yHT0 := (hSw.cell (lt_of_cell zHT0)).trans zHT0;  go_simp⟩) hS0 ?_
        try simp only [Act.put, List.setIfInBounds_toArray, List.set_cons_zero, List.set_cons_succ]
        refine wpAnyH_take (i := 2) (oi := { dst := some 85, op := Go.Op.move (Go.Operand.tmp 8), type := 3, pos := "outright.go:112", after := #[], guard := none }) (v := .int .i64 (q : Int)) rfl (by kernel_rfl) (by kernel_rfl) (by kernel_rfl) (fun _ _ _ h => h) (Or.inl ⟨by rfl, by intro w2 hSw; (try dsimp only at hSw); have yHS3 := (hSw.cell (lt_of_cell zHS3)).trans zHS3; have yHT0 := (hSw.cell (lt_of_cell zHT0)).trans zHT0;  go_simp⟩) hS0 ?_
        try simp only [Act.put, List.setIfInBounds_toArray, List.set_cons_zero, List.set_cons_succ]
        refine wpAnyH_take (i := 3) (oi := { dst := some 86, op := Go.Op.indexAddr 53 (Go.Operand.tmp 3) (Go.Operand.const (Go.Value.int Go.IntKind.i64 0)), type := 0, pos := "outright.go:112", after := #[], guard := none }) (v := .pointer (some ⟨R + 1, 0, none⟩)) rfl (by kernel_rfl) (by kernel_rfl) (by kernel_rfl) (fun _ _ _ h => h) (Or.inl ⟨by rfl, by intro w2 hSw; (try dsimp only at hSw); have yHS3 := (hSw.cell (lt_of_cell zHS3)).trans zHS3; have yHT0 := (hSw.cell (lt_of_cell zHT0)).trans zHT0;  go_simp⟩) hS0 ?_
        try simp only [Act.put, List.setIfInBounds_toArray, List.set_cons_zero, List.set_cons_succ]
        refine wpAnyH_take (i := 4) (oi := { dst := some 87, op := Go.Op.load 5 (Go.Operand.tmp 86), type := 5, pos := "outright.go:112", after := #[{ on := 3, ground := Go.Ground.data }], guard := none }) (v := .int .u8 (s : Int)) rfl (by kernel_rfl) (by kernel_rfl) (by kernel_rfl) (fun _ _ _ h => h) (Or.inl ⟨by rfl, by intro w2 hSw; (try dsimp only at hSw); have yHS3 := (hSw.cell (lt_of_cell zHS3)).trans zHS3; have yHT0 := (hSw.cell (lt_of_cell zHT0)).trans zHT0;  go_simp⟩) hS0 ?_
        try simp only [Act.put, List.setIfInBounds_toArray, List.set_cons_zero, List.set_cons_succ]
        refine wpAnyH_take (i := 5) (oi := { dst := some 88, op := Go.Op.convert 5 3 (Go.Operand.tmp 87), type := 3, pos := "outright.go:112", after := #[{ on := 4, ground := Go.Ground.data }], guard := none }) (v := .int .i64 (s : Int)) rfl (by kernel_rfl) (by kernel_rfl) (by kernel_rfl) (fun _ _ _ h => h) (Or.inl ⟨by rfl, by intro w2 hSw; (try dsimp only at hSw); have yHS3 := (hSw.cell (lt_of_cell zHS3)).trans zHS3; have yHT0 := (hSw.cell (lt_of_cell zHT0)).trans zHT0;  go_simp; exact IntWalk.i64_in _ (by omega)⟩) hS0 ?_
        try simp only [Act.put, List.setIfInBounds_toArray, List.set_cons_zero, List.set_cons_succ]
        refine wpAnyH_take (i := 6) (oi := { dst := some 89, op := Go.Op.binOp Go.BinOp.add 3 (Go.Operand.tmp 85) (Go.Operand.tmp 88) 3, type := 3, pos := "outright.go:112", after := #[{ on := 2, ground := Go.Ground.data }, { on := 5, ground := Go.Ground.data }], guard := none }) (v := .int .i64 ((q : Int) + (s : Int))) rfl (by kernel_rfl) (by kernel_rfl) (by kernel_rfl) (fun _ _ _ h => h) (Or.inl ⟨by rfl, by intro w2 hSw; (try dsimp only at hSw); have yHS3 := (hSw.cell (lt_of_cell zHS3)).trans zHS3; have yHT0 := (hSw.cell (lt_of_cell zHT0)).trans zHT0;  go_simp; exact IntWalk.i64_in _ (by omega)⟩) hS0 ?_
        try simp only [Act.put, List.setIfInBounds_toArray, List.set_cons_zero, List.set_cons_succ]
        refine wpAnyH_take (i := 7) (oi := { dst := some 90, op := Go.Op.move (Go.Operand.tmp 5), type := 3, pos := "outright.go:112", after := #[], guard := none }) (v := .int .i64 (n : Int)) rfl (by kernel_rfl) (by kernel_rfl) (by kernel_rfl) (fun _ _ _ h => h) (Or.inl ⟨by rfl, by intro w2 hSw; (try dsimp only at hSw); have yHS3 := (hSw.cell (lt_of_cell zHS3)).trans zHS3; have yHT0 := (hSw.cell (lt_of_cell zHT0)).trans zHT0;  go_simp⟩) hS0 ?_
        try simp only [Act.put, List.setIfInBounds_toArray, List.set_cons_zero, List.set_cons_succ]
        refine wpAnyH_take (i := 8) (oi := { dst := some 91, op := Go.Op.binOp Go.BinOp.rem 3 (Go.Operand.tmp 89) (Go.Operand.tmp 90) 3, type := 3, pos := "outright.go:112", after := #[{ on := 6, ground := Go.Ground.data }, { on := 7, ground := Go.Ground.data }], guard := none }) (v := .int .i64 (j : Int)) rfl (by kernel_rfl) (by kernel_rfl) (by kernel_rfl) (fun _ _ _ h => h) (Or.inl ⟨by rfl, by intro w2 hSw; (try dsimp only at hSw); have yHS3 := (hSw.cell (lt_of_cell zHS3)).trans zHS3; have yHT0 := (hSw.cell (lt_of_cell zHT0)).trans zHT0;  go_simp; omega⟩) hS0 ?_
        try simp only [Act.put, List.setIfInBounds_toArray, List.set_cons_zero, List.set_cons_succ]
        refine wpAnyH_ready (rs := [9]) (by kernel_rfl) (by simp) ?_
        refine AllReadyH.cons (o := { dst := some 92, op := Go.Op.call { callee := Go.Callee.value (Go.Operand.func 34), args := #[Go.Operand.tmp 84, Go.Operand.tmp 91], argTypes := #[23, 3] }, type := 4, pos := "outright.go:112", after := #[{ on := 1, ground := Go.Ground.data }, { on := 8, ground := Go.Ground.data }], guard := none }) rfl (fun K2 hK => ?_) AllReadyH.nil
        go_simp
        refine (in34 A2 kn kc ks (j : Int) w5.drew (XI.out.below hS0 (Nat.le_refl _)) (by have := Hk.out; omega)).mono ?_
        rintro e9 V1 ⟨rfl, rfl⟩
        obtain ⟨bl, hbl⟩ : ∃ b, decide ((j : Int) ∈ ks) = b := ⟨_, rfl⟩
        rw [hbl]
        (try go_simp)
        refine hK.out _ _ hS0 (fun hS1 => ?_)
        clear hK K2
        try simp only [Act.put, List.setIfInBounds_toArray, List.set_cons_zero, List.set_cons_succ]
        refine wpAnyH_done (by kernel_rfl) ?_ _
        clear zHS0 zHS1 zHS2 zHS3 zHT0 zHT1 zHT2
        have hb := hS1
        obtain ⟨w6, hw6⟩ : ∃ v, w5.drew = v := ⟨_, rfl⟩
        rw [hw6] at hb ⊢
        replace HN := Lib.hid (HN.out.new hb)
        have Hbl := Lib.hid hbl
        clear hS0 hS1 hw6 hbl hb X XI HS HT B
        go_upto_if 92 with fail
        go_cut [] from 43 to 116 (fun wx => Hid (OrI D6 D7 w2.heap.size (c : Int) (d : Int) (.slice A2 kn kc) w2 (rtZ s t u c d n zs (q + 1)) (fI (rtP s n ks) (q + 1)) (swZ zs q) wx))
        case first =>
          cases bl
          · have hpq : ¬ rtP s n ks q = true := by unfold rtP; rw [Hj.out, Hbl.out]; exact Bool.false_ne_true
            have HN2 := Lib.hid (show OrI D6 D7 w2.heap.size (c : Int) (d : Int) (.slice A2 kn kc) w2 (rtZ s t u c d n zs (q + 1)) (fI (rtP s n ks) (q + 1)) (swZ zs q) w6 by rw [fI_snoc, if_neg hpq]; exact HN.out)
            clear hpq
            go_wp2_with fail
            go_meet
            case rel => exact HN2
          · have hpq : rtP s n ks q = true := by unfold rtP; rw [Hj.out]; exact Hbl.out
            obtain ⟨vL, vK, C, c9, W1, hX0, hrun, hX1, hN⟩ := HN.out.k (by unfold fI; rw [List.length_map]; have := List.length_filter_le (rtP s n ks) (List.range q); rw [List.length_range] at this; omega) (q : Int)
            rw [show fI (rtP s n ks) q ++ [(q : Int)] = fI (rtP s n ks) (q + 1) by rw [fI_snoc, if_pos hpq]] at hN
            obtain ⟨fl, hfl⟩ : ∃ v, (fI (rtP s n ks) q).length = v := ⟨_, rfl⟩
            rw [hfl] at hrun hN
            have s0 : w6.cell? ⟨D6, 3, none⟩ = some vK := by rw [cell_row hX0]; rfl
            have s1 : W1.cell? ⟨D6, 3, none⟩ = some vK := by rw [cell_row hX1]; rfl
            have fS := fun o : Nat => frozen_row (k := o) hX1
            have HN2 := Lib.hid hN
            clear hN hX0 hX1 hfl hpq
            go_wp2_with fail
            try (rw [hrun]; go_wp2_with fail)
            go_meet
            case rel => exact HN2
        case rest =>
          clear HN Hbl
          have HN := hcut
          obtain ⟨w7, rfl⟩ : ∃ v, v = wc := ⟨_, rfl⟩
          clear hcut
          have hb : Below Y w1 w7 := HbA.out.trans (HN.out.keep.below (by have := HbA.out.size; have := HzA.out; omega) (fun j hj (e : j = D6 ∨ j = D7) => by have := HD6.out; have := HD7.out; omega))
          have X := Lib.hid (XA.out.below hb (by have := HzA.out; omega))
          have XI := Lib.hid (IA.out.below hb (by have := HzA.out; omega))
          have HS := Lib.hid ((hb.block _ (by have := HRY.out; omega)).trans SA.out)
          have HT := Lib.hid ((hb.block _ HRY.out).trans TA.out)
          have B := Lib.hid (BA.out.trans (hb.mono HwR.out))
          clear hb
          obtain ⟨vM, hX0, hnext⟩ := HN.out.y (by rw [swZ_len]; omega) (gd : Int) (gc : Int)
          rw [swZ_len] at hnext
          have HX0 := Lib.hid hX0
          have Hnext := Lib.hid hnext
          have hd6b := HN.out.ds.1
          have hd7b := HN.out.ds.2.1
          have hks := HN.out.keep.size
          have hRB := HRB.out
          have hzb : bz < w2.heap.size := by have := Hbz.out; have := HbA.out.size; have := HzA.out; omega
          clear hX0 hnext
          obtain ⟨b8, o8, e8, hcz⟩ := X.out.2 (by omega)
          cases e8
          have cC := (hcz q hlt).1
          have cD := (hcz q hlt).2
          have hzaq := (HSh.out.z.at hlt).1
          rw [hzaq] at cC cD
          simp only at cC cD
          rw [Hgc.out] at cC
          rw [Hgd.out] at cD
          clear hcz hzaq
          go_wp2_with fail
          refine Zed.region_z (z := 18) (S := fun W' => Keeps (fun j => w2.heap.size ≤ j) w7 W') (by kernel_rfl) (Keeps.of_new (drew_b w7 1)) (fun hS0 => ?_)
          refine Zed.anyZ_take (i := 0) (oi := { dst := some 99, op := Go.Op.fieldAddr 25 (Go.Operand.tmp 7) 2, type := 0, pos := "outright.go:115", after := #[], guard := none }) (v := .pointer (some ⟨D7, 2, none⟩)) rfl (by decide) (by kernel_rfl) (by kernel_rfl) (by kernel_rfl) (by kernel_rfl) (fun _ _ _ h => h) (Or.inl ⟨by rfl, by intro w2 hSw; (try dsimp only at hSw); go_simp⟩) hS0 ?_
          try simp only [Act.put, List.setIfInBounds_toArray, List.set_cons_zero, List.set_cons_succ]
          refine Zed.anyZ_take (i := 1) (oi := { dst := some 100, op := Go.Op.load 22 (Go.Operand.tmp 99), type := 22, pos := "outright.go:115", after := #[{ on := 0, ground := Go.Ground.data }], guard := none }) (v := vM) rfl (by decide) (by kernel_rfl) (by kernel_rfl) (by kernel_rfl) (by kernel_rfl) (fun _ _ _ h => h) (Or.inl ⟨by rfl, by intro w2 hSw; (try dsimp only at hSw); have y0 := (hSw.block _ (lt_of_block HX0.out) (by omega)).trans HX0.out; have y1 : w2.cell? ⟨D7, 2, none⟩ = some (vM) := by {rw [cell_row y0]; rfl}; go_simp⟩) hS0 ?_
          try simp only [Act.put, List.setIfInBounds_toArray, List.set_cons_zero, List.set_cons_succ]
          refine Zed.anyZ_take (i := 2) (oi := { dst := some 101, op := Go.Op.fieldAddr 25 (Go.Operand.tmp 2) 2, type := 0, pos := "outright.go:115", after := #[], guard := none }) (v := .pointer (some ⟨R, 2, none⟩)) rfl (by decide) (by kernel_rfl) (by kernel_rfl) (by kernel_rfl) (by kernel_rfl) (fun _ _ _ h => h) (Or.inl ⟨by rfl, by intro w2 hSw; (try dsimp only at hSw); go_simp⟩) hS0 ?_
          try simp only [Act.put, List.setIfInBounds_toArray, List.set_cons_zero, List.set_cons_succ]
          refine Zed.anyZ_take (i := 3) (oi := { dst := some 102, op := Go.Op.load 22 (Go.Operand.tmp 101), type := 22, pos := "outright.go:115", after := #[{ on := 2, ground := Go.Ground.data }], guard := none }) (v := .slice (some ⟨bz, oz, none⟩) n cap) rfl (by decide) (by kernel_rfl) (by kernel_rfl) (by kernel_rfl) (by kernel_rfl) (fun _ _ _ h => h) (Or.inl ⟨by rfl, by intro w2 hSw; (try dsimp only at hSw); have y0 := (hSw.block _ (lt_of_block HS.out) (by omega)).trans HS.out; have y1 : w2.cell? ⟨R, 2, none⟩ = some (.slice (some ⟨bz, oz, none⟩) n cap) := by {rw [cell_row y0]; rfl}; go_simp⟩) hS0 ?_
          try simp only [Act.put, List.setIfInBounds_toArray, List.set_cons_zero, List.set_cons_succ]
          refine Zed.anyZ_take (i := 4) (oi := { dst := some 103, op := Go.Op.move (Go.Operand.tmp 8), type := 3, pos := "outright.go:115", after := #[], guard := none }) (v := .int .i64 (q : Int)) rfl (by decide) (by kernel_rfl) (by kernel_rfl) (by kernel_rfl) (by kernel_rfl) (fun _ _ _ h => h) (Or.inl ⟨by rfl, by intro w2 hSw; (try dsimp only at hSw); go_simp⟩) hS0 ?_
          try simp only [Act.put, List.setIfInBounds_toArray, List.set_cons_zero, List.set_cons_succ]
          refine Zed.anyZ_take (i := 5) (oi := { dst := some 104, op := Go.Op.indexAddr 22 (Go.Operand.tmp 102) (Go.Operand.tmp 103), type := 0, pos := "outright.go:115", after := #[{ on := 3, ground := Go.Ground.data }, { on := 4, ground := Go.Ground.data }], guard := none }) (v := .pointer (some ⟨bz, oz + q * 2, none⟩)) rfl (by decide) (by kernel_rfl) (by kernel_rfl) (by kernel_rfl) (by kernel_rfl) (fun _ _ _ h => h) (Or.inl ⟨by rfl, by intro w2 hSw; (try dsimp only at hSw); go_simp⟩) hS0 ?_
          try simp only [Act.put, List.setIfInBounds_toArray, List.set_cons_zero, List.set_cons_succ]
          refine Zed.anyZ_take (i := 6) (oi := { dst := some 105, op := Go.Op.fieldAddr 55 (Go.Operand.tmp 104) 1, type := 0, pos := "outright.go:115", after := #[{ on := 5, ground := Go.Ground.data }], guard := none }) (v := .pointer (some ⟨bz, oz + q * 2 + 1, none⟩)) rfl (by decide) (by kernel_rfl) (by kernel_rfl) (by kernel_rfl) (by kernel_rfl) (fun _ _ _ h => h) (Or.inl ⟨by rfl, by intro w2 hSw; (try dsimp only at hSw); go_simp⟩) hS0 ?_
          try simp only [Act.put, List.setIfInBounds_toArray, List.set_cons_zero, List.set_cons_succ]
          refine Zed.anyZ_take (i := 7) (oi := { dst := some 106, op := Go.Op.load 3 (Go.Operand.tmp 105), type := 3, pos := "outright.go:115", after := #[{ on := 6, ground := Go.Ground.data }], guard := none }) (v := .int .i64 (gd : Int)) rfl (by decide) (by kernel_rfl) (by kernel_rfl) (by kernel_rfl) (by kernel_rfl) (fun _ _ _ h => h) (Or.inl ⟨by rfl, by intro w2 hSw; (try dsimp only at hSw); have y0 := (keep_cells hSw (lt_of_cell cC) (by omega) _).trans cC; have y1 := (keep_cells hSw (lt_of_cell cD) (by omega) _).trans cD; go_simp⟩) hS0 ?_
          try simp only [Act.put, List.setIfInBounds_toArray, List.set_cons_zero, List.set_cons_succ]
          refine Zed.anyZ_take (i := 8) (oi := { dst := some 107, op := Go.Op.fieldAddr 25 (Go.Operand.tmp 2) 2, type := 0, pos := "outright.go:115", after := #[], guard := none }) (v := .pointer (some ⟨R, 2, none⟩)) rfl (by decide) (by kernel_rfl) (by kernel_rfl) (by kernel_rfl) (by kernel_rfl) (fun _ _ _ h => h) (Or.inl ⟨by rfl, by intro w2 hSw; (try dsimp only at hSw); go_simp⟩) hS0 ?_
          try simp only [Act.put, List.setIfInBounds_toArray, List.set_cons_zero, List.set_cons_succ]
          refine Zed.anyZ_take (i := 9) (oi := { dst := some 108, op := Go.Op.load 22 (Go.Operand.tmp 107), type := 22, pos := "outright.go:115", after := #[{ on := 8, ground := Go.Ground.data }], guard := none }) (v := .slice (some ⟨bz, oz, none⟩) n cap) rfl (by decide) (by kernel_rfl) (by kernel_rfl) (by kernel_rfl) (by kernel_rfl) (fun _ _ _ h => h) (Or.inl ⟨by rfl, by intro w2 hSw; (try dsimp only at hSw); have y0 := (hSw.block _ (lt_of_block HS.out) (by omega)).trans HS.out; have y1 : w2.cell? ⟨R, 2, none⟩ = some (.slice (some ⟨bz, oz, none⟩) n cap) := by {rw [cell_row y0]; rfl}; go_simp⟩) hS0 ?_
          try simp only [Act.put, List.setIfInBounds_toArray, List.set_cons_zero, List.set_cons_succ]
          refine Zed.anyZ_take (i := 10) (oi := { dst := some 109, op := Go.Op.move (Go.Operand.tmp 8), type := 3, pos := "outright.go:115", after := #[], guard := none }) (v := .int .i64 (q : Int)) rfl (by decide) (by kernel_rfl) (by kernel_rfl) (by kernel_rfl) (by kernel_rfl) (fun _ _ _ h => h) (Or.inl ⟨by rfl, by intro w2 hSw; (try dsimp only at hSw); go_simp⟩) hS0 ?_
          try simp only [Act.put, List.setIfInBounds_toArray, List.set_cons_zero, List.set_cons_succ]
          refine Zed.anyZ_take (i := 11) (oi := { dst := some 110, op := Go.Op.indexAddr 22 (Go.Operand.tmp 108) (Go.Operand.tmp 109), type := 0, pos := "outright.go:115", after := #[{ on := 9, ground := Go.Ground.data }, { on := 10, ground := Go.Ground.data }], guard := none }) (v := .pointer (some ⟨bz, oz + q * 2, none⟩)) rfl (by decide) (by kernel_rfl) (by kernel_rfl) (by kernel_rfl) (by kernel_rfl) (fun _ _ _ h => h) (Or.inl ⟨by rfl, by intro w2 hSw; (try dsimp only at hSw); go_simp⟩) hS0 ?_
          try simp only [Act.put, List.setIfInBounds_toArray, List.set_cons_zero, List.set_cons_succ]
          refine Zed.anyZ_take (i := 12) (oi := { dst := some 111, op := Go.Op.fieldAddr 55 (Go.Operand.tmp 110) 0, type := 0, pos := "outright.go:115", after := #[{ on := 11, ground := Go.Ground.data }], guard := none }) (v := .pointer (some ⟨bz, oz + q * 2, none⟩)) rfl (by decide) (by kernel_rfl) (by kernel_rfl) (by kernel_rfl) (by kernel_rfl) (fun _ _ _ h => h) (Or.inl ⟨by rfl, by intro w2 hSw; (try dsimp only at hSw); go_simp⟩) hS0 ?_
          try simp only [Act.put, List.setIfInBounds_toArray, List.set_cons_zero, List.set_cons_succ]
          refine Zed.anyZ_take (i := 13) (oi := { dst := some 112, op := Go.Op.load 3 (Go.Operand.tmp 111), type := 3, pos := "outright.go:115", after := #[{ on := 12, ground := Go.Ground.data }], guard := none }) (v := .int .i64 (gc : Int)) rfl (by decide) (by kernel_rfl) (by kernel_rfl) (by kernel_rfl) (by kernel_rfl) (fun _ _ _ h => h) (Or.inl ⟨by rfl, by intro w2 hSw; (try dsimp only at hSw); have y0 := (keep_cells hSw (lt_of_cell cC) (by omega) _).trans cC; have y1 := (keep_cells hSw (lt_of_cell cD) (by omega) _).trans cD; go_simp⟩) hS0 ?_
          try simp only [Act.put, List.setIfInBounds_toArray, List.set_cons_zero, List.set_cons_succ]
          obtain ⟨X2, hX2⟩ : ∃ v, w7.drew = v := ⟨_, rfl⟩
          have hbX : Below w7.heap.size w7 X2 := by rw [← hX2]; exact drew_b w7 1
          rw [hX2] at hS0 ⊢
          clear hX2
          refine Zed.anyZ_ready (rs := [14]) (by kernel_rfl) (by simp) ?_
          refine Zed.AllZ.cons (o := { dst := some 113, op := Go.Op.call { callee := Go.Callee.value (Go.Operand.func 37), args := #[Go.Operand.tmp 106, Go.Operand.tmp 112], argTypes := #[3, 3] }, type := 55, pos := "outright.go:115", after := #[{ on := 7, ground := Go.Ground.data }, { on := 13, ground := Go.Ground.data }], guard := none }) rfl (fun K hK => ?_) Zed.AllZ.nil
          go_simp
          refine (link37 (gd : Int) (gc : Int) X2).mono ?_
          rintro e9 X3 ⟨rfl, hb9⟩
          try go_simp
          refine hK.out _ _ (fun _ => (hS0.trans (Keeps.of_new hb9))) (fun hS10 => ?_)
          have hS1 := hS10 (by decide)
          clear hK K hS10
          try simp only [Act.put, List.setIfInBounds_toArray, List.set_cons_zero, List.set_cons_succ]
          refine Zed.anyZ_ready (rs := [15]) (by kernel_rfl) (by simp) ?_
          refine Zed.AllZ.cons (o := { dst := some 114, op := Go.Op.buildSlice 22 1 #[(0, Go.Operand.tmp 113)], type := 22, pos := "outright.go:115", after := #[{ on := 14, ground := Go.Ground.data }], guard := none }) rfl (fun K hK => ?_) Zed.AllZ.nil
          go_simp
          have hrE := heap_alloc_new_ X3 (.cells #[.int .i64 (gd : Int), .int .i64 (gc : Int)] 55)
          have hbE := below_alloc_ X3 (.cells #[.int .i64 (gd : Int), .int .i64 (gc : Int)] 55)
          obtain ⟨V, hV⟩ : ∃ V, X3.alloc (.cells #[.int .i64 (gd : Int), .int .i64 (gc : Int)] 55) = V := ⟨_, rfl⟩
          obtain ⟨P, hP⟩ : ∃ P, X3.heap.size = P := ⟨_, rfl⟩
          rw [hV] at hrE hbE ⊢
          rw [hP] at hrE ⊢
          clear hV hP
          refine hK.out _ _ (fun _ => (hS1.trans (Keeps.of_new hbE))) (fun hS20 => ?_)
          have hS2 := hS20 (by decide)
          clear hK K hS20
          try simp only [Act.put, List.setIfInBounds_toArray, List.set_cons_zero, List.set_cons_succ]
          have hbV := hbX.trans ((hb9.trans (hbE.mono hb9.size)).mono hbX.size)
          have hbW := hbV
          obtain ⟨C9, c9, W1, hrun, hW1, hkW1, hNX⟩ := Hnext.out V P hbW hrE
          refine Zed.anyZ_ready (rs := [16]) (by kernel_rfl) (by simp) ?_
          refine Zed.AllZ.cons (o := { dst := some 115, op := Go.Op.call { callee := Go.Callee.builtin Go.Builtin.append, args := #[Go.Operand.tmp 100, Go.Operand.tmp 114], argTypes := #[22, 22] }, type := 22, pos := "outright.go:115", after := #[{ on := 1, ground := Go.Ground.data }, { on := 15, ground := Go.Ground.data }, { on := 14, ground := Go.Ground.chain }], guard := none }) rfl (fun K hK => ?_) Zed.AllZ.nil
          go_simp
          try rw [hrun]
          try go_simp
          refine hK.out _ _ (fun _ => (hS2.trans hkW1)) (fun hS30 => ?_)
          have hS3 := hS30 (by decide)
          clear hK K hS30
          try simp only [Act.put, List.setIfInBounds_toArray, List.set_cons_zero, List.set_cons_succ]
          refine Zed.anyZ_take (i := 17) (oi := { dst := some 116, op := Go.Op.fieldAddr 25 (Go.Operand.tmp 7) 2, type := 0, pos := "outright.go:115", after := #[{ on := 0, ground := Go.Ground.phase }, { on := 1, ground := Go.Ground.phase }, { on := 2, ground := Go.Ground.phase }, { on := 3, ground := Go.Ground.phase }, { on := 4, ground := Go.Ground.phase }, { on := 5, ground := Go.Ground.phase }, { on := 6, ground := Go.Ground.phase }, { on := 7, ground := Go.Ground.phase }, { on := 8, ground := Go.Ground.phase }, { on := 9, ground := Go.Ground.phase }, { on := 10, ground := Go.Ground.phase }, { on := 11, ground := Go.Ground.phase }, { on := 12, ground := Go.Ground.phase }, { on := 13, ground := Go.Ground.phase }, { on := 14, ground := Go.Ground.phase }, { on := 15, ground := Go.Ground.phase }, { on := 16, ground := Go.Ground.phase }], guard := none }) (v := .pointer (some ⟨D7, 2, none⟩)) rfl (by decide) (by kernel_rfl) (by kernel_rfl) (by kernel_rfl) (by kernel_rfl) (fun _ _ _ h => h) (Or.inl ⟨by rfl, by intro w2 hSw; (try dsimp only at hSw); go_simp⟩) hS3 ?_
          try simp only [Act.put, List.setIfInBounds_toArray, List.set_cons_zero, List.set_cons_succ]
          refine Zed.anyZ_ready (rs := [18]) (by kernel_rfl) (by simp) ?_
          refine Zed.AllZ.cons (o := { dst := none, op := Go.Op.store 22 (Go.Operand.tmp 116) (Go.Operand.tmp 115), type := 0, pos := "outright.go:115", after := #[{ on := 17, ground := Go.Ground.data }, { on := 16, ground := Go.Ground.data }, { on := 16, ground := Go.Ground.chain }, { on := 0, ground := Go.Ground.phase }, { on := 1, ground := Go.Ground.phase }, { on := 2, ground := Go.Ground.phase }, { on := 3, ground := Go.Ground.phase }, { on := 4, ground := Go.Ground.phase }, { on := 5, ground := Go.Ground.phase }, { on := 6, ground := Go.Ground.phase }, { on := 7, ground := Go.Ground.phase }, { on := 8, ground := Go.Ground.phase }, { on := 9, ground := Go.Ground.phase }, { on := 10, ground := Go.Ground.phase }, { on := 11, ground := Go.Ground.phase }, { on := 12, ground := Go.Ground.phase }, { on := 13, ground := Go.Ground.phase }, { on := 14, ground := Go.Ground.phase }, { on := 15, ground := Go.Ground.phase }, { on := 16, ground := Go.Ground.phase }], guard := none }) rfl (fun K hK => ?_) Zed.AllZ.nil
          have s1 : W1.cell? ⟨D7, 2, none⟩ = some vM := by rw [cell_row hW1]; rfl
          have fS := fun o : Nat => frozen_row (k := o) hW1
          go_simp
          refine hK.out _ _ (fun h => absurd rfl h) (fun _ => ?_)
          clear hK K
          try simp only [Act.put, List.setIfInBounds_toArray, List.set_cons_zero, List.set_cons_succ]
          refine Zed.anyZ_done (by kernel_rfl) ?_ _
          obtain ⟨w8, hw8⟩ : ∃ v, W1.setCell ⟨D7, 2, none⟩ (.slice C9 (q + 1) c9) = v := ⟨_, rfl⟩
          rw [hw8] at hNX ⊢
          rw [← Hsx.out] at hNX
          have HN2 := Lib.hid hNX
          clear hw8 hNX hW1 hkW1 hrun hbV hbW hrE hbE hb9 hbX hS0 hS1 hS2 hS3
          go_wp2_with fail
          go_roundw
          case rel => exact ⟨q + 1, by omega, by go_num, HN2⟩
          case measure => simp [intOf]; omega
      · obtain rfl : n = q := by omega
        obtain ⟨vL, vK, vM, hx⟩ := HV.out.ex
        have hoL := hx.oL
        have hoK := hx.oK
        have hoM := hx.oM
        have h6 := hx.r6
        have h7 := hx.r7
        rw [rtZ_len] at hoL
        rw [swZ_len] at hoM
        have hkl9 : (fI (rtP s n ks) n).length ≤ n := by
          unfold fI; rw [List.length_map]; have := List.length_filter_le (rtP s n ks) (List.range n); rw [List.length_range] at this; exact this
        obtain ⟨kl, hkl⟩ : ∃ v, (fI (rtP s n ks) n).length = v := ⟨_, rfl⟩
        rw [hkl] at hoK hkl9
        obtain ⟨C2, c2, rfl, hc2, hr2, -⟩ := rgs_own (rtZ_len s t u c d n zs n) hoL
        obtain ⟨C3, c3, rfl, hc3, hi3, -⟩ := ints_own hkl hoK
        obtain ⟨C4, c4, rfl, hc4, hr4, -⟩ := rgs_own (swZ_len zs n) hoM
        have hch := rt_ok (s := s) (t := t) (u := u) He.out Hzl.out
        have hcs := sw_ok He.out Hzl.out
        have RX := Lib.hid hr2
        have IX := Lib.hid hi3
        have RY := Lib.hid hr4
        have HX := Lib.hid h6
        have HY := Lib.hid h7
        have Hc2 := Lib.hid hc2
        have Hc4 := Lib.hid hc4
        have Hkl9 := Lib.hid hkl9
        have Hch := Lib.hid hch
        have Hcs := Lib.hid hcs
        have Hs := Lib.hid hs
        have Ht := Lib.hid ht
        clear hx hoL hoK hoM h6 h7 hc2 hc3 hc4 hr2 hi3 hr4 hch hcs hkl hkl9 HV hlt hs ht hu
        have zHS0 : w3.cell? ⟨R, 0, none⟩ = some (.int .i64 (c : Int)) := by rw [cell_row HS.out]; rfl
        have zHS1 : w3.cell? ⟨R, 1, none⟩ = some (.int .i64 (d : Int)) := by rw [cell_row HS.out]; rfl
        have zHS2 : w3.cell? ⟨R, 2, none⟩ = some (.slice A n cap) := by rw [cell_row HS.out]; rfl
        have zHS3 : w3.cell? ⟨R, 3, none⟩ = some (.slice A2 kn kc) := by rw [cell_row HS.out]; rfl
        have zHT0 : w3.cell? ⟨R + 1, 0, none⟩ = some (.int .u8 (s : Int)) := by rw [cell_row HT.out]; rfl
        have zHT1 : w3.cell? ⟨R + 1, 1, none⟩ = some (.int .u8 (t : Int)) := by rw [cell_row HT.out]; rfl
        have zHT2 : w3.cell? ⟨R + 1, 2, none⟩ = some (.int .u8 (u : Int)) := by rw [cell_row HT.out]; rfl
        have zHX0 : w3.cell? ⟨D6, 0, none⟩ = some (.int .i64 (c : Int)) := by rw [cell_row HX.out]; rfl
        have zHX1 : w3.cell? ⟨D6, 1, none⟩ = some (.int .i64 (d : Int)) := by rw [cell_row HX.out]; rfl
        have zHX2 : w3.cell? ⟨D6, 2, none⟩ = some (.slice C2 n c2) := by rw [cell_row HX.out]; rfl
        have zHX3 : w3.cell? ⟨D6, 3, none⟩ = some (.slice C3 kl c3) := by rw [cell_row HX.out]; rfl
        have zHY0 : w3.cell? ⟨D7, 0, none⟩ = some (.int .i64 (d : Int)) := by rw [cell_row HY.out]; rfl
        have zHY1 : w3.cell? ⟨D7, 1, none⟩ = some (.int .i64 (c : Int)) := by rw [cell_row HY.out]; rfl
        have zHY2 : w3.cell? ⟨D7, 2, none⟩ = some (.slice C4 n c4) := by rw [cell_row HY.out]; rfl
        have zHY3 : w3.cell? ⟨D7, 3, none⟩ = some (.slice A2 kn kc) := by rw [cell_row HY.out]; rfl
        go_wp2_with fail
        clear zHS0 zHS1 zHS2 zHS3 zHT0 zHT1 zHT2 zHX0 zHX1 zHX2 zHX3 zHY0 zHY1 zHY2 zHY3
        refine (kinds25 (c : Int) (d : Int) A n cap zs A2 kn kc ks w3 X.out XI.out Hc9.out (by have := Hn.out; omega) (by have := Hk.out; omega) He.out).mono ?_
        rintro en w4 ⟨Ca, ca, rfl, hck, hik, -, hb⟩
        replace X := Lib.hid (X.out.below hb (Nat.le_refl _))
        replace XI := Lib.hid (XI.out.below hb (Nat.le_refl _))
        replace RX := Lib.hid (RX.out.below hb (Nat.le_refl _))
        replace IX := Lib.hid (IX.out.below hb (Nat.le_refl _))
        replace RY := Lib.hid (RY.out.below hb (Nat.le_refl _))
        replace HS := Lib.hid ((hb.block _ (lt_of_block HS.out)).trans HS.out)
        replace HT := Lib.hid ((hb.block _ (lt_of_block HT.out)).trans HT.out)
        replace HX := Lib.hid ((hb.block _ (lt_of_block HX.out)).trans HX.out)
        replace HY := Lib.hid ((hb.block _ (lt_of_block HY.out)).trans HY.out)
        replace B := Lib.hid (B.out.trans (hb.mono B.out.size))
        have HKa := Lib.hid hik
        clear hik hck
        try clear hb
        have zHS0 : w4.cell? ⟨R, 0, none⟩ = some (.int .i64 (c : Int)) := by rw [cell_row HS.out]; rfl
        have zHS1 : w4.cell? ⟨R, 1, none⟩ = some (.int .i64 (d : Int)) := by rw [cell_row HS.out]; rfl
        have zHS2 : w4.cell? ⟨R, 2, none⟩ = some (.slice A n cap) := by rw [cell_row HS.out]; rfl
        have zHS3 : w4.cell? ⟨R, 3, none⟩ = some (.slice A2 kn kc) := by rw [cell_row HS.out]; rfl
        have zHT0 : w4.cell? ⟨R + 1, 0, none⟩ = some (.int .u8 (s : Int)) := by rw [cell_row HT.out]; rfl
        have zHT1 : w4.cell? ⟨R + 1, 1, none⟩ = some (.int .u8 (t : Int)) := by rw [cell_row HT.out]; rfl
        have zHT2 : w4.cell? ⟨R + 1, 2, none⟩ = some (.int .u8 (u : Int)) := by rw [cell_row HT.out]; rfl
        have zHX0 : w4.cell? ⟨D6, 0, none⟩ = some (.int .i64 (c : Int)) := by rw [cell_row HX.out]; rfl
        have zHX1 : w4.cell? ⟨D6, 1, none⟩ = some (.int .i64 (d : Int)) := by rw [cell_row HX.out]; rfl
        have zHX2 : w4.cell? ⟨D6, 2, none⟩ = some (.slice C2 n c2) := by rw [cell_row HX.out]; rfl
        have zHX3 : w4.cell? ⟨D6, 3, none⟩ = some (.slice C3 kl c3) := by rw [cell_row HX.out]; rfl
        have zHY0 : w4.cell? ⟨D7, 0, none⟩ = some (.int .i64 (d : Int)) := by rw [cell_row HY.out]; rfl
        have zHY1 : w4.cell? ⟨D7, 1, none⟩ = some (.int .i64 (c : Int)) := by rw [cell_row HY.out]; rfl
        have zHY2 : w4.cell? ⟨D7, 2, none⟩ = some (.slice C4 n c4) := by rw [cell_row HY.out]; rfl
        have zHY3 : w4.cell? ⟨D7, 3, none⟩ = some (.slice A2 kn kc) := by rw [cell_row HY.out]; rfl
        go_wp2_with fail
        clear zHS0 zHS1 zHS2 zHS3 zHT0 zHT1 zHT2 zHX0 zHX1 zHX2 zHX3 zHY0 zHY1 zHY2 zHY3
        refine (kinds25 (c : Int) (d : Int) C2 n c2 (rtZ s t u c d n zs n) C3 kl c3 (fI (rtP s n ks) n) w4 RX.out IX.out Hc2.out (by have := Hn.out; omega) (by have := Hn.out; have := Hkl9.out; omega) Hch.out.1).mono ?_
        rintro en w5 ⟨Cb, cb, rfl, hck, hik, -, hb⟩
        replace X := Lib.hid (X.out.below hb (Nat.le_refl _))
        replace XI := Lib.hid (XI.out.below hb (Nat.le_refl _))
        replace RX := Lib.hid (RX.out.below hb (Nat.le_refl _))
        replace IX := Lib.hid (IX.out.below hb (Nat.le_refl _))
        replace RY := Lib.hid (RY.out.below hb (Nat.le_refl _))
        replace HKa := Lib.hid (HKa.out.below hb (Nat.le_refl _))
        replace HS := Lib.hid ((hb.block _ (lt_of_block HS.out)).trans HS.out)
        replace HT := Lib.hid ((hb.block _ (lt_of_block HT.out)).trans HT.out)
        replace HX := Lib.hid ((hb.block _ (lt_of_block HX.out)).trans HX.out)
        replace HY := Lib.hid ((hb.block _ (lt_of_block HY.out)).trans HY.out)
        replace B := Lib.hid (B.out.trans (hb.mono B.out.size))
        rw [kinds_rt He.out Hzl.out] at hik
        have HKb := Lib.hid hik
        clear hik hck
        try clear hb
        have zHS0 : w5.cell? ⟨R, 0, none⟩ = some (.int .i64 (c : Int)) := by rw [cell_row HS.out]; rfl
        have zHS1 : w5.cell? ⟨R, 1, none⟩ = some (.int .i64 (d : Int)) := by rw [cell_row HS.out]; rfl
        have zHS2 : w5.cell? ⟨R, 2, none⟩ = some (.slice A n cap) := by rw [cell_row HS.out]; rfl
        have zHS3 : w5.cell? ⟨R, 3, none⟩ = some (.slice A2 kn kc) := by rw [cell_row HS.out]; rfl
        have zHT0 : w5.cell? ⟨R + 1, 0, none⟩ = some (.int .u8 (s : Int)) := by rw [cell_row HT.out]; rfl
        have zHT1 : w5.cell? ⟨R + 1, 1, none⟩ = some (.int .u8 (t : Int)) := by rw [cell_row HT.out]; rfl
        have zHT2 : w5.cell? ⟨R + 1, 2, none⟩ = some (.int .u8 (u : Int)) := by rw [cell_row HT.out]; rfl
        have zHX0 : w5.cell? ⟨D6, 0, none⟩ = some (.int .i64 (c : Int)) := by rw [cell_row HX.out]; rfl
        have zHX1 : w5.cell? ⟨D6, 1, none⟩ = some (.int .i64 (d : Int)) := by rw [cell_row HX.out]; rfl
        have zHX2 : w5.cell? ⟨D6, 2, none⟩ = some (.slice C2 n c2) := by rw [cell_row HX.out]; rfl
        have zHX3 : w5.cell? ⟨D6, 3, none⟩ = some (.slice C3 kl c3) := by rw [cell_row HX.out]; rfl
        have zHY0 : w5.cell? ⟨D7, 0, none⟩ = some (.int .i64 (d : Int)) := by rw [cell_row HY.out]; rfl
        have zHY1 : w5.cell? ⟨D7, 1, none⟩ = some (.int .i64 (c : Int)) := by rw [cell_row HY.out]; rfl
        have zHY2 : w5.cell? ⟨D7, 2, none⟩ = some (.slice C4 n c4) := by rw [cell_row HY.out]; rfl
        have zHY3 : w5.cell? ⟨D7, 3, none⟩ = some (.slice A2 kn kc) := by rw [cell_row HY.out]; rfl
        go_wp2_with fail
        clear zHS0 zHS1 zHS2 zHS3 zHT0 zHT1 zHT2 zHX0 zHX1 zHX2 zHX3 zHY0 zHY1 zHY2 zHY3
        refine (kinds25 (d : Int) (c : Int) C4 n c4 (swZ zs n) A2 kn kc ks w5 RY.out XI.out Hc4.out (by have := Hn.out; omega) (by have := Hk.out; omega) Hcs.out.1).mono ?_
        rintro en w6 ⟨Cc, cc, rfl, hck, hik, -, hb⟩
        replace X := Lib.hid (X.out.below hb (Nat.le_refl _))
        replace XI := Lib.hid (XI.out.below hb (Nat.le_refl _))
        replace RX := Lib.hid (RX.out.below hb (Nat.le_refl _))
        replace IX := Lib.hid (IX.out.below hb (Nat.le_refl _))
        replace RY := Lib.hid (RY.out.below hb (Nat.le_refl _))
        replace HKa := Lib.hid (HKa.out.below hb (Nat.le_refl _))
        replace HKb := Lib.hid (HKb.out.below hb (Nat.le_refl _))
        replace HS := Lib.hid ((hb.block _ (lt_of_block HS.out)).trans HS.out)
        replace HT := Lib.hid ((hb.block _ (lt_of_block HT.out)).trans HT.out)
        replace HX := Lib.hid ((hb.block _ (lt_of_block HX.out)).trans HX.out)
        replace HY := Lib.hid ((hb.block _ (lt_of_block HY.out)).trans HY.out)
        replace B := Lib.hid (B.out.trans (hb.mono B.out.size))
        rw [kinds_sw He.out Hzl.out] at hik
        have HKc := Lib.hid hik
        clear hik hck
        try clear hb
        have zHS0 : w6.cell? ⟨R, 0, none⟩ = some (.int .i64 (c : Int)) := by rw [cell_row HS.out]; rfl
        have zHS1 : w6.cell? ⟨R, 1, none⟩ = some (.int .i64 (d : Int)) := by rw [cell_row HS.out]; rfl
        have zHS2 : w6.cell? ⟨R, 2, none⟩ = some (.slice A n cap) := by rw [cell_row HS.out]; rfl
        have zHS3 : w6.cell? ⟨R, 3, none⟩ = some (.slice A2 kn kc) := by rw [cell_row HS.out]; rfl
        have zHT0 : w6.cell? ⟨R + 1, 0, none⟩ = some (.int .u8 (s : Int)) := by rw [cell_row HT.out]; rfl
        have zHT1 : w6.cell? ⟨R + 1, 1, none⟩ = some (.int .u8 (t : Int)) := by rw [cell_row HT.out]; rfl
        have zHT2 : w6.cell? ⟨R + 1, 2, none⟩ = some (.int .u8 (u : Int)) := by rw [cell_row HT.out]; rfl
        have zHX0 : w6.cell? ⟨D6, 0, none⟩ = some (.int .i64 (c : Int)) := by rw [cell_row HX.out]; rfl
        have zHX1 : w6.cell? ⟨D6, 1, none⟩ = some (.int .i64 (d : Int)) := by rw [cell_row HX.out]; rfl
        have zHX2 : w6.cell? ⟨D6, 2, none⟩ = some (.slice C2 n c2) := by rw [cell_row HX.out]; rfl
        have zHX3 : w6.cell? ⟨D6, 3, none⟩ = some (.slice C3 kl c3) := by rw [cell_row HX.out]; rfl
        have zHY0 : w6.cell? ⟨D7, 0, none⟩ = some (.int .i64 (d : Int)) := by rw [cell_row HY.out]; rfl
        have zHY1 : w6.cell? ⟨D7, 1, none⟩ = some (.int .i64 (c : Int)) := by rw [cell_row HY.out]; rfl
        have zHY2 : w6.cell? ⟨D7, 2, none⟩ = some (.slice C4 n c4) := by rw [cell_row HY.out]; rfl
        have zHY3 : w6.cell? ⟨D7, 3, none⟩ = some (.slice A2 kn kc) := by rw [cell_row HY.out]; rfl
        go_wp2_with fail
        clear zHS0 zHS1 zHS2 zHS3 zHT0 zHT1 zHT2 zHX0 zHX1 zHX2 zHX3 zHY0 zHY1 zHY2 zHY3
        refine (items27 (c : Int) (d : Int) A n cap zs A2 kn kc ks false w6 X.out XI.out Hc9.out (by have := Hn.out; omega) (by have := Hk.out; omega) He.out).mono ?_
        rintro en w7 ⟨Cp, np, cp, hc', rfl, hci', hii, -, hb⟩
        replace X := Lib.hid (X.out.below hb (Nat.le_refl _))
        replace XI := Lib.hid (XI.out.below hb (Nat.le_refl _))
        replace RX := Lib.hid (RX.out.below hb (Nat.le_refl _))
        replace IX := Lib.hid (IX.out.below hb (Nat.le_refl _))
        replace RY := Lib.hid (RY.out.below hb (Nat.le_refl _))
        replace HKa := Lib.hid (HKa.out.below hb (Nat.le_refl _))
        replace HKb := Lib.hid (HKb.out.below hb (Nat.le_refl _))
        replace HKc := Lib.hid (HKc.out.below hb (Nat.le_refl _))
        replace HS := Lib.hid ((hb.block _ (lt_of_block HS.out)).trans HS.out)
        replace HT := Lib.hid ((hb.block _ (lt_of_block HT.out)).trans HT.out)
        replace HX := Lib.hid ((hb.block _ (lt_of_block HX.out)).trans HX.out)
        replace HY := Lib.hid ((hb.block _ (lt_of_block HY.out)).trans HY.out)
        replace B := Lib.hid (B.out.trans (hb.mono B.out.size))
        obtain rfl : c = np := by rw [if_neg (by simp)] at hc'; omega
        rw [if_neg (by simp)] at hii
        
        have HIp := Lib.hid hii
        clear hii hc' hci'
        try clear hb
        have zHS0 : w7.cell? ⟨R, 0, none⟩ = some (.int .i64 (c : Int)) := by rw [cell_row HS.out]; rfl
        have zHS1 : w7.cell? ⟨R, 1, none⟩ = some (.int .i64 (d : Int)) := by rw [cell_row HS.out]; rfl
        have zHS2 : w7.cell? ⟨R, 2, none⟩ = some (.slice A n cap) := by rw [cell_row HS.out]; rfl
        have zHS3 : w7.cell? ⟨R, 3, none⟩ = some (.slice A2 kn kc) := by rw [cell_row HS.out]; rfl
        have zHT0 : w7.cell? ⟨R + 1, 0, none⟩ = some (.int .u8 (s : Int)) := by rw [cell_row HT.out]; rfl
        have zHT1 : w7.cell? ⟨R + 1, 1, none⟩ = some (.int .u8 (t : Int)) := by rw [cell_row HT.out]; rfl
        have zHT2 : w7.cell? ⟨R + 1, 2, none⟩ = some (.int .u8 (u : Int)) := by rw [cell_row HT.out]; rfl
        have zHX0 : w7.cell? ⟨D6, 0, none⟩ = some (.int .i64 (c : Int)) := by rw [cell_row HX.out]; rfl
        have zHX1 : w7.cell? ⟨D6, 1, none⟩ = some (.int .i64 (d : Int)) := by rw [cell_row HX.out]; rfl
        have zHX2 : w7.cell? ⟨D6, 2, none⟩ = some (.slice C2 n c2) := by rw [cell_row HX.out]; rfl
        have zHX3 : w7.cell? ⟨D6, 3, none⟩ = some (.slice C3 kl c3) := by rw [cell_row HX.out]; rfl
        have zHY0 : w7.cell? ⟨D7, 0, none⟩ = some (.int .i64 (d : Int)) := by rw [cell_row HY.out]; rfl
        have zHY1 : w7.cell? ⟨D7, 1, none⟩ = some (.int .i64 (c : Int)) := by rw [cell_row HY.out]; rfl
        have zHY2 : w7.cell? ⟨D7, 2, none⟩ = some (.slice C4 n c4) := by rw [cell_row HY.out]; rfl
        have zHY3 : w7.cell? ⟨D7, 3, none⟩ = some (.slice A2 kn kc) := by rw [cell_row HY.out]; rfl
        go_wp2_with fail
        clear zHS0 zHS1 zHS2 zHS3 zHT0 zHT1 zHT2 zHX0 zHX1 zHX2 zHX3 zHY0 zHY1 zHY2 zHY3
        refine (items27 (c : Int) (d : Int) C2 n c2 (rtZ s t u c d n zs n) C3 kl c3 (fI (rtP s n ks) n) false w7 RX.out IX.out Hc2.out (by have := Hn.out; omega) (by have := Hn.out; have := Hkl9.out; omega) Hch.out.1).mono ?_
        rintro en w8 ⟨Cq, nq, cq, hc', rfl, hci', hii, -, hb⟩
        replace X := Lib.hid (X.out.below hb (Nat.le_refl _))
        replace XI := Lib.hid (XI.out.below hb (Nat.le_refl _))
        replace RX := Lib.hid (RX.out.below hb (Nat.le_refl _))
        replace IX := Lib.hid (IX.out.below hb (Nat.le_refl _))
        replace RY := Lib.hid (RY.out.below hb (Nat.le_refl _))
        replace HKa := Lib.hid (HKa.out.below hb (Nat.le_refl _))
        replace HKb := Lib.hid (HKb.out.below hb (Nat.le_refl _))
        replace HKc := Lib.hid (HKc.out.below hb (Nat.le_refl _))
        replace HIp := Lib.hid (HIp.out.below hb (Nat.le_refl _))
        replace HS := Lib.hid ((hb.block _ (lt_of_block HS.out)).trans HS.out)
        replace HT := Lib.hid ((hb.block _ (lt_of_block HT.out)).trans HT.out)
        replace HX := Lib.hid ((hb.block _ (lt_of_block HX.out)).trans HX.out)
        replace HY := Lib.hid ((hb.block _ (lt_of_block HY.out)).trans HY.out)
        replace B := Lib.hid (B.out.trans (hb.mono B.out.size))
        obtain rfl : c = nq := by rw [if_neg (by simp)] at hc'; omega
        rw [if_neg (by simp)] at hii
        rw [items_rt He.out Hzl.out] at hii
        have HIq := Lib.hid hii
        clear hii hc' hci'
        try clear hb
        have zHS0 : w8.cell? ⟨R, 0, none⟩ = some (.int .i64 (c : Int)) := by rw [cell_row HS.out]; rfl
        have zHS1 : w8.cell? ⟨R, 1, none⟩ = some (.int .i64 (d : Int)) := by rw [cell_row HS.out]; rfl
        have zHS2 : w8.cell? ⟨R, 2, none⟩ = some (.slice A n cap) := by rw [cell_row HS.out]; rfl
        have zHS3 : w8.cell? ⟨R, 3, none⟩ = some (.slice A2 kn kc) := by rw [cell_row HS.out]; rfl
        have zHT0 : w8.cell? ⟨R + 1, 0, none⟩ = some (.int .u8 (s : Int)) := by rw [cell_row HT.out]; rfl
        have zHT1 : w8.cell? ⟨R + 1, 1, none⟩ = some (.int .u8 (t : Int)) := by rw [cell_row HT.out]; rfl
        have zHT2 : w8.cell? ⟨R + 1, 2, none⟩ = some (.int .u8 (u : Int)) := by rw [cell_row HT.out]; rfl
        have zHX0 : w8.cell? ⟨D6, 0, none⟩ = some (.int .i64 (c : Int)) := by rw [cell_row HX.out]; rfl
        have zHX1 : w8.cell? ⟨D6, 1, none⟩ = some (.int .i64 (d : Int)) := by rw [cell_row HX.out]; rfl
        have zHX2 : w8.cell? ⟨D6, 2, none⟩ = some (.slice C2 n c2) := by rw [cell_row HX.out]; rfl
        have zHX3 : w8.cell? ⟨D6, 3, none⟩ = some (.slice C3 kl c3) := by rw [cell_row HX.out]; rfl
        have zHY0 : w8.cell? ⟨D7, 0, none⟩ = some (.int .i64 (d : Int)) := by rw [cell_row HY.out]; rfl
        have zHY1 : w8.cell? ⟨D7, 1, none⟩ = some (.int .i64 (c : Int)) := by rw [cell_row HY.out]; rfl
        have zHY2 : w8.cell? ⟨D7, 2, none⟩ = some (.slice C4 n c4) := by rw [cell_row HY.out]; rfl
        have zHY3 : w8.cell? ⟨D7, 3, none⟩ = some (.slice A2 kn kc) := by rw [cell_row HY.out]; rfl
        go_wp2_with fail
        clear zHS0 zHS1 zHS2 zHS3 zHT0 zHT1 zHT2 zHX0 zHX1 zHX2 zHX3 zHY0 zHY1 zHY2 zHY3
        refine (items27 (d : Int) (c : Int) C4 n c4 (swZ zs n) A2 kn kc ks true w8 RY.out XI.out Hc4.out (by have := Hn.out; omega) (by have := Hk.out; omega) Hcs.out.1).mono ?_
        rintro en w9 ⟨Cr, nr, cr, hc', rfl, hci', hii, -, hb⟩
        replace X := Lib.hid (X.out.below hb (Nat.le_refl _))
        replace XI := Lib.hid (XI.out.below hb (Nat.le_refl _))
        replace RX := Lib.hid (RX.out.below hb (Nat.le_refl _))
        replace IX := Lib.hid (IX.out.below hb (Nat.le_refl _))
        replace RY := Lib.hid (RY.out.below hb (Nat.le_refl _))
        replace HKa := Lib.hid (HKa.out.below hb (Nat.le_refl _))
        replace HKb := Lib.hid (HKb.out.below hb (Nat.le_refl _))
        replace HKc := Lib.hid (HKc.out.below hb (Nat.le_refl _))
        replace HIp := Lib.hid (HIp.out.below hb (Nat.le_refl _))
        replace HIq := Lib.hid (HIq.out.below hb (Nat.le_refl _))
        replace HS := Lib.hid ((hb.block _ (lt_of_block HS.out)).trans HS.out)
        replace HT := Lib.hid ((hb.block _ (lt_of_block HT.out)).trans HT.out)
        replace HX := Lib.hid ((hb.block _ (lt_of_block HX.out)).trans HX.out)
        replace HY := Lib.hid ((hb.block _ (lt_of_block HY.out)).trans HY.out)
        replace B := Lib.hid (B.out.trans (hb.mono B.out.size))
        obtain rfl : c = nr := by rw [if_pos rfl] at hc'; omega
        rw [if_pos rfl] at hii
        rw [items_sw He.out Hzl.out] at hii
        have dn : ((n : Int) != (n : Int)) = false := by simp
        have dc : ((c : Int) != (c : Int)) = false := by simp
        have HIr := Lib.hid hii
        clear hii hc' hci'
        try clear hb
        have zHS0 : w9.cell? ⟨R, 0, none⟩ = some (.int .i64 (c : Int)) := by rw [cell_row HS.out]; rfl
        have zHS1 : w9.cell? ⟨R, 1, none⟩ = some (.int .i64 (d : Int)) := by rw [cell_row HS.out]; rfl
        have zHS2 : w9.cell? ⟨R, 2, none⟩ = some (.slice A n cap) := by rw [cell_row HS.out]; rfl
        have zHS3 : w9.cell? ⟨R, 3, none⟩ = some (.slice A2 kn kc) := by rw [cell_row HS.out]; rfl
        have zHT0 : w9.cell? ⟨R + 1, 0, none⟩ = some (.int .u8 (s : Int)) := by rw [cell_row HT.out]; rfl
        have zHT1 : w9.cell? ⟨R + 1, 1, none⟩ = some (.int .u8 (t : Int)) := by rw [cell_row HT.out]; rfl
        have zHT2 : w9.cell? ⟨R + 1, 2, none⟩ = some (.int .u8 (u : Int)) := by rw [cell_row HT.out]; rfl
        have zHX0 : w9.cell? ⟨D6, 0, none⟩ = some (.int .i64 (c : Int)) := by rw [cell_row HX.out]; rfl
        have zHX1 : w9.cell? ⟨D6, 1, none⟩ = some (.int .i64 (d : Int)) := by rw [cell_row HX.out]; rfl
        have zHX2 : w9.cell? ⟨D6, 2, none⟩ = some (.slice C2 n c2) := by rw [cell_row HX.out]; rfl
        have zHX3 : w9.cell? ⟨D6, 3, none⟩ = some (.slice C3 kl c3) := by rw [cell_row HX.out]; rfl
        have zHY0 : w9.cell? ⟨D7, 0, none⟩ = some (.int .i64 (d : Int)) := by rw [cell_row HY.out]; rfl
        have zHY1 : w9.cell? ⟨D7, 1, none⟩ = some (.int .i64 (c : Int)) := by rw [cell_row HY.out]; rfl
        have zHY2 : w9.cell? ⟨D7, 2, none⟩ = some (.slice C4 n c4) := by rw [cell_row HY.out]; rfl
        have zHY3 : w9.cell? ⟨D7, 3, none⟩ = some (.slice A2 kn kc) := by rw [cell_row HY.out]; rfl
        go_wp2_with fail
        clear zHS0 zHS1 zHS2 zHS3 zHT0 zHT1 zHT2 zHX0 zHX1 zHX2 zHX3 zHY0 zHY1 zHY2 zHY3
        clear X XI RX IX RY HX HY
        have hpa := fun i (hi : i < n) => kindsK_at (n := n) (zs := zs) (op := opnL n zs ks) (J := kNt ks) hi
        have hpb := fun i (hi : i < n) => kRt_at (n := n) (zs := zs) (ks := ks) (s := s) hi
        have hpp := fun i (hi : i < c) => ikL_at (n := n) (zs := zs) (ks := ks) hi
        have hpq := fun i (hi : i < c) => iRt_at (n := n) (zs := zs) (ks := ks) (t := t) hi
        obtain ⟨ka, hka⟩ : ∃ v, kindsK n zs (opnL n zs ks) (kNt ks) n = v := ⟨_, rfl⟩
        obtain ⟨kb, hkb⟩ : ∃ v, kRt n zs ks s = v := ⟨_, rfl⟩
        obtain ⟨pa, hpa2⟩ : ∃ v, ikL n zs (opnL n zs ks) (kNt ks) 0 c = v := ⟨_, rfl⟩
        obtain ⟨qa, hqa⟩ : ∃ v, iRt n zs ks t c = v := ⟨_, rfl⟩
        rw [hka] at hpa HKa HKc
        rw [hkb] at hpb HKb
        rw [hpa2] at hpp HIp HIr
        rw [hqa] at hpq HIq
        have Hpab := Lib.hid (show ∀ i, i < n → iAt kb i = iAt ka (tnN s n i) from fun i hi => by rw [hpb i hi, hpa _ (tn_lt (by omega))])
        have Hppq := Lib.hid (show ∀ i, i < c → iAt qa (tnN t c i) = iAt pa i from fun i hi => by rw [hpq _ (tn_lt (by omega)), hpp i hi, bk_tn hi])
        clear hpa hpb hpp hpq hka hkb hpa2 hqa
        refine (ints29 Ca n ca ka Cc n cc ka w9 HKa.out HKc.out (by have := Hn.out; omega)).mono ?_
        rintro en w10 ⟨rfl, hb⟩
        replace HKa := Lib.hid (HKa.out.below hb (Nat.le_refl _))
        replace HKb := Lib.hid (HKb.out.below hb (Nat.le_refl _))
        replace HKc := Lib.hid (HKc.out.below hb (Nat.le_refl _))
        replace HIp := Lib.hid (HIp.out.below hb (Nat.le_refl _))
        replace HIq := Lib.hid (HIq.out.below hb (Nat.le_refl _))
        replace HIr := Lib.hid (HIr.out.below hb (Nat.le_refl _))
        replace HS := Lib.hid ((hb.block _ (lt_of_block HS.out)).trans HS.out)
        replace HT := Lib.hid ((hb.block _ (lt_of_block HT.out)).trans HT.out)
        replace B := Lib.hid (B.out.trans (hb.mono B.out.size))
        rw [decide_eq_true rfl]
        try clear hb
        have zHS0 : w10.cell? ⟨R, 0, none⟩ = some (.int .i64 (c : Int)) := by rw [cell_row HS.out]; rfl
        have zHS1 : w10.cell? ⟨R, 1, none⟩ = some (.int .i64 (d : Int)) := by rw [cell_row HS.out]; rfl
        have zHS2 : w10.cell? ⟨R, 2, none⟩ = some (.slice A n cap) := by rw [cell_row HS.out]; rfl
        have zHS3 : w10.cell? ⟨R, 3, none⟩ = some (.slice A2 kn kc) := by rw [cell_row HS.out]; rfl
        have zHT0 : w10.cell? ⟨R + 1, 0, none⟩ = some (.int .u8 (s : Int)) := by rw [cell_row HT.out]; rfl
        have zHT1 : w10.cell? ⟨R + 1, 1, none⟩ = some (.int .u8 (t : Int)) := by rw [cell_row HT.out]; rfl
        have zHT2 : w10.cell? ⟨R + 1, 2, none⟩ = some (.int .u8 (u : Int)) := by rw [cell_row HT.out]; rfl
        go_wp2_with fail
        clear zHS0 zHS1 zHS2 zHS3 zHT0 zHT1 zHT2
        refine (ints29 Cp c cp pa Cr c cr pa w10 HIp.out HIr.out (by omega)).mono ?_
        rintro en w11 ⟨rfl, hb⟩
        replace HKa := Lib.hid (HKa.out.below hb (Nat.le_refl _))
        replace HKb := Lib.hid (HKb.out.below hb (Nat.le_refl _))
        replace HKc := Lib.hid (HKc.out.below hb (Nat.le_refl _))
        replace HIp := Lib.hid (HIp.out.below hb (Nat.le_refl _))
        replace HIq := Lib.hid (HIq.out.below hb (Nat.le_refl _))
        replace HIr := Lib.hid (HIr.out.below hb (Nat.le_refl _))
        replace HS := Lib.hid ((hb.block _ (lt_of_block HS.out)).trans HS.out)
        replace HT := Lib.hid ((hb.block _ (lt_of_block HT.out)).trans HT.out)
        replace B := Lib.hid (B.out.trans (hb.mono B.out.size))
        rw [decide_eq_true rfl]
        try clear hb
        have zHS0 : w11.cell? ⟨R, 0, none⟩ = some (.int .i64 (c : Int)) := by rw [cell_row HS.out]; rfl
        have zHS1 : w11.cell? ⟨R, 1, none⟩ = some (.int .i64 (d : Int)) := by rw [cell_row HS.out]; rfl
        have zHS2 : w11.cell? ⟨R, 2, none⟩ = some (.slice A n cap) := by rw [cell_row HS.out]; rfl
        have zHS3 : w11.cell? ⟨R, 3, none⟩ = some (.slice A2 kn kc) := by rw [cell_row HS.out]; rfl
        have zHT0 : w11.cell? ⟨R + 1, 0, none⟩ = some (.int .u8 (s : Int)) := by rw [cell_row HT.out]; rfl
        have zHT1 : w11.cell? ⟨R + 1, 1, none⟩ = some (.int .u8 (t : Int)) := by rw [cell_row HT.out]; rfl
        have zHT2 : w11.cell? ⟨R + 1, 2, none⟩ = some (.int .u8 (u : Int)) := by rw [cell_row HT.out]; rfl
        go_wp2_with fail
        clear zHS0 zHS1 zHS2 zHS3 zHT0 zHT1 zHT2
        have KA := HKa
        have KB := HKb
        have PA := HIp
        have QA := HIq
        have SB := HS
        have TB := HT
        have BB := B
        clear HKa HKb HKc HIp HIq HIr HS HT B
        go_loopw [22] (fun v wr => ∃ q : Nat, q ≤ n ∧ v = .int .i64 (q : Int) ∧ Hid (Below w11.heap.size w11 wr)) (fun v _ => n - (intOf v).toNat)
        case atStart => exact ⟨0, Nat.zero_le _, rfl, Lib.hid (Below.refl _ _)⟩
        case round =>
          obtain ⟨q, hq, rfl, HV⟩ := hrel
          obtain ⟨w12, rfl⟩ : ∃ v, v = wr := ⟨_, rfl⟩
          have HKa := Lib.hid (KA.out.below HV.out (Nat.le_refl _))
          have HKb := Lib.hid (KB.out.below HV.out (Nat.le_refl _))
          have HIp := Lib.hid (PA.out.below HV.out (Nat.le_refl _))
          have HIq := Lib.hid (QA.out.below HV.out (Nat.le_refl _))
          have HS := Lib.hid ((HV.out.block _ (lt_of_block SB.out)).trans SB.out)
          have HT := Lib.hid ((HV.out.block _ (lt_of_block TB.out)).trans TB.out)
          have B := Lib.hid (BB.out.trans (HV.out.mono BB.out.size))
          by_cases hlt : q < n
          · have hnb := Hn.out
            have hs := Hs.out
            obtain ⟨j, hj⟩ : ∃ v, tnN s n q = v := ⟨_, rfl⟩
            have hjn : j < n := by rw [← hj]; exact tn_lt (by omega)
            have hrem : ((q : Int) + (s : Int)).tmod (n : Int) = (j : Int) := by rw [Int.tmod_eq_emod_of_nonneg (by omega), ← hj]; rfl
            have hn0 : ¬ (n : Int) = 0 := by omega
            have i0 : (0 : Int) ≤ (q : Int) := by omega
            have i1 : (q : Int) < (n : Int) := by omega
            have j0 : (0 : Int) ≤ (j : Int) := by omega
            have j1 : (j : Int) < (n : Int) := by omega
            obtain ⟨bA, oA, rfl, hcA⟩ := HKa.out.2 (by omega)
            obtain ⟨bB, oB, rfl, hcB⟩ := HKb.out.2 (by omega)
            have x0 := hcA j hjn
            have x1 := hcB q hlt
            rw [Hpab.out q hlt, hj] at x1
            obtain ⟨kv, hkv⟩ : ∃ v, iAt ka j = v := ⟨_, rfl⟩
            rw [hkv] at x0 x1
            clear hcA hcB hkv hj
            have zHS0 : w12.cell? ⟨R, 0, none⟩ = some (.int .i64 (c : Int)) := by rw [cell_row HS.out]; rfl
            have zHS1 : w12.cell? ⟨R, 1, none⟩ = some (.int .i64 (d : Int)) := by rw [cell_row HS.out]; rfl
            have zHS2 : w12.cell? ⟨R, 2, none⟩ = some (.slice A n cap) := by rw [cell_row HS.out]; rfl
            have zHS3 : w12.cell? ⟨R, 3, none⟩ = some (.slice A2 kn kc) := by rw [cell_row HS.out]; rfl
            have zHT0 : w12.cell? ⟨R + 1, 0, none⟩ = some (.int .u8 (s : Int)) := by rw [cell_row HT.out]; rfl
            have zHT1 : w12.cell? ⟨R + 1, 1, none⟩ = some (.int .u8 (t : Int)) := by rw [cell_row HT.out]; rfl
            have zHT2 : w12.cell? ⟨R + 1, 2, none⟩ = some (.int .u8 (u : Int)) := by rw [cell_row HT.out]; rfl
            go_wp2_with fail
            refine wp_region_held_drew (S := fun w2 => Below w12.heap.size w12 w2) (by kernel_rfl) (drew_b _ _) (fun hS0 => ?_)
            refine wpAnyH_take (i := 0) (oi := { dst := some 212, op := Go.Op.move (Go.Operand.tmp 12), type := 23, pos := "outright.go:127", after := #[], guard := none }) (v := .slice (some ⟨bB, oB, none⟩) n cb) rfl (by kernel_rfl) (by kernel_rfl) (by kernel_rfl) (fun _ _ _ h => h) (Or.inl ⟨by rfl, by intro w2 hSw; (try dsimp only at hSw); go_simp⟩) hS0 ?_
            try simp only [Act.put, List.setIfInBounds_toArray, List.set_cons_zero, List.set_cons_succ]
            refine wpAnyH_take (i := 1) (oi := { dst := some 213, op := Go.Op.move (Go.Operand.tmp 22), type := 3, pos := "outright.go:127", after := #[], guard := none }) (v := .int .i64 (q : Int)) rfl (by kernel_rfl) (by kernel_rfl) (by kernel_rfl) (fun _ _ _ h => h) (Or.inl ⟨by rfl, by intro w2 hSw; (try dsimp only at hSw); go_simp⟩) hS0 ?_
            try simp only [Act.put, List.setIfInBounds_toArray, List.set_cons_zero, List.set_cons_succ]
            refine wpAnyH_take (i := 2) (oi := { dst := some 214, op := Go.Op.indexAddr 23 (Go.Operand.tmp 212) (Go.Operand.tmp 213), type := 0, pos := "outright.go:127", after := #[{ on := 0, ground := Go.Ground.data }, { on := 1, ground := Go.Ground.data }], guard := none }) (v := .pointer (some ⟨bB, oB + q, none⟩)) rfl (by kernel_rfl) (by kernel_rfl) (by kernel_rfl) (fun _ _ _ h => h) (Or.inl ⟨by rfl, by intro w2 hSw; (try dsimp only at hSw); go_simp⟩) hS0 ?_
            try simp only [Act.put, List.setIfInBounds_toArray, List.set_cons_zero, List.set_cons_succ]
            refine wpAnyH_take (i := 3) (oi := { dst := some 215, op := Go.Op.load 3 (Go.Operand.tmp 214), type := 3, pos := "outright.go:127", after := #[{ on := 2, ground := Go.Ground.data }], guard := none }) (v := .int .i64 kv) rfl (by kernel_rfl) (by kernel_rfl) (by kernel_rfl) (fun _ _ _ h => h) (Or.inl ⟨by rfl, by intro w2 hSw; (try dsimp only at hSw); have y1 := (hSw.cell (lt_of_cell x1)).trans x1; go_simp⟩) hS0 ?_
            try simp only [Act.put, List.setIfInBounds_toArray, List.set_cons_zero, List.set_cons_succ]
            refine wpAnyH_take (i := 4) (oi := { dst := some 216, op := Go.Op.move (Go.Operand.tmp 10), type := 23, pos := "outright.go:127", after := #[], guard := none }) (v := .slice (some ⟨bA, oA, none⟩) n ca) rfl (by kernel_rfl) (by kernel_rfl) (by kernel_rfl) (fun _ _ _ h => h) (Or.inl ⟨by rfl, by intro w2 hSw; (try dsimp only at hSw); go_simp⟩) hS0 ?_
            try simp only [Act.put, List.setIfInBounds_toArray, List.set_cons_zero, List.set_cons_succ]
            refine wpAnyH_take (i := 5) (oi := { dst := some 217, op := Go.Op.move (Go.Operand.tmp 22), type := 3, pos := "outright.go:127", after := #[], guard := none }) (v := .int .i64 (q : Int)) rfl (by kernel_rfl) (by kernel_rfl) (by kernel_rfl) (fun _ _ _ h => h) (Or.inl ⟨by rfl, by intro w2 hSw; (try dsimp only at hSw); go_simp⟩) hS0 ?_
            try simp only [Act.put, List.setIfInBounds_toArray, List.set_cons_zero, List.set_cons_succ]
            refine wpAnyH_take (i := 6) (oi := { dst := some 218, op := Go.Op.indexAddr 53 (Go.Operand.tmp 3) (Go.Operand.const (Go.Value.int Go.IntKind.i64 0)), type := 0, pos := "outright.go:127", after := #[], guard := none }) (v := .pointer (some ⟨R + 1, 0, none⟩)) rfl (by kernel_rfl) (by kernel_rfl) (by kernel_rfl) (fun _ _ _ h => h) (Or.inl ⟨by rfl, by intro w2 hSw; (try dsimp only at hSw); go_simp⟩) hS0 ?_
            try simp only [Act.put, List.setIfInBounds_toArray, List.set_cons_zero, List.set_cons_succ]
            refine wpAnyH_take (i := 7) (oi := { dst := some 219, op := Go.Op.load 5 (Go.Operand.tmp 218), type := 5, pos := "outright.go:127", after := #[{ on := 6, ground := Go.Ground.data }], guard := none }) (v := .int .u8 (s : Int)) rfl (by kernel_rfl) (by kernel_rfl) (by kernel_rfl) (fun _ _ _ h => h) (Or.inl ⟨by rfl, by intro w2 hSw; (try dsimp only at hSw); have yHT0 := (hSw.cell (lt_of_cell zHT0)).trans zHT0; go_simp⟩) hS0 ?_
            try simp only [Act.put, List.setIfInBounds_toArray, List.set_cons_zero, List.set_cons_succ]
            refine wpAnyH_take (i := 8) (oi := { dst := some 220, op := Go.Op.convert 5 3 (Go.Operand.tmp 219), type := 3, pos := "outright.go:127", after := #[{ on := 7, ground := Go.Ground.data }], guard := none }) (v := .int .i64 (s : Int)) rfl (by kernel_rfl) (by kernel_rfl) (by kernel_rfl) (fun _ _ _ h => h) (Or.inl ⟨by rfl, by intro w2 hSw; (try dsimp only at hSw); go_simp; exact IntWalk.i64_in _ (by omega)⟩) hS0 ?_
            try simp only [Act.put, List.setIfInBounds_toArray, List.set_cons_zero, List.set_cons_succ]
            refine wpAnyH_take (i := 9) (oi := { dst := some 221, op := Go.Op.binOp Go.BinOp.add 3 (Go.Operand.tmp 217) (Go.Operand.tmp 220) 3, type := 3, pos := "outright.go:127", after := #[{ on := 5, ground := Go.Ground.data }, { on := 8, ground := Go.Ground.data }], guard := none }) (v := .int .i64 ((q : Int) + (s : Int))) rfl (by kernel_rfl) (by kernel_rfl) (by kernel_rfl) (fun _ _ _ h => h) (Or.inl ⟨by rfl, by intro w2 hSw; (try dsimp only at hSw); go_simp; exact IntWalk.i64_in _ (by omega)⟩) hS0 ?_
            try simp only [Act.put, List.setIfInBounds_toArray, List.set_cons_zero, List.set_cons_succ]
            refine wpAnyH_take (i := 10) (oi := { dst := some 222, op := Go.Op.move (Go.Operand.tmp 5), type := 3, pos := "outright.go:127", after := #[], guard := none }) (v := .int .i64 (n : Int)) rfl (by kernel_rfl) (by kernel_rfl) (by kernel_rfl) (fun _ _ _ h => h) (Or.inl ⟨by rfl, by intro w2 hSw; (try dsimp only at hSw); go_simp⟩) hS0 ?_
            try simp only [Act.put, List.setIfInBounds_toArray, List.set_cons_zero, List.set_cons_succ]
            refine wpAnyH_take (i := 11) (oi := { dst := some 223, op := Go.Op.binOp Go.BinOp.rem 3 (Go.Operand.tmp 221) (Go.Operand.tmp 222) 3, type := 3, pos := "outright.go:127", after := #[{ on := 9, ground := Go.Ground.data }, { on := 10, ground := Go.Ground.data }], guard := none }) (v := .int .i64 (j : Int)) rfl (by kernel_rfl) (by kernel_rfl) (by kernel_rfl) (fun _ _ _ h => h) (Or.inl ⟨by rfl, by intro w2 hSw; (try dsimp only at hSw); go_simp; omega⟩) hS0 ?_
            try simp only [Act.put, List.setIfInBounds_toArray, List.set_cons_zero, List.set_cons_succ]
            refine wpAnyH_take (i := 12) (oi := { dst := some 224, op := Go.Op.indexAddr 23 (Go.Operand.tmp 216) (Go.Operand.tmp 223), type := 0, pos := "outright.go:127", after := #[{ on := 4, ground := Go.Ground.data }, { on := 11, ground := Go.Ground.data }], guard := none }) (v := .pointer (some ⟨bA, oA + j, none⟩)) rfl (by kernel_rfl) (by kernel_rfl) (by kernel_rfl) (fun _ _ _ h => h) (Or.inl ⟨by rfl, by intro w2 hSw; (try dsimp only at hSw); go_simp⟩) hS0 ?_
            try simp only [Act.put, List.setIfInBounds_toArray, List.set_cons_zero, List.set_cons_succ]
            refine wpAnyH_take (i := 13) (oi := { dst := some 225, op := Go.Op.load 3 (Go.Operand.tmp 224), type := 3, pos := "outright.go:127", after := #[{ on := 12, ground := Go.Ground.data }], guard := none }) (v := .int .i64 kv) rfl (by kernel_rfl) (by kernel_rfl) (by kernel_rfl) (fun _ _ _ h => h) (Or.inl ⟨by rfl, by intro w2 hSw; (try dsimp only at hSw); have y0 := (hSw.cell (lt_of_cell x0)).trans x0; go_simp⟩) hS0 ?_
            try simp only [Act.put, List.setIfInBounds_toArray, List.set_cons_zero, List.set_cons_succ]
            refine wpAnyH_take (i := 14) (oi := { dst := some 226, op := Go.Op.binOp Go.BinOp.neq 3 (Go.Operand.tmp 215) (Go.Operand.tmp 225) 3, type := 4, pos := "outright.go:127", after := #[{ on := 3, ground := Go.Ground.data }, { on := 13, ground := Go.Ground.data }], guard := none }) (v := .bool false) rfl (by kernel_rfl) (by kernel_rfl) (by kernel_rfl) (fun _ _ _ h => h) (Or.inl ⟨by rfl, by intro w2 hSw; (try dsimp only at hSw); go_simp⟩) hS0 ?_
            try simp only [Act.put, List.setIfInBounds_toArray, List.set_cons_zero, List.set_cons_succ]
            refine wpAnyH_done (by kernel_rfl) ?_ _
            clear zHS0 zHS1 zHS2 zHS3 zHT0 zHT1 zHT2
            replace HV := Lib.hid (HV.out.trans (hS0.mono HV.out.size))
            clear hS0
            go_wp2_with fail
            go_roundw
            case rel => exact ⟨q + 1, by omega, by go_num, HV⟩
            case measure => simp [intOf]; omega
          · obtain rfl : n = q := by omega
            clear hlt hq
            clear HKa HKb HIp HIq HS HT B
            go_wp2_with fail
            go_loopw [23] (fun v wr => ∃ q : Nat, q ≤ c ∧ v = .int .i64 (q : Int) ∧ Hid (Below w11.heap.size w11 wr)) (fun v _ => c - (intOf v).toNat)
            case atStart => exact ⟨0, Nat.zero_le _, rfl, HV⟩
            case round =>
              obtain ⟨q, hq, rfl, HV⟩ := hrel
              obtain ⟨w13, rfl⟩ : ∃ v, v = wr := ⟨_, rfl⟩
              have HKa := Lib.hid (KA.out.below HV.out (Nat.le_refl _))
              have HKb := Lib.hid (KB.out.below HV.out (Nat.le_refl _))
              have HIp := Lib.hid (PA.out.below HV.out (Nat.le_refl _))
              have HIq := Lib.hid (QA.out.below HV.out (Nat.le_refl _))
              have HS := Lib.hid ((HV.out.block _ (lt_of_block SB.out)).trans SB.out)
              have HT := Lib.hid ((HV.out.block _ (lt_of_block TB.out)).trans TB.out)
              have B := Lib.hid (BB.out.trans (HV.out.mono BB.out.size))
              have zHS0 : w13.cell? ⟨R, 0, none⟩ = some (.int .i64 (c : Int)) := by rw [cell_row HS.out]; rfl
              have zHS1 : w13.cell? ⟨R, 1, none⟩ = some (.int .i64 (d : Int)) := by rw [cell_row HS.out]; rfl
              have zHS2 : w13.cell? ⟨R, 2, none⟩ = some (.slice A n cap) := by rw [cell_row HS.out]; rfl
              have zHS3 : w13.cell? ⟨R, 3, none⟩ = some (.slice A2 kn kc) := by rw [cell_row HS.out]; rfl
              have zHT0 : w13.cell? ⟨R + 1, 0, none⟩ = some (.int .u8 (s : Int)) := by rw [cell_row HT.out]; rfl
              have zHT1 : w13.cell? ⟨R + 1, 1, none⟩ = some (.int .u8 (t : Int)) := by rw [cell_row HT.out]; rfl
              have zHT2 : w13.cell? ⟨R + 1, 2, none⟩ = some (.int .u8 (u : Int)) := by rw [cell_row HT.out]; rfl
              by_cases hlt : q < c
              · have ht := Ht.out
                obtain ⟨j, hj⟩ : ∃ v, tnN t c q = v := ⟨_, rfl⟩
                have hjn : j < c := by rw [← hj]; exact tn_lt (by omega)
                have hrem : ((q : Int) + (t : Int)).tmod (c : Int) = (j : Int) := by rw [Int.tmod_eq_emod_of_nonneg (by omega), ← hj]; rfl
                have hn0 : ¬ (c : Int) = 0 := by omega
                have i0 : (0 : Int) ≤ (q : Int) := by omega
                have i1 : (q : Int) < (c : Int) := by omega
                have j0 : (0 : Int) ≤ (j : Int) := by omega
                have j1 : (j : Int) < (c : Int) := by omega
                obtain ⟨bA, oA, rfl, hcA⟩ := HIp.out.2 (by omega)
                obtain ⟨bB, oB, rfl, hcB⟩ := HIq.out.2 (by omega)
                have x0 := hcA q hlt
                have x1 := hcB j hjn
                have hpq := Hppq.out q hlt
                rw [hj] at hpq
                rw [hpq] at x1
                obtain ⟨kv, hkv⟩ : ∃ v, iAt pa q = v := ⟨_, rfl⟩
                rw [hkv] at x0 x1
                clear hcA hcB hkv hj hpq
                go_wp2_with fail
                refine wp_region_held_drew (S := fun w2 => Below w13.heap.size w13 w2) (by kernel_rfl) (drew_b _ _) (fun hS0 => ?_)
                refine wpAnyH_take (i := 0) (oi := { dst := some 233, op := Go.Op.move (Go.Operand.tmp 18), type := 23, pos := "outright.go:132", after := #[], guard := none }) (v := .slice (some ⟨bB, oB, none⟩) c cq) rfl (by kernel_rfl) (by kernel_rfl) (by kernel_rfl) (fun _ _ _ h => h) (Or.inl ⟨by rfl, by intro w2 hSw; (try dsimp only at hSw); go_simp⟩) hS0 ?_
                try simp only [Act.put, List.setIfInBounds_toArray, List.set_cons_zero, List.set_cons_succ]
                refine wpAnyH_take (i := 1) (oi := { dst := some 234, op := Go.Op.move (Go.Operand.tmp 23), type := 3, pos := "outright.go:132", after := #[], guard := none }) (v := .int .i64 (q : Int)) rfl (by kernel_rfl) (by kernel_rfl) (by kernel_rfl) (fun _ _ _ h => h) (Or.inl ⟨by rfl, by intro w2 hSw; (try dsimp only at hSw); go_simp⟩) hS0 ?_
                try simp only [Act.put, List.setIfInBounds_toArray, List.set_cons_zero, List.set_cons_succ]
                refine wpAnyH_take (i := 2) (oi := { dst := some 235, op := Go.Op.indexAddr 53 (Go.Operand.tmp 3) (Go.Operand.const (Go.Value.int Go.IntKind.i64 1)), type := 0, pos := "outright.go:132", after := #[], guard := none }) (v := .pointer (some ⟨R + 1, 1, none⟩)) rfl (by kernel_rfl) (by kernel_rfl) (by kernel_rfl) (fun _ _ _ h => h) (Or.inl ⟨by rfl, by intro w2 hSw; (try dsimp only at hSw); go_simp⟩) hS0 ?_
                try simp only [Act.put, List.setIfInBounds_toArray, List.set_cons_zero, List.set_cons_succ]
                refine wpAnyH_take (i := 3) (oi := { dst := some 236, op := Go.Op.load 5 (Go.Operand.tmp 235), type := 5, pos := "outright.go:132", after := #[{ on := 2, ground := Go.Ground.data }], guard := none }) (v := .int .u8 (t : Int)) rfl (by kernel_rfl) (by kernel_rfl) (by kernel_rfl) (fun _ _ _ h => h) (Or.inl ⟨by rfl, by intro w2 hSw; (try dsimp only at hSw); have yHT1 := (hSw.cell (lt_of_cell zHT1)).trans zHT1; go_simp⟩) hS0 ?_
                try simp only [Act.put, List.setIfInBounds_toArray, List.set_cons_zero, List.set_cons_succ]
                refine wpAnyH_take (i := 4) (oi := { dst := some 237, op := Go.Op.convert 5 3 (Go.Operand.tmp 236), type := 3, pos := "outright.go:132", after := #[{ on := 3, ground := Go.Ground.data }], guard := none }) (v := .int .i64 (t : Int)) rfl (by kernel_rfl) (by kernel_rfl) (by kernel_rfl) (fun _ _ _ h => h) (Or.inl ⟨by rfl, by intro w2 hSw; (try dsimp only at hSw); go_simp; exact IntWalk.i64_in _ (by omega)⟩) hS0 ?_
                try simp only [Act.put, List.setIfInBounds_toArray, List.set_cons_zero, List.set_cons_succ]
                refine wpAnyH_take (i := 5) (oi := { dst := some 238, op := Go.Op.binOp Go.BinOp.add 3 (Go.Operand.tmp 234) (Go.Operand.tmp 237) 3, type := 3, pos := "outright.go:132", after := #[{ on := 1, ground := Go.Ground.data }, { on := 4, ground := Go.Ground.data }], guard := none }) (v := .int .i64 ((q : Int) + (t : Int))) rfl (by kernel_rfl) (by kernel_rfl) (by kernel_rfl) (fun _ _ _ h => h) (Or.inl ⟨by rfl, by intro w2 hSw; (try dsimp only at hSw); go_simp; exact IntWalk.i64_in _ (by omega)⟩) hS0 ?_
                try simp only [Act.put, List.setIfInBounds_toArray, List.set_cons_zero, List.set_cons_succ]
                refine wpAnyH_take (i := 6) (oi := { dst := some 239, op := Go.Op.fieldAddr 25 (Go.Operand.tmp 2) 0, type := 0, pos := "outright.go:132", after := #[], guard := none }) (v := .pointer (some ⟨R, 0, none⟩)) rfl (by kernel_rfl) (by kernel_rfl) (by kernel_rfl) (fun _ _ _ h => h) (Or.inl ⟨by rfl, by intro w2 hSw; (try dsimp only at hSw); go_simp⟩) hS0 ?_
                try simp only [Act.put, List.setIfInBounds_toArray, List.set_cons_zero, List.set_cons_succ]
                refine wpAnyH_take (i := 7) (oi := { dst := some 240, op := Go.Op.load 3 (Go.Operand.tmp 239), type := 3, pos := "outright.go:132", after := #[{ on := 6, ground := Go.Ground.data }], guard := none }) (v := .int .i64 (c : Int)) rfl (by kernel_rfl) (by kernel_rfl) (by kernel_rfl) (fun _ _ _ h => h) (Or.inl ⟨by rfl, by intro w2 hSw; (try dsimp only at hSw); have yHS0 := (hSw.cell (lt_of_cell zHS0)).trans zHS0; go_simp⟩) hS0 ?_
                try simp only [Act.put, List.setIfInBounds_toArray, List.set_cons_zero, List.set_cons_succ]
                refine wpAnyH_take (i := 8) (oi := { dst := some 241, op := Go.Op.binOp Go.BinOp.rem 3 (Go.Operand.tmp 238) (Go.Operand.tmp 240) 3, type := 3, pos := "outright.go:132", after := #[{ on := 5, ground := Go.Ground.data }, { on := 7, ground := Go.Ground.data }], guard := none }) (v := .int .i64 (j : Int)) rfl (by kernel_rfl) (by kernel_rfl) (by kernel_rfl) (fun _ _ _ h => h) (Or.inl ⟨by rfl, by intro w2 hSw; (try dsimp only at hSw); go_simp; omega⟩) hS0 ?_
                try simp only [Act.put, List.setIfInBounds_toArray, List.set_cons_zero, List.set_cons_succ]
                refine wpAnyH_take (i := 9) (oi := { dst := some 242, op := Go.Op.indexAddr 23 (Go.Operand.tmp 233) (Go.Operand.tmp 241), type := 0, pos := "outright.go:132", after := #[{ on := 0, ground := Go.Ground.data }, { on := 8, ground := Go.Ground.data }], guard := none }) (v := .pointer (some ⟨bB, oB + j, none⟩)) rfl (by kernel_rfl) (by kernel_rfl) (by kernel_rfl) (fun _ _ _ h => h) (Or.inl ⟨by rfl, by intro w2 hSw; (try dsimp only at hSw); go_simp⟩) hS0 ?_
                try simp only [Act.put, List.setIfInBounds_toArray, List.set_cons_zero, List.set_cons_succ]
                refine wpAnyH_take (i := 10) (oi := { dst := some 243, op := Go.Op.load 3 (Go.Operand.tmp 242), type := 3, pos := "outright.go:132", after := #[{ on := 9, ground := Go.Ground.data }], guard := none }) (v := .int .i64 kv) rfl (by kernel_rfl) (by kernel_rfl) (by kernel_rfl) (fun _ _ _ h => h) (Or.inl ⟨by rfl, by intro w2 hSw; (try dsimp only at hSw); have y1 := (hSw.cell (lt_of_cell x1)).trans x1; go_simp⟩) hS0 ?_
                try simp only [Act.put, List.setIfInBounds_toArray, List.set_cons_zero, List.set_cons_succ]
                refine wpAnyH_take (i := 11) (oi := { dst := some 244, op := Go.Op.move (Go.Operand.tmp 16), type := 23, pos := "outright.go:132", after := #[], guard := none }) (v := .slice (some ⟨bA, oA, none⟩) c cp) rfl (by kernel_rfl) (by kernel_rfl) (by kernel_rfl) (fun _ _ _ h => h) (Or.inl ⟨by rfl, by intro w2 hSw; (try dsimp only at hSw); go_simp⟩) hS0 ?_
                try simp only [Act.put, List.setIfInBounds_toArray, List.set_cons_zero, List.set_cons_succ]
                refine wpAnyH_take (i := 12) (oi := { dst := some 245, op := Go.Op.move (Go.Operand.tmp 23), type := 3, pos := "outright.go:132", after := #[], guard := none }) (v := .int .i64 (q : Int)) rfl (by kernel_rfl) (by kernel_rfl) (by kernel_rfl) (fun _ _ _ h => h) (Or.inl ⟨by rfl, by intro w2 hSw; (try dsimp only at hSw); go_simp⟩) hS0 ?_
                try simp only [Act.put, List.setIfInBounds_toArray, List.set_cons_zero, List.set_cons_succ]
                refine wpAnyH_take (i := 13) (oi := { dst := some 246, op := Go.Op.indexAddr 23 (Go.Operand.tmp 244) (Go.Operand.tmp 245), type := 0, pos := "outright.go:132", after := #[{ on := 11, ground := Go.Ground.data }, { on := 12, ground := Go.Ground.data }], guard := none }) (v := .pointer (some ⟨bA, oA + q, none⟩)) rfl (by kernel_rfl) (by kernel_rfl) (by kernel_rfl) (fun _ _ _ h => h) (Or.inl ⟨by rfl, by intro w2 hSw; (try dsimp only at hSw); go_simp⟩) hS0 ?_
                try simp only [Act.put, List.setIfInBounds_toArray, List.set_cons_zero, List.set_cons_succ]
                refine wpAnyH_take (i := 14) (oi := { dst := some 247, op := Go.Op.load 3 (Go.Operand.tmp 246), type := 3, pos := "outright.go:132", after := #[{ on := 13, ground := Go.Ground.data }], guard := none }) (v := .int .i64 kv) rfl (by kernel_rfl) (by kernel_rfl) (by kernel_rfl) (fun _ _ _ h => h) (Or.inl ⟨by rfl, by intro w2 hSw; (try dsimp only at hSw); have y0 := (hSw.cell (lt_of_cell x0)).trans x0; go_simp⟩) hS0 ?_
                try simp only [Act.put, List.setIfInBounds_toArray, List.set_cons_zero, List.set_cons_succ]
                refine wpAnyH_take (i := 15) (oi := { dst := some 248, op := Go.Op.binOp Go.BinOp.neq 3 (Go.Operand.tmp 243) (Go.Operand.tmp 247) 3, type := 4, pos := "outright.go:132", after := #[{ on := 10, ground := Go.Ground.data }, { on := 14, ground := Go.Ground.data }], guard := none }) (v := .bool false) rfl (by kernel_rfl) (by kernel_rfl) (by kernel_rfl) (fun _ _ _ h => h) (Or.inl ⟨by rfl, by intro w2 hSw; (try dsimp only at hSw); go_simp⟩) hS0 ?_
                try simp only [Act.put, List.setIfInBounds_toArray, List.set_cons_zero, List.set_cons_succ]
                refine wpAnyH_done (by kernel_rfl) ?_ _
                clear zHS0 zHS1 zHS2 zHS3 zHT0 zHT1 zHT2
                replace HV := Lib.hid (HV.out.trans (hS0.mono HV.out.size))
                clear hS0
                go_wp2_with fail
                go_roundw
                case rel => exact ⟨q + 1, by omega, by go_num, HV⟩
                case measure => simp [intOf]; omega
              · obtain rfl : c = q := by omega
                clear hlt hq
                go_wp2_with fail
                clear zHS0 zHS1 zHS2 zHS3 zHT0 zHT1 zHT2
                refine (works15 w13).mono ?_
                rintro en w14 ⟨rfl, hb⟩
                replace B := Lib.hid (B.out.trans (hb.mono B.out.size))
                clear hb
                go_wp2_with fail
                go_ret
                exact ⟨rfl, B.out⟩
end
end Go.Proofs.Ytnodkgejggnehaa
