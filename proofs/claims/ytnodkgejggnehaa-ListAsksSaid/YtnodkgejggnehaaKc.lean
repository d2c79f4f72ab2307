/- Stage 5: the check of a cover, in the program. -/
import Derived.Test.YtnodkgejggnehaaKa
import Derived.Test.YtnodkgejggnehaaCx
import Derived.Test.YtnodkgejggnehaaCv
import Derived.Test.YtnodkgejggnehaaIt
namespace Go.Proofs.Ytnodkgejggnehaa
set_option linter.unusedSimpArgs false
set_option linter.unusedVariables false
open Go.RowKit Go.Shelf
set_option maxRecDepth 100000 in
set_option maxHeartbeats 16000000 in
theorem greatest22_bad (sl sr : Int) (A : Option Addr) (n cap : Nat) (zs : List Rg) (A2 : Option Addr) (kn kc : Nat) (ks : List Int) (w : World) (h : Rgs w A n zs) (hI : Ints w A2 kn ks) (hc9 : n ≤ cap) (hn : n ≤ 1000000) (hk : kn ≤ 100000) (he : chkS sl sr zs ks ≠ 0) :
    Calls Try.prog 22 #[.agg #[.int .i64 sl, .int .i64 sr, .slice A n cap, .slice A2 kn kc]] w fun e w' => e = .returned (.tuple #[.slice none 0 0, .int .i64 (chkS sl sr zs ks)]) ∧ Below w.heap.size w w' := by
  have hb0 := below_alloc_ w (.cells #[.int .i64 sl, .int .i64 sr, .slice A n cap, .slice A2 kn kc] 25)
  have hr0 := heap_alloc_new_ w (.cells #[.int .i64 sl, .int .i64 sr, .slice A n cap, .slice A2 kn kc] 25)
  obtain ⟨w0, hW0⟩ : ∃ w0, w.alloc (.cells #[.int .i64 sl, .int .i64 sr, .slice A n cap, .slice A2 kn kc] 25) = w0 := ⟨_, rfl⟩
  obtain ⟨R, hR⟩ : ∃ R, w.heap.size = R := ⟨_, rfl⟩
  rw [hW0] at hb0 hr0
  have k50 := join50_bad sl sr A n cap zs A2 kn kc ks w0 (h.below hb0 (Nat.le_refl _)) (hI.below hb0 (Nat.le_refl _)) hc9 hn hk he
  rw [hR] at hr0
  have x0 : w0.cell? ⟨R, 0, none⟩ = some (.int .i64 sl) := by rw [cell_row hr0]; rfl
  have x1 : w0.cell? ⟨R, 1, none⟩ = some (.int .i64 sr) := by rw [cell_row hr0]; rfl
  have x2 : w0.cell? ⟨R, 2, none⟩ = some (.slice A n cap) := by rw [cell_row hr0]; rfl
  have x3 : w0.cell? ⟨R, 3, none⟩ = some (.slice A2 kn kc) := by rw [cell_row hr0]; rfl
  have K50 := Lib.hid k50
  have HB := Lib.hid hb0
  have HW0 := Lib.hid hW0
  have HR := Lib.hid hR
  have Hne := Lib.hid he
  clear h hI hb0 hr0 hW0 hR k50
  go_enter Try.func22, Try.ntmps22
  go_wp2_with fail
  try rw [HW0.out]
  try rw [HR.out]
  try go_wp2_with fail
  refine K50.out.mono ?_
  rintro en w1 ⟨rfl, hb1⟩
  have HB1 := Lib.hid (HB.out.trans (hb1.mono HB.out.size))
  clear K50 hb1 x0 x1 x2 x3 he
  have d1 : (chkS sl sr zs ks != 0) = true := by rw [bne_iff_ne]; exact Hne.out
  obtain ⟨q, hq⟩ : ∃ q, chkS sl sr zs ks = q := ⟨_, rfl⟩
  rw [hq] at d1 ⊢
  have Hq := Lib.hid hq
  clear hq
  go_wp2_with fail
  go_ret2
  exact ⟨by rw [Hq.out]; rfl, HB1.out⟩
set_option maxRecDepth 100000 in
set_option maxHeartbeats 16000000 in
theorem greatest22 (sl sr : Int) (A : Option Addr) (n cap : Nat) (zs : List Rg) (A2 : Option Addr) (kn kc : Nat) (ks : List Int) (w : World) (h : Rgs w A n zs) (hI : Ints w A2 kn ks) (hc9 : n ≤ cap) (hn : n ≤ 1000000) (hk : kn ≤ 100000) (he : chkS sl sr zs ks = 0) :
    Calls Try.prog 22 #[.agg #[.int .i64 sl, .int .i64 sr, .slice A n cap, .slice A2 kn kc]] w fun e w' => ∃ Q pt, e = .returned (.tuple #[.slice (some ⟨Q, 0, none⟩) (jI n zs pt).length (jI n zs pt).length, .int .i64 0]) ∧ GB n zs (opnL n zs ks) pt (kNt ks) ∧ w.heap.size ≤ Q ∧ Ints w' (some ⟨Q, 0, none⟩) (jI n zs pt).length (jI n zs pt) ∧ Below w.heap.size w w' := by
  have hb0 := below_alloc_ w (.cells #[.int .i64 sl, .int .i64 sr, .slice A n cap, .slice A2 kn kc] 25)
  have hr0 := heap_alloc_new_ w (.cells #[.int .i64 sl, .int .i64 sr, .slice A n cap, .slice A2 kn kc] 25)
  obtain ⟨w0, hW0⟩ : ∃ w0, w.alloc (.cells #[.int .i64 sl, .int .i64 sr, .slice A n cap, .slice A2 kn kc] 25) = w0 := ⟨_, rfl⟩
  obtain ⟨R, hR⟩ : ∃ R, w.heap.size = R := ⟨_, rfl⟩
  rw [hW0] at hb0 hr0
  have k50 := join50 sl sr A n cap zs A2 kn kc ks w0 (h.below hb0 (Nat.le_refl _)) (hI.below hb0 (Nat.le_refl _)) hc9 hn hk he
  rw [hR] at hr0
  have x0 : w0.cell? ⟨R, 0, none⟩ = some (.int .i64 sl) := by rw [cell_row hr0]; rfl
  have x1 : w0.cell? ⟨R, 1, none⟩ = some (.int .i64 sr) := by rw [cell_row hr0]; rfl
  have x2 : w0.cell? ⟨R, 2, none⟩ = some (.slice A n cap) := by rw [cell_row hr0]; rfl
  have x3 : w0.cell? ⟨R, 3, none⟩ = some (.slice A2 kn kc) := by rw [cell_row hr0]; rfl
  have K50 := Lib.hid k50
  have HB := Lib.hid hb0
  have HW0 := Lib.hid hW0
  have HR := Lib.hid hR
  have hsg := shg_of he
  have hzl := h.1
  have Hsg := Lib.hid hsg
  have Hzl := Lib.hid hzl
  clear hsg hzl he
  clear h hI hb0 hr0 hW0 hR k50
  go_enter Try.func22, Try.ntmps22
  go_wp2_with fail
  try rw [HW0.out]
  try rw [HR.out]
  try go_wp2_with fail
  refine K50.out.mono ?_
  rintro en w1 ⟨B, M, pt, lk, rfl, hB, hM, hb, hm, hgb, hb1⟩
  have hz : ZOk n zs := by rw [← Hzl.out]; exact Hsg.out.zok
  have hn40 : n ≤ 40 := by have := Hsg.out.n40; have := Hzl.out; omega
  obtain ⟨c, hc, hc12⟩ : ∃ c : Nat, sl = (c : Int) ∧ c ≤ 12 := ⟨sl.toNat, by have := Hsg.out.rng; omega, by have := Hsg.out.rng; omega⟩
  have he0 : ∀ k, k < n → eN zs 0 k < c := fun k hk => by have := Hsg.out.e0 k (by rw [Hzl.out]; exact hk); omega
  obtain ⟨d, hd, hd12⟩ : ∃ d : Nat, sr = (d : Int) ∧ d ≤ 12 := ⟨sr.toNat, by have := Hsg.out.rng; omega, by have := Hsg.out.rng; omega⟩
  have he1 : ∀ k, k < n → eN zs 1 k < d := fun k hk => by have := Hsg.out.e1 k (by rw [Hzl.out]; exact hk); omega
  have k51 := joining51 B sl sr A n cap zs A2 kn kc ks pt (opnL n zs ks) (.map (some M)) c d w1 hb hn40 hz hgb.cons hc hd hc12 hd12 he0 he1
  have K51 := Lib.hid k51
  have Hgb := Lib.hid hgb
  have HB1 := Lib.hid (HB.out.trans (hb1.mono HB.out.size))
  clear K50 hb1 x0 x1 x2 x3 hb hm hgb hz hc he0 he1 hd k51 hM hB
  go_wp2_with fail
  refine K51.out.mono ?_
  rintro en w2 ⟨Q, rfl, hQ, hi, hb2⟩
  have HI2 := Lib.hid hi
  have HQ := Lib.hid hQ
  have H2 := Lib.hid (HB1.out.trans (hb2.mono HB1.out.size))
  clear K51 hi hQ hb2
  go_wp2_with fail
  go_ret2
  exact ⟨Q, pt, rfl, Hgb.out, by have := HQ.out; have := HB1.out.size; omega, HI2.out, H2.out⟩
end Go.Proofs.Ytnodkgejggnehaa

namespace Go.Proofs.Ytnodkgejggnehaa
set_option linter.unusedSimpArgs false
set_option linter.unusedVariables false
open Go.RowKit Go.Shelf
theorem co_cv {n : Nat} {zs : List Rg} {ks cl cr : List Int} : ∀ k, k ≤ n → coK zs (opnL n zs ks) cl cr k = cvK zs ks cl cr k
  | 0, _ => rfl
  | k + 1, hk => by
    rw [coK_succ, cvK_succ, co_cv k (by omega)]
    congr 1
    unfold coB cvB opnL
    rw [decide_eq_true (show k < n from by omega), Bool.true_and, Bool.not_not]
set_option maxRecDepth 100000 in
set_option maxHeartbeats 16000000 in
theorem checkCover16_bad (sl sr : Int) (A : Option Addr) (n cap : Nat) (zs : List Rg) (A2 : Option Addr) (kn kc : Nat) (ks : List Int) (CL : Option Addr) (ln lc : Nat) (cl : List Int) (CR : Option Addr) (rn rc : Nat) (cr : List Int) (w : World) (h : Rgs w A n zs) (hI : Ints w A2 kn ks) (hc9 : n ≤ cap) (hL : Ints w CL ln cl) (hR9 : Ints w CR rn cr) (hn : n ≤ 1000000) (hk : kn ≤ 100000) (hl : ln ≤ 100000) (hr : rn ≤ 100000) (he : chkS sl sr zs ks ≠ 0) :
    Calls Try.prog 16 #[.agg #[.int .i64 sl, .int .i64 sr, .slice A n cap, .slice A2 kn kc], .agg #[.slice CL ln lc, .slice CR rn rc]] w fun e w' => e = .returned (.tuple #[.int .i64 (szC sl sr zs ks cl cr), .int .i64 (chkC sl sr zs ks cl cr)]) ∧ Below w.heap.size w w' := by
  have hb0 := below_alloc_ w (.cells #[.int .i64 sl, .int .i64 sr, .slice A n cap, .slice A2 kn kc] 25)
  have hr0 := heap_alloc_new_ w (.cells #[.int .i64 sl, .int .i64 sr, .slice A n cap, .slice A2 kn kc] 25)
  have hs0 : (w.alloc (.cells #[.int .i64 sl, .int .i64 sr, .slice A n cap, .slice A2 kn kc] 25)).heap.size = w.heap.size + 1 := by simp
  obtain ⟨w0, hW0⟩ : ∃ w0, w.alloc (.cells #[.int .i64 sl, .int .i64 sr, .slice A n cap, .slice A2 kn kc] 25) = w0 := ⟨_, rfl⟩
  rw [hW0] at hb0 hr0 hs0
  have hb2 := below_alloc_ w0 (.cells #[.slice CL ln lc, .slice CR rn rc] 27)
  have hr2 := heap_alloc_new_ w0 (.cells #[.slice CL ln lc, .slice CR rn rc] 27)
  obtain ⟨w2, hW2⟩ : ∃ w2, w0.alloc (.cells #[.slice CL ln lc, .slice CR rn rc] 27) = w2 := ⟨_, rfl⟩
  rw [hW2] at hb2 hr2
  obtain ⟨R, hR⟩ : ∃ R, w.heap.size = R := ⟨_, rfl⟩
  have hbb : Below w.heap.size w w2 := hb0.trans (hb2.mono hb0.size)
  replace hr0 := (hb2.block _ (lt_of_block hr0)).trans hr0
  rw [hs0] at hr2
  rw [hR] at hr0 hr2
  have hRs : R ≤ w.heap.size := by omega
  have h' := h.below hbb (Nat.le_refl _)
  have hI' := hI.below hbb (Nat.le_refl _)
  have hL' := hL.below hbb (Nat.le_refl _)
  have hR9' := hR9.below hbb (Nat.le_refl _)
  have x0 : w2.cell? ⟨R, 0, none⟩ = some (.int .i64 sl) := by rw [cell_row hr0]; rfl
  have x1 : w2.cell? ⟨R, 1, none⟩ = some (.int .i64 sr) := by rw [cell_row hr0]; rfl
  have x2 : w2.cell? ⟨R, 2, none⟩ = some (.slice A n cap) := by rw [cell_row hr0]; rfl
  have x3 : w2.cell? ⟨R, 3, none⟩ = some (.slice A2 kn kc) := by rw [cell_row hr0]; rfl
  have y0 : w2.cell? ⟨R + 1, 0, none⟩ = some (.slice CL ln lc) := by rw [cell_row hr2]; rfl
  have y1 : w2.cell? ⟨R + 1, 1, none⟩ = some (.slice CR rn rc) := by rw [cell_row hr2]; rfl
  have k40 := lay40_bad sl sr A n cap zs A2 kn kc ks w2 h' hI' hc9 hn hk he
  have K40 := Lib.hid k40
  have HB := Lib.hid hbb
  have HW0 := Lib.hid hW0
  have HW2 := Lib.hid hW2
  have HR := Lib.hid hR
  have Hne := Lib.hid he
  clear h hI hb0 hr0 hW0 hR k40 hs0 hb2 hr2 hW2 hRs h' hI' hL' hR9' hL hR9 hbb he
  go_enter Try.func16, Try.ntmps16
  go_wp2_with fail
  try rw [HW0.out]
  try rw [HW2.out]
  try rw [HR.out]
  try go_wp2_with fail
  refine K40.out.mono ?_
  rintro en w1 ⟨rfl, hb1⟩
  have HB1 := Lib.hid (HB.out.trans (hb1.mono HB.out.size))
  clear K40 hb1 x0 x1 x2 x3 y0 y1
  have d1 : (chkS sl sr zs ks != 0) = true := by rw [bne_iff_ne]; exact Hne.out
  obtain ⟨q, hq⟩ : ∃ q, chkS sl sr zs ks = q := ⟨_, rfl⟩
  have HA := Lib.hid (chc_c (cl := cl) (cr := cr) rfl Hne.out)
  rw [hq] at d1 HA ⊢
  have Hq := Lib.hid (show q ≠ 0 by rw [← hq]; exact Hne.out)
  clear hq Hne
  go_wp2_with fail
  go_ret2
  exact ⟨ret_two (szc_no HA.out Hq.out).symm HA.out.symm, HB1.out⟩
set_option maxRecDepth 100000 in
set_option maxHeartbeats 16000000 in
theorem checkCover16_ok (sl sr : Int) (A : Option Addr) (n cap : Nat) (zs : List Rg) (A2 : Option Addr) (kn kc : Nat) (ks : List Int) (CL : Option Addr) (ln lc : Nat) (cl : List Int) (CR : Option Addr) (rn rc : Nat) (cr : List Int) (w : World) (h : Rgs w A n zs) (hI : Ints w A2 kn ks) (hc9 : n ≤ cap) (hL : Ints w CL ln cl) (hR9 : Ints w CR rn cr) (hn : n ≤ 1000000) (hk : kn ≤ 100000) (hl : ln ≤ 100000) (hr : rn ≤ 100000) (he : chkS sl sr zs ks = 0) :
    Calls Try.prog 16 #[.agg #[.int .i64 sl, .int .i64 sr, .slice A n cap, .slice A2 kn kc], .agg #[.slice CL ln lc, .slice CR rn rc]] w fun e w' => e = .returned (.tuple #[.int .i64 (szC sl sr zs ks cl cr), .int .i64 (chkC sl sr zs ks cl cr)]) ∧ Below w.heap.size w w' := by
  have hb0 := below_alloc_ w (.cells #[.int .i64 sl, .int .i64 sr, .slice A n cap, .slice A2 kn kc] 25)
  have hr0 := heap_alloc_new_ w (.cells #[.int .i64 sl, .int .i64 sr, .slice A n cap, .slice A2 kn kc] 25)
  have hs0 : (w.alloc (.cells #[.int .i64 sl, .int .i64 sr, .slice A n cap, .slice A2 kn kc] 25)).heap.size = w.heap.size + 1 := by simp
  obtain ⟨w0, hW0⟩ : ∃ w0, w.alloc (.cells #[.int .i64 sl, .int .i64 sr, .slice A n cap, .slice A2 kn kc] 25) = w0 := ⟨_, rfl⟩
  rw [hW0] at hb0 hr0 hs0
  have hb2 := below_alloc_ w0 (.cells #[.slice CL ln lc, .slice CR rn rc] 27)
  have hr2 := heap_alloc_new_ w0 (.cells #[.slice CL ln lc, .slice CR rn rc] 27)
  obtain ⟨w2, hW2⟩ : ∃ w2, w0.alloc (.cells #[.slice CL ln lc, .slice CR rn rc] 27) = w2 := ⟨_, rfl⟩
  rw [hW2] at hb2 hr2
  obtain ⟨R, hR⟩ : ∃ R, w.heap.size = R := ⟨_, rfl⟩
  have hbb : Below w.heap.size w w2 := hb0.trans (hb2.mono hb0.size)
  replace hr0 := (hb2.block _ (lt_of_block hr0)).trans hr0
  rw [hs0] at hr2
  rw [hR] at hr0 hr2
  have hRs : R ≤ w.heap.size := by omega
  have h' := h.below hbb (Nat.le_refl _)
  have hI' := hI.below hbb (Nat.le_refl _)
  have hL' := hL.below hbb (Nat.le_refl _)
  have hR9' := hR9.below hbb (Nat.le_refl _)
  have x0 : w2.cell? ⟨R, 0, none⟩ = some (.int .i64 sl) := by rw [cell_row hr0]; rfl
  have x1 : w2.cell? ⟨R, 1, none⟩ = some (.int .i64 sr) := by rw [cell_row hr0]; rfl
  have x2 : w2.cell? ⟨R, 2, none⟩ = some (.slice A n cap) := by rw [cell_row hr0]; rfl
  have x3 : w2.cell? ⟨R, 3, none⟩ = some (.slice A2 kn kc) := by rw [cell_row hr0]; rfl
  have y0 : w2.cell? ⟨R + 1, 0, none⟩ = some (.slice CL ln lc) := by rw [cell_row hr2]; rfl
  have y1 : w2.cell? ⟨R + 1, 1, none⟩ = some (.slice CR rn rc) := by rw [cell_row hr2]; rfl
  have k40 := lay40 sl sr A n cap zs A2 kn kc ks w2 h' hI' hc9 hn hk he
  have K40 := Lib.hid k40
  have HB := Lib.hid hbb
  have HW0 := Lib.hid hW0
  have HW2 := Lib.hid hW2
  have HR := Lib.hid hR
  have HL := Lib.hid hL'
  have HR9 := Lib.hid hR9'
  have Hr0 := Lib.hid hr0
  have Hr2 := Lib.hid hr2
  have Hc := Lib.hid he
  have hll := hL.1
  have hrl := hR9.1
  have hzl := h.1
  have hkl := hI.1
  have hsg := (shg_of he).n40
  have hn40 : n ≤ 40 := by omega
  have Hll := Lib.hid hll
  have Hrl := Lib.hid hrl
  have Hzl := Lib.hid hzl
  have Hkl := Lib.hid hkl
  clear h hI hb0 hr0 hW0 hR k40 hs0 hb2 hr2 hW2 hRs h' hI' hL' hR9' hL hR9 hbb hll hrl hzl hkl hsg he
  go_enter Try.func16, Try.ntmps16
  go_wp2_with fail
  try rw [HW0.out]
  try rw [HW2.out]
  try rw [HR.out]
  try go_wp2_with fail
  refine K40.out.mono ?_
  rintro en w1 ⟨B, M, pt, rfl, hB, hM, hb, hm, hl2, hb1⟩
  have hr1 := (hb1.block _ (lt_of_block Hr0.out)).trans Hr0.out
  have hr3 := (hb1.block _ (lt_of_block Hr2.out)).trans Hr2.out
  have Hbrd := Lib.hid hb
  have HL1 := Lib.hid (HL.out.below hb1 (Nat.le_refl _))
  have HR1 := Lib.hid (HR9.out.below hb1 (Nat.le_refl _))
  have HB1 := Lib.hid (HB.out.trans (hb1.mono HB.out.size))
  clear x0 x1 x2 x3 y0 y1 K40
  have x0 : w1.cell? ⟨R, 0, none⟩ = some (.int .i64 sl) := by rw [cell_row hr1]; rfl
  have x1 : w1.cell? ⟨R, 1, none⟩ = some (.int .i64 sr) := by rw [cell_row hr1]; rfl
  have x2 : w1.cell? ⟨R, 2, none⟩ = some (.slice A n cap) := by rw [cell_row hr1]; rfl
  have x3 : w1.cell? ⟨R, 3, none⟩ = some (.slice A2 kn kc) := by rw [cell_row hr1]; rfl
  have y0 : w1.cell? ⟨R + 1, 0, none⟩ = some (.slice CL ln lc) := by rw [cell_row hr3]; rfl
  have y1 : w1.cell? ⟨R + 1, 1, none⟩ = some (.slice CR rn rc) := by rw [cell_row hr3]; rfl
  have Hr1 := Lib.hid hr1
  have Hr3 := Lib.hid hr3
  clear hb hm hl2 hb1 hr1 hr3 hB hM
  obtain ⟨a1, ha1⟩ : ∃ a, risI sl cl = a := ⟨_, rfl⟩
  obtain ⟨a2, ha2⟩ : ∃ a, risI sr cr = a := ⟨_, rfl⟩
  have K1 := Lib.hid (show _ from indexes41 CL ln lc cl sl w1 HL1.out (by omega))
  have K2 := Lib.hid (show _ from indexes41 CR rn rc cr sr w1 HR1.out (by omega))
  have K3 := Lib.hid (show _ from covered42 B sl sr A n cap zs A2 kn kc ks pt (opnL n zs ks) (.map (some M)) CL ln lc cl CR rn rc cr w1 Hbrd.out HL1.out HR1.out hn40 hl hr)
  rw [co_cv n (Nat.le_refl n), ← Hzl.out] at K3
  rw [ha1] at K1
  rw [ha2] at K2
  obtain ⟨a3, ha3⟩ : ∃ a, cvK zs ks cl cr zs.length = a := ⟨_, rfl⟩
  rw [ha3] at K3
  have Ha1 := Lib.hid ha1
  have Ha2 := Lib.hid ha2
  have Ha3 := Lib.hid ha3
  clear ha1 ha2 ha3 HL1 HR1 Hbrd HB HL HR9
  go_wp2_with fail
  refine K1.out.mono ?_
  rintro en w3 ⟨rfl, rfl⟩
  rcases a1 with _ | _
  · have HA := Lib.hid (chc_3 (cl := cl) (cr := cr) Hc.out (by rw [Ha1.out]; rfl))
    go_wp2_with fail
    go_ret2
    exact ⟨ret_two (szc_no HA.out (by omega)).symm HA.out.symm, HB1.out⟩
  · go_wp2_with fail
    refine K2.out.mono ?_
    rintro en w4 ⟨rfl, hw4⟩
    subst hw4
    rcases a2 with _ | _
    · have HA := Lib.hid (chc_3 (cl := cl) (cr := cr) Hc.out (by rw [Ha1.out, Ha2.out]; rfl))
      go_wp2_with fail
      go_ret2
      exact ⟨ret_two (szc_no HA.out (by omega)).symm HA.out.symm, HB1.out⟩
    · have Hri := Lib.hid (show (risI sl cl && risI sr cr) = true by rw [Ha1.out, Ha2.out]; rfl)
      go_wp2_with fail
      refine K3.out.mono ?_
      rintro en w5 ⟨rfl, hb5⟩
      have HB5 := Lib.hid (HB1.out.trans (hb5.mono HB1.out.size))
      have hr5 := (hb5.block _ (lt_of_block Hr1.out)).trans Hr1.out
      have hr6 := (hb5.block _ (lt_of_block Hr3.out)).trans Hr3.out
      clear x0 x1 x2 x3 y0 y1 hb5
      have x0 : w5.cell? ⟨R, 0, none⟩ = some (.int .i64 sl) := by rw [cell_row hr5]; rfl
      have x1 : w5.cell? ⟨R, 1, none⟩ = some (.int .i64 sr) := by rw [cell_row hr5]; rfl
      have x2 : w5.cell? ⟨R, 2, none⟩ = some (.slice A n cap) := by rw [cell_row hr5]; rfl
      have x3 : w5.cell? ⟨R, 3, none⟩ = some (.slice A2 kn kc) := by rw [cell_row hr5]; rfl
      have y0 : w5.cell? ⟨R + 1, 0, none⟩ = some (.slice CL ln lc) := by rw [cell_row hr6]; rfl
      have y1 : w5.cell? ⟨R + 1, 1, none⟩ = some (.slice CR rn rc) := by rw [cell_row hr6]; rfl
      clear hr5 hr6
      rcases a3 with _ | _
      · have HA := Lib.hid (chc_14 (cl := cl) (cr := cr) Hc.out Hri.out Ha3.out)
        go_wp2_with fail
        go_ret2
        exact ⟨ret_two (szc_no HA.out (by omega)).symm HA.out.symm, HB5.out⟩
      · have HA := Lib.hid (chc_0 (cl := cl) (cr := cr) Hc.out Hri.out Ha3.out)
        go_wp2_with fail
        go_ret2
        exact ⟨ret_two (by rw [szc_0 HA.out, Hll.out, Hrl.out, Hkl.out]) HA.out.symm, HB5.out⟩
end Go.Proofs.Ytnodkgejggnehaa
