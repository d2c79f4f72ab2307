/- Stage 5: Kind and has, of the document. -/
import Derived.Test.YtnodkgejggnehaaZe
import Derived.Test.YtnodkgejggnehaaKx
import Derived.Test.YtnodkgejggnehaaKw
import Derived.Test.YtnodkgejggnehaaWu
import Derived.Test.YtnodkgejggnehaaMn
import Derived.Test.YtnodkgejggnehaaMw
import Derived.Test.YtnodkgejggnehaaMv
namespace Go.Proofs.Ytnodkgejggnehaa
set_option linter.unusedSimpArgs false
set_option linter.unusedVariables false
open Go.RowKit Go.Shelf
section
variable {sl sr : Int} {n k : Nat} {zs : List Rg} {ks : List Int}
theorem siz_knw (he : chkS sl sr zs ks = 0) (hn : zs.length = n) (hk : k < n) : siz n zs (knwL (k : Int) ks) = sizeF n zs (opW n zs (opnL n zs ks) k) (ks.length + 1) := kw_size (shn_of he hn).z hk
theorem siz_wo (he : chkS sl sr zs ks = 0) (hn : zs.length = n) (hk : k < n) (hin : (k : Int) ∉ ks) : siz (n - 1) (wzP k zs n) (wkP k ks ks.length) = sizeF n zs (opX (opnL n zs ks) [(k : Int)]) ks.length := by
  have := wz_mm (zs := zs) (shn_of he hn).nm hk hin
  unfold siz sizeF
  rw [this, wkP_len]
theorem siz_def : siz n zs ks = sizeF n zs (opnL n zs ks) ks.length := rfl
theorem dk_in (h : (k : Int) ∈ ks) : docK n zs ks k = 2 := by unfold docK; rw [if_pos h]
theorem dk_tk (h : (k : Int) ∉ ks) (ht : tkB zs ks k = true) : docK n zs ks k = 0 := by unfold docK; rw [if_neg h, if_pos (by rw [ht]; rfl)]
theorem dk_kw (he : chkS sl sr zs ks = 0) (hn : zs.length = n) (hk : k < n) (h : (k : Int) ∉ ks) (hs : siz n zs (knwL (k : Int) ks) < siz n zs ks) : docK n zs ks k = 0 := by
  rw [siz_knw he hn hk, siz_def] at hs
  unfold docK; rw [if_neg h, if_pos (by rw [decide_eq_true (show _ < _ from hs)]; simp)]
theorem dk_wo (he : chkS sl sr zs ks = 0) (hn : zs.length = n) (hk : k < n) (h : (k : Int) ∉ ks) (ht : tkB zs ks k = false) (hs : ¬ siz n zs (knwL (k : Int) ks) < siz n zs ks) (h2 : siz (n - 1) (wzP k zs n) (wkP k ks ks.length) < siz n zs ks) : docK n zs ks k = 2 := by
  rw [siz_knw he hn hk, siz_def] at hs
  rw [siz_wo he hn hk h, siz_def] at h2
  unfold docK; rw [if_neg h, if_neg (by rw [ht, decide_eq_false (show ¬ _ < _ from hs)]; simp), if_pos (show _ < _ from h2)]
theorem dk_may (he : chkS sl sr zs ks = 0) (hn : zs.length = n) (hk : k < n) (h : (k : Int) ∉ ks) (ht : tkB zs ks k = false) (hs : ¬ siz n zs (knwL (k : Int) ks) < siz n zs ks) (h2 : ¬ siz (n - 1) (wzP k zs n) (wkP k ks ks.length) < siz n zs ks) : docK n zs ks k = 1 := by
  rw [siz_knw he hn hk, siz_def] at hs
  rw [siz_wo he hn hk h, siz_def] at h2
  unfold docK; rw [if_neg h, if_neg (by rw [ht, decide_eq_false (show ¬ _ < _ from hs)]; simp), if_neg (show ¬ _ < _ from h2)]
end
section
attribute [local go_sem ↓] exec_app at_app
attribute [local go_sem] Oper.semAt_some
set_option maxRecDepth 100000 in
set_option maxHeartbeats 40000000 in
theorem kind54 (sl sr : Int) (A : Option Addr) (n cap : Nat) (zs : List Rg) (A2 : Option Addr) (kn kc : Nat) (ks : List Int) (k : Nat) (w : World) (h : Rgs w A n zs) (hI : Ints w A2 kn ks) (hkn : k < n) (hk : kn ≤ 1000) (he : chkS sl sr zs ks = 0) :
    Calls Try.prog 54 #[.agg #[.int .i64 sl, .int .i64 sr, .slice A n cap, .slice A2 kn kc], .int .i64 (k : Int)] w fun e w' => e = .returned (.int .i64 (kindS n zs (opnL n zs ks) (kNt ks) k)) ∧ Below w.heap.size w w' := by
  have hzl := h.1
  have hkl := hI.1
  have H := shn_of he hzl
  have Hin := Lib.hid (show ∀ j, j < kn → 0 ≤ iAt ks j ∧ iAt ks j < (n : Int) from fun j hj => by
    have hm : iAt ks j ∈ ks := by rw [iAt_eq (by omega)]; exact List.getElem_mem _
    obtain ⟨k, h1, h2⟩ := H.nm _ hm
    omega)
  have hn40 : n ≤ 40 := by rw [← hzl]; exact (shg_of he).n40
  rw [kind_doc H.z H.nm hkn]
  have Hn := Lib.hid hn40
  have He := Lib.hid he
  have Hzl := Lib.hid hzl
  have Hkl := Lib.hid hkl
  have Hk := Lib.hid hk
  have Hkn := Lib.hid hkn
  clear H he hzl hkl hn40 hk hkn
  obtain ⟨R, hR⟩ : ∃ v, w.heap.size = v := ⟨_, rfl⟩
  have hb0 := below_alloc_ w (.cells #[.int .i64 sl, .int .i64 sr, .slice A n cap, .slice A2 kn kc] 25)
  have hr0 := heap_alloc_new_ w (.cells #[.int .i64 sl, .int .i64 sr, .slice A n cap, .slice A2 kn kc] 25)
  have hz0 : (w.alloc (.cells #[.int .i64 sl, .int .i64 sr, .slice A n cap, .slice A2 kn kc] 25)).heap.size = w.heap.size + 1 := by simp
  obtain ⟨w0, hw0⟩ : ∃ v, w.alloc (.cells #[.int .i64 sl, .int .i64 sr, .slice A n cap, .slice A2 kn kc] 25) = v := ⟨_, rfl⟩
  rw [hw0] at hb0 hr0 hz0
  rw [hR] at hr0 hz0
  have hB := hb0
  have X := Lib.hid (h.below hB (Nat.le_refl _))
  have XI := Lib.hid (hI.below hB (Nat.le_refl _))
  have HS := Lib.hid hr0
  have HW0 := Lib.hid hw0
  have B := Lib.hid hB
  have HR := Lib.hid hR
  clear hB hR hb0 hr0 hz0 hw0 h hI
  have zHS0 : w0.cell? ⟨R, 0, none⟩ = some (.int .i64 sl) := by rw [cell_row HS.out]; rfl
  have zHS1 : w0.cell? ⟨R, 1, none⟩ = some (.int .i64 sr) := by rw [cell_row HS.out]; rfl
  have zHS2 : w0.cell? ⟨R, 2, none⟩ = some (.slice A n cap) := by rw [cell_row HS.out]; rfl
  have zHS3 : w0.cell? ⟨R, 3, none⟩ = some (.slice A2 kn kc) := by rw [cell_row HS.out]; rfl
  go_enter Try.func54, Try.ntmps54
  go_wp2_with fail
  try rw [HW0.out]
  try rw [HR.out]
  try simp only [Nat.add_assoc, Nat.reduceAdd]
  try go_wp2_with fail
  clear zHS0 zHS1 zHS2 zHS3
  refine (in34 A2 kn kc ks (k : Int) w0 XI.out (by have := Hk.out; omega)).mono ?_
  rintro en w9 ⟨rfl, e9⟩
  obtain rfl : w0 = w9 := e9.symm
  clear e9
  by_cases hin : (k : Int) ∈ ks
  · rw [decide_eq_true hin]
    have zHS0 : w0.cell? ⟨R, 0, none⟩ = some (.int .i64 sl) := by rw [cell_row HS.out]; rfl
    have zHS1 : w0.cell? ⟨R, 1, none⟩ = some (.int .i64 sr) := by rw [cell_row HS.out]; rfl
    have zHS2 : w0.cell? ⟨R, 2, none⟩ = some (.slice A n cap) := by rw [cell_row HS.out]; rfl
    have zHS3 : w0.cell? ⟨R, 3, none⟩ = some (.slice A2 kn kc) := by rw [cell_row HS.out]; rfl
    go_wp2_with fail
    clear zHS0 zHS1 zHS2 zHS3
    go_ret
    exact ⟨by rw [dk_in hin]; rfl, B.out⟩
  rw [decide_eq_false hin]
  have zHS0 : w0.cell? ⟨R, 0, none⟩ = some (.int .i64 sl) := by rw [cell_row HS.out]; rfl
  have zHS1 : w0.cell? ⟨R, 1, none⟩ = some (.int .i64 sr) := by rw [cell_row HS.out]; rfl
  have zHS2 : w0.cell? ⟨R, 2, none⟩ = some (.slice A n cap) := by rw [cell_row HS.out]; rfl
  have zHS3 : w0.cell? ⟨R, 3, none⟩ = some (.slice A2 kn kc) := by rw [cell_row HS.out]; rfl
  go_wp2_with fail
  clear zHS0 zHS1 zHS2 zHS3
  refine (size24 sl sr A n cap zs A2 kn kc ks w0 X.out XI.out (by have := Hk.out; omega) He.out).mono ?_
  rintro en w1 ⟨rfl, hb⟩
  replace X := Lib.hid (X.out.below hb (Nat.le_refl _))
  replace XI := Lib.hid (XI.out.below hb (Nat.le_refl _))
  replace HS := Lib.hid ((hb.block _ (lt_of_block HS.out)).trans HS.out)
  replace B := Lib.hid (B.out.trans (hb.mono B.out.size))
  obtain ⟨sN, hsN⟩ : ∃ v, siz n zs ks = v := ⟨_, rfl⟩
  rw [hsN]
  have HsN := Lib.hid hsN
  clear hsN
  try clear hb
  have zHS0 : w1.cell? ⟨R, 0, none⟩ = some (.int .i64 sl) := by rw [cell_row HS.out]; rfl
  have zHS1 : w1.cell? ⟨R, 1, none⟩ = some (.int .i64 sr) := by rw [cell_row HS.out]; rfl
  have zHS2 : w1.cell? ⟨R, 2, none⟩ = some (.slice A n cap) := by rw [cell_row HS.out]; rfl
  have zHS3 : w1.cell? ⟨R, 3, none⟩ = some (.slice A2 kn kc) := by rw [cell_row HS.out]; rfl
  go_wp2_with fail
  clear zHS0 zHS1 zHS2 zHS3
  refine (taken44 sl sr A n cap zs A2 kn kc ks k w1 X.out XI.out Hin.out Hkn.out (by have := Hn.out; omega) (by have := Hk.out; omega)).mono ?_
  rintro en w2 ⟨rfl, hb⟩
  replace X := Lib.hid (X.out.below hb (Nat.le_refl _))
  replace XI := Lib.hid (XI.out.below hb (Nat.le_refl _))
  replace HS := Lib.hid ((hb.block _ (lt_of_block HS.out)).trans HS.out)
  replace B := Lib.hid (B.out.trans (hb.mono B.out.size))
  cases htk : tkB zs ks k
  rotate_left
  try clear hb
  · have zHS0 : w2.cell? ⟨R, 0, none⟩ = some (.int .i64 sl) := by rw [cell_row HS.out]; rfl
    have zHS1 : w2.cell? ⟨R, 1, none⟩ = some (.int .i64 sr) := by rw [cell_row HS.out]; rfl
    have zHS2 : w2.cell? ⟨R, 2, none⟩ = some (.slice A n cap) := by rw [cell_row HS.out]; rfl
    have zHS3 : w2.cell? ⟨R, 3, none⟩ = some (.slice A2 kn kc) := by rw [cell_row HS.out]; rfl
    go_wp2_with fail
    clear zHS0 zHS1 zHS2 zHS3
    go_ret
    exact ⟨by rw [dk_tk hin htk]; rfl, B.out⟩
  have zHS0 : w2.cell? ⟨R, 0, none⟩ = some (.int .i64 sl) := by rw [cell_row HS.out]; rfl
  have zHS1 : w2.cell? ⟨R, 1, none⟩ = some (.int .i64 sr) := by rw [cell_row HS.out]; rfl
  have zHS2 : w2.cell? ⟨R, 2, none⟩ = some (.slice A n cap) := by rw [cell_row HS.out]; rfl
  have zHS3 : w2.cell? ⟨R, 3, none⟩ = some (.slice A2 kn kc) := by rw [cell_row HS.out]; rfl
  go_wp2_with fail
  clear zHS0 zHS1 zHS2 zHS3
  refine (knowing35 sl sr A n cap zs A2 kn kc ks (k : Int) w2 XI.out Hk.out).mono ?_
  rintro en w3 ⟨C, c, rfl, -, hi2, -, hb⟩
  replace X := Lib.hid (X.out.below hb (Nat.le_refl _))
  replace XI := Lib.hid (XI.out.below hb (Nat.le_refl _))
  replace HS := Lib.hid ((hb.block _ (lt_of_block HS.out)).trans HS.out)
  replace B := Lib.hid (B.out.trans (hb.mono B.out.size))
  have HK := Lib.hid hi2
  have hop : opnL n zs ks k = true := by unfold opnL; rw [decide_eq_true Hkn.out, htk]; rfl
  have Hch := Lib.hid (knw_chk He.out Hzl.out Hkn.out hop)
  clear hi2 hop
  try clear hb
  have zHS0 : w3.cell? ⟨R, 0, none⟩ = some (.int .i64 sl) := by rw [cell_row HS.out]; rfl
  have zHS1 : w3.cell? ⟨R, 1, none⟩ = some (.int .i64 sr) := by rw [cell_row HS.out]; rfl
  have zHS2 : w3.cell? ⟨R, 2, none⟩ = some (.slice A n cap) := by rw [cell_row HS.out]; rfl
  have zHS3 : w3.cell? ⟨R, 3, none⟩ = some (.slice A2 kn kc) := by rw [cell_row HS.out]; rfl
  go_wp2_with fail
  clear zHS0 zHS1 zHS2 zHS3
  refine (size24 sl sr A n cap zs C (kn + 1) c (knwL (k : Int) ks) w3 X.out HK.out (by have := Hk.out; omega) Hch.out).mono ?_
  rintro en w4 ⟨rfl, hb⟩
  replace X := Lib.hid (X.out.below hb (Nat.le_refl _))
  replace XI := Lib.hid (XI.out.below hb (Nat.le_refl _))
  replace HK := Lib.hid (HK.out.below hb (Nat.le_refl _))
  replace HS := Lib.hid ((hb.block _ (lt_of_block HS.out)).trans HS.out)
  replace B := Lib.hid (B.out.trans (hb.mono B.out.size))
  obtain ⟨s1, hs1⟩ : ∃ v, siz n zs (knwL (k : Int) ks) = v := ⟨_, rfl⟩
  rw [hs1]
  have Hs1 := Lib.hid hs1
  clear hs1
  try clear hb
  clear HK Hch
  by_cases hlt : s1 < sN
  · have d1 : (s1 : Int) < (sN : Int) := by omega
    have zHS0 : w4.cell? ⟨R, 0, none⟩ = some (.int .i64 sl) := by rw [cell_row HS.out]; rfl
    have zHS1 : w4.cell? ⟨R, 1, none⟩ = some (.int .i64 sr) := by rw [cell_row HS.out]; rfl
    have zHS2 : w4.cell? ⟨R, 2, none⟩ = some (.slice A n cap) := by rw [cell_row HS.out]; rfl
    have zHS3 : w4.cell? ⟨R, 3, none⟩ = some (.slice A2 kn kc) := by rw [cell_row HS.out]; rfl
    go_wp2_with fail
    clear zHS0 zHS1 zHS2 zHS3
    go_ret
    exact ⟨by rw [dk_kw He.out Hzl.out Hkn.out hin (by rw [Hs1.out, HsN.out]; exact hlt)]; rfl, B.out⟩
  have d1 : ¬ (s1 : Int) < (sN : Int) := by omega
  have Hns := Lib.hid (show ¬ siz n zs (knwL (k : Int) ks) < siz n zs ks by rw [Hs1.out, HsN.out]; exact hlt)
  have zHS0 : w4.cell? ⟨R, 0, none⟩ = some (.int .i64 sl) := by rw [cell_row HS.out]; rfl
  have zHS1 : w4.cell? ⟨R, 1, none⟩ = some (.int .i64 sr) := by rw [cell_row HS.out]; rfl
  have zHS2 : w4.cell? ⟨R, 2, none⟩ = some (.slice A n cap) := by rw [cell_row HS.out]; rfl
  have zHS3 : w4.cell? ⟨R, 3, none⟩ = some (.slice A2 kn kc) := by rw [cell_row HS.out]; rfl
  go_wp2_with fail
  clear zHS0 zHS1 zHS2 zHS3
  clear d1 hlt Hs1
  refine (without36 sl sr A n cap zs A2 kn kc ks k w4 X.out XI.out (by have := Hn.out; omega) Hk.out (fun q hq => by have := Hin.out q hq; have := Hn.out; omega)).mono ?_
  rintro en w5 ⟨C2, c2, C3, c3, rfl, -, -, hr2, hi2, hb⟩
  replace X := Lib.hid (X.out.below hb (Nat.le_refl _))
  replace XI := Lib.hid (XI.out.below hb (Nat.le_refl _))
  replace HS := Lib.hid ((hb.block _ (lt_of_block HS.out)).trans HS.out)
  replace B := Lib.hid (B.out.trans (hb.mono B.out.size))
  have hl := wzP_lenE zs Hkn.out
  rw [hl] at hr2 ⊢
  have HK := Lib.hid hi2
  have HR2 := Lib.hid hr2
  have hch := wo_chk He.out Hzl.out Hkn.out hin
  rw [Hkl.out] at hch
  have Hch := Lib.hid hch
  clear hi2 hr2 hch hl
  try clear hb
  have zHS0 : w5.cell? ⟨R, 0, none⟩ = some (.int .i64 sl) := by rw [cell_row HS.out]; rfl
  have zHS1 : w5.cell? ⟨R, 1, none⟩ = some (.int .i64 sr) := by rw [cell_row HS.out]; rfl
  have zHS2 : w5.cell? ⟨R, 2, none⟩ = some (.slice A n cap) := by rw [cell_row HS.out]; rfl
  have zHS3 : w5.cell? ⟨R, 3, none⟩ = some (.slice A2 kn kc) := by rw [cell_row HS.out]; rfl
  go_wp2_with fail
  clear zHS0 zHS1 zHS2 zHS3
  refine (size24 sl sr C2 (n - 1) c2 (wzP k zs n) C3 kn c3 (wkP k ks kn) w5 HR2.out HK.out (by have := Hk.out; omega) Hch.out).mono ?_
  rintro en w6 ⟨rfl, hb⟩
  replace X := Lib.hid (X.out.below hb (Nat.le_refl _))
  replace XI := Lib.hid (XI.out.below hb (Nat.le_refl _))
  replace HK := Lib.hid (HK.out.below hb (Nat.le_refl _))
  replace HR2 := Lib.hid (HR2.out.below hb (Nat.le_refl _))
  replace HS := Lib.hid ((hb.block _ (lt_of_block HS.out)).trans HS.out)
  replace B := Lib.hid (B.out.trans (hb.mono B.out.size))
  obtain ⟨s2, hs2⟩ : ∃ v, siz (n - 1) (wzP k zs n) (wkP k ks kn) = v := ⟨_, rfl⟩
  rw [hs2]
  have Hs2 := Lib.hid hs2
  clear hs2
  try clear hb
  by_cases hlt : s2 < sN
  · have d1 : (s2 : Int) < (sN : Int) := by omega
    have zHS0 : w6.cell? ⟨R, 0, none⟩ = some (.int .i64 sl) := by rw [cell_row HS.out]; rfl
    have zHS1 : w6.cell? ⟨R, 1, none⟩ = some (.int .i64 sr) := by rw [cell_row HS.out]; rfl
    have zHS2 : w6.cell? ⟨R, 2, none⟩ = some (.slice A n cap) := by rw [cell_row HS.out]; rfl
    have zHS3 : w6.cell? ⟨R, 3, none⟩ = some (.slice A2 kn kc) := by rw [cell_row HS.out]; rfl
    go_wp2_with fail
    clear zHS0 zHS1 zHS2 zHS3
    go_ret
    exact ⟨by rw [dk_wo He.out Hzl.out Hkn.out hin htk Hns.out (by rw [Hkl.out, Hs2.out, HsN.out]; exact hlt)]; rfl, B.out⟩
  · have d1 : ¬ (s2 : Int) < (sN : Int) := by omega
    have zHS0 : w6.cell? ⟨R, 0, none⟩ = some (.int .i64 sl) := by rw [cell_row HS.out]; rfl
    have zHS1 : w6.cell? ⟨R, 1, none⟩ = some (.int .i64 sr) := by rw [cell_row HS.out]; rfl
    have zHS2 : w6.cell? ⟨R, 2, none⟩ = some (.slice A n cap) := by rw [cell_row HS.out]; rfl
    have zHS3 : w6.cell? ⟨R, 3, none⟩ = some (.slice A2 kn kc) := by rw [cell_row HS.out]; rfl
    go_wp2_with fail
    clear zHS0 zHS1 zHS2 zHS3
    go_ret
    exact ⟨by rw [dk_may He.out Hzl.out Hkn.out hin htk Hns.out (by rw [Hkl.out, Hs2.out, HsN.out]; exact hlt)]; rfl, B.out⟩
theorem has56 (x y i : Int) (rt : Bool) (w : World) : Calls Try.prog 56 #[.agg #[.int .i64 x, .int .i64 y], .bool rt, .int .i64 i] w fun e w' => e = .returned (.bool (decide ((if rt = true then y else x) = i))) ∧ Below w.heap.size w w' := by
  obtain ⟨R, hR⟩ : ∃ v, w.heap.size = v := ⟨_, rfl⟩
  have hb0 := below_alloc_ w (.cells #[.int .i64 x, .int .i64 y] 55)
  have hr0 := heap_alloc_new_ w (.cells #[.int .i64 x, .int .i64 y] 55)
  have hz0 : (w.alloc (.cells #[.int .i64 x, .int .i64 y] 55)).heap.size = w.heap.size + 1 := by simp
  obtain ⟨w0, hw0⟩ : ∃ v, w.alloc (.cells #[.int .i64 x, .int .i64 y] 55) = v := ⟨_, rfl⟩
  rw [hw0] at hb0 hr0 hz0
  rw [hR] at hr0 hz0
  have hB := hb0
  have HS := Lib.hid hr0
  have HW0 := Lib.hid hw0
  have B := Lib.hid hB
  have HR := Lib.hid hR
  clear hB hR hb0 hr0 hz0 hw0 
  have zHS0 : w0.cell? ⟨R, 0, none⟩ = some (.int .i64 x) := by rw [cell_row HS.out]; rfl
  have zHS1 : w0.cell? ⟨R, 1, none⟩ = some (.int .i64 y) := by rw [cell_row HS.out]; rfl
  cases rt
  · by_cases h9 : x = i
    · have d1 : (x == i) = true := by simp [h9]
      have H9 := Lib.hid h9
      clear h9
      go_enter Try.func56, Try.ntmps56
      go_wp2_with fail
      try rw [HW0.out]
      try rw [HR.out]
      try simp only [Nat.add_assoc, Nat.reduceAdd]
      try go_wp2_with fail
      go_ret
      exact ⟨by simp [H9.out], by have h8 := B.out; rw [HR.out] at h8; exact h8⟩
    · have d1 : (x == i) = false := by simp [h9]
      have H9 := Lib.hid h9
      clear h9
      go_enter Try.func56, Try.ntmps56
      go_wp2_with fail
      try rw [HW0.out]
      try rw [HR.out]
      try simp only [Nat.add_assoc, Nat.reduceAdd]
      try go_wp2_with fail
      go_ret
      exact ⟨by simp [H9.out], by have h8 := B.out; rw [HR.out] at h8; exact h8⟩
  · by_cases h9 : y = i
    · have d1 : (y == i) = true := by simp [h9]
      have H9 := Lib.hid h9
      clear h9
      go_enter Try.func56, Try.ntmps56
      go_wp2_with fail
      try rw [HW0.out]
      try rw [HR.out]
      try simp only [Nat.add_assoc, Nat.reduceAdd]
      try go_wp2_with fail
      go_ret
      exact ⟨by simp [H9.out], by have h8 := B.out; rw [HR.out] at h8; exact h8⟩
    · have d1 : (y == i) = false := by simp [h9]
      have H9 := Lib.hid h9
      clear h9
      go_enter Try.func56, Try.ntmps56
      go_wp2_with fail
      try rw [HW0.out]
      try rw [HR.out]
      try simp only [Nat.add_assoc, Nat.reduceAdd]
      try go_wp2_with fail
      go_ret
      exact ⟨by simp [H9.out], by have h8 := B.out; rw [HR.out] at h8; exact h8⟩
end
end Go.Proofs.Ytnodkgejggnehaa
