/- Stage 5: Left, of the document: how many links may be. -/
import Derived.Test.YtnodkgejggnehaaK6
import Derived.IntWalk
namespace Go.Proofs.Ytnodkgejggnehaa
set_option linter.unusedSimpArgs false
set_option linter.unusedVariables false
open Go.RowKit Go.Shelf
section
attribute [local go_sem ↓] exec_app at_app
attribute [local go_sem] Oper.semAt_some
set_option maxRecDepth 100000 in
set_option maxHeartbeats 40000000 in
theorem left60 (sl sr : Int) (A : Option Addr) (n cap : Nat) (zs : List Rg) (A2 : Option Addr) (kn kc : Nat) (ks : List Int) (w : World) (h : Rgs w A n zs) (hI : Ints w A2 kn ks) (hk : kn ≤ 1000) (he : chkS sl sr zs ks = 0) :
    Calls Try.prog 60 #[.agg #[.int .i64 sl, .int .i64 sr, .slice A n cap, .slice A2 kn kc]] w fun e w' => e = .returned (.int .i64 (mayK n zs (opnL n zs ks) (kNt ks) n : Int)) ∧ Below w.heap.size w w' := by
  have hzl := h.1
  have hn40 : n ≤ 40 := by rw [← hzl]; exact (shg_of he).n40
  have Hn := Lib.hid hn40
  have He := Lib.hid he
  have Hk := Lib.hid hk
  clear he hzl hn40 hk
  obtain ⟨R, hR⟩ : ∃ v, w.heap.size = v := ⟨_, rfl⟩
  have hb0 := below_alloc_ w (.cells #[.int .i64 sl, .int .i64 sr, .slice A n cap, .slice A2 kn kc] 25)
  have hr0 := heap_alloc_new_ w (.cells #[.int .i64 sl, .int .i64 sr, .slice A n cap, .slice A2 kn kc] 25)
  have hz0 : (w.alloc (.cells #[.int .i64 sl, .int .i64 sr, .slice A n cap, .slice A2 kn kc] 25)).heap.size = w.heap.size + 1 := by simp
  obtain ⟨w0, hw0⟩ : ∃ v, w.alloc (.cells #[.int .i64 sl, .int .i64 sr, .slice A n cap, .slice A2 kn kc] 25) = v := ⟨_, rfl⟩
  rw [hw0] at hb0 hr0 hz0
  rw [hR] at hr0 hz0
  have hB := hb0
  have X := Lib.hid (h.below hB (Nat.le_refl _))
  have XI := Lib.hid (hI.below hB (Nat.le_refl _))
  have HS := Lib.hid hr0
  have HW0 := Lib.hid hw0
  have B := Lib.hid hB
  have HR := Lib.hid hR
  clear hB hR hb0 hr0 hz0 hw0 h hI
  have zHS0 : w0.cell? ⟨R, 0, none⟩ = some (.int .i64 sl) := by rw [cell_row HS.out]; rfl
  have zHS1 : w0.cell? ⟨R, 1, none⟩ = some (.int .i64 sr) := by rw [cell_row HS.out]; rfl
  have zHS2 : w0.cell? ⟨R, 2, none⟩ = some (.slice A n cap) := by rw [cell_row HS.out]; rfl
  have zHS3 : w0.cell? ⟨R, 3, none⟩ = some (.slice A2 kn kc) := by rw [cell_row HS.out]; rfl
  go_enter Try.func60, Try.ntmps60
  go_wp2_with fail
  try rw [HW0.out]
  try rw [HR.out]
  try simp only [Nat.add_assoc, Nat.reduceAdd]
  try go_wp2_with fail
  clear zHS0 zHS1 zHS2 zHS3
  refine (kinds26 sl sr A n cap zs A2 kn kc ks w0 X.out XI.out Hk.out He.out).mono ?_
  rintro en w1 ⟨CK, ck, rfl, hck, hik, hb⟩
  replace X := Lib.hid (X.out.below hb (Nat.le_refl _))
  replace XI := Lib.hid (XI.out.below hb (Nat.le_refl _))
  replace HS := Lib.hid ((hb.block _ (lt_of_block HS.out)).trans HS.out)
  replace B := Lib.hid (B.out.trans (hb.mono B.out.size))
  have HKd := Lib.hid hik
  clear hik hck
  try clear hb
  have zHS0 : w1.cell? ⟨R, 0, none⟩ = some (.int .i64 sl) := by rw [cell_row HS.out]; rfl
  have zHS1 : w1.cell? ⟨R, 1, none⟩ = some (.int .i64 sr) := by rw [cell_row HS.out]; rfl
  have zHS2 : w1.cell? ⟨R, 2, none⟩ = some (.slice A n cap) := by rw [cell_row HS.out]; rfl
  have zHS3 : w1.cell? ⟨R, 3, none⟩ = some (.slice A2 kn kc) := by rw [cell_row HS.out]; rfl
  go_wp2_with fail
  clear zHS0 zHS1 zHS2 zHS3
  go_loopw [3, 6] (fun cv iv wr => ∃ q : Nat, q ≤ n ∧ cv = .int .i64 (mayK n zs (opnL n zs ks) (kNt ks) q : Int) ∧ iv = .int .i64 (q : Int) ∧ Hid (wr = w1)) (fun _ v _ => n - (intOf v).toNat)
  case atStart => exact ⟨0, Nat.zero_le _, rfl, rfl, Lib.hid rfl⟩
  case round =>
    obtain ⟨q, hq, rfl, rfl, HE⟩ := hrel
    obtain rfl : w1 = wr := HE.out.symm
    have hnb := Hn.out
    by_cases hlt : q < n
    · obtain ⟨bk, ok, eK, hck⟩ := HKd.out.2 (by omega)
      subst eK
      have x0 := hck q hlt
      rw [kindsK_at hlt] at x0
      have hms := mayK_succ n zs (opnL n zs ks) (kNt ks) q
      have hml := mayK_le n zs (opnL n zs ks) (kNt ks) q
      obtain ⟨y, hy⟩ : ∃ y, mayK n zs (opnL n zs ks) (kNt ks) q = y := ⟨_, rfl⟩
      obtain ⟨kv, hkv⟩ : ∃ v, kindS n zs (opnL n zs ks) (kNt ks) q = v := ⟨_, rfl⟩
      rw [hkv] at x0 hms
      rw [hy] at hms hml
      rw [hy]
      have Hms := Lib.hid hms
      have i0 : (0 : Int) ≤ (q : Int) := by omega
      have i1 : (q : Int) < (n : Int) := by omega
      clear hck hms hy hkv
      cases hb1 : (kv == 1)
      · go_wp2_with fail
        go_roundw
        case rel => exact ⟨q + 1, by omega, by rw [Hms.out, hb1]; go_num, by go_num, (by first | exact Lib.hid rfl | exact Lib.hid trivial)⟩
        case measure => simp [intOf] <;> omega
      · go_wp2_with fail
        go_roundw
        case rel => exact ⟨q + 1, by omega, by rw [Hms.out, hb1]; go_num, by go_num, (by first | exact Lib.hid rfl | exact Lib.hid trivial)⟩
        case measure => simp [intOf] <;> omega
    · obtain rfl : n = q := by omega
      go_wp2_with fail
      go_ret
      exact ⟨rfl, B.out⟩
end
end Go.Proofs.Ytnodkgejggnehaa
