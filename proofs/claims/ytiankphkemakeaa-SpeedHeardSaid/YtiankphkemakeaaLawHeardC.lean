/- SpeedHeard, put together. -/
import Derived.Test.YtiankphkemakeaaHeardU
import Derived.Test.YtiankphkemakeaaLawHeard
import Derived.Test.YtiankphkemakeaaLawHeardB
namespace Go.Proofs.Ytiankphkemakeaa
set_option linter.unusedSimpArgs false
set_option linter.unusedVariables false
open Go.RowKit Go.Shelf

theorem speedHeard12 (HW : Hid WorksOk) (a0 a1 a2 a3 : Int) (h0 : (Lit.int .u32 a0).wf = true) (h1 : (Lit.int .u32 a1).wf = true) (h2 : (Lit.int .u32 a2).wf = true) (h3 : (Lit.int .u32 a3).wf = true) (w : World) :
    Calls Try.prog 12 #[.int .u32 a0, .int .u32 a1, .int .u32 a2, .int .u32 a3] w fun e w' => e = .returned (.bool true) ∧ Below w.heap.size w w' := by
  obtain ⟨b00, b01⟩ := u32_bounds h0
  obtain ⟨b10, b11⟩ := u32_bounds h1
  obtain ⟨b20, b21⟩ := u32_bounds h2
  obtain ⟨b30, b31⟩ := u32_bounds h3
  have kp : 1 ≤ 1 + a0 % 1000000 ∧ 1 + a0 % 1000000 ≤ 1000000 := by omega
  have kl : 1 ≤ 1 + a1 % 1000000 ∧ 1 + a1 % 1000000 ≤ 1000000 := by omega
  have kx : 0 ≤ a3 % 100001 ∧ a3 % 100001 ≤ 100000 := by omega
  by_cases hm : 1 + a1 % 1000000 + a2 < 1000000
  · have kh : 1 ≤ (1 + a1 % 1000000 + a2) ∧ (1 + a1 % 1000000 + a2) ≤ 1000000 := by omega
    have hlh : (1 + a1 % 1000000) ≤ (1 + a1 % 1000000 + a2) := by omega
    by_cases hA : (loOf (1 + a0 % 1000000) (1 + a1 % 1000000 + a2)) ≤ (hiOf (1 + a0 % 1000000) (1 + a1 % 1000000))
    · by_cases d1 : (loOf (1 + a0 % 1000000) (1 + a1 % 1000000 + a2)) ≤ (a3 % 100001)
      · by_cases d2 : (a3 % 100001) ≤ (hiOf (1 + a0 % 1000000) (1 + a1 % 1000000))
        · exact heard_2_in HW a0 a1 a2 a3 w b00 b01 b10 b11 b20 b21 b30 b31 hm (loOf (1 + a0 % 1000000) (1 + a1 % 1000000 + a2)) (hiOf (1 + a0 % 1000000) (1 + a1 % 1000000)) (loOf_pos kp.1 kh.1) hA hiOf_le (Lib.hid (pipe_two kp kl kh hlh hA)) (Lib.hid (heard_yes kp.1 kl.1 kh.1 d1 d2)) (Lib.hid (heard_yes kp.1 kl.1 kh.1 (Int.le_refl _) hA)) (Lib.hid (heard_yes kp.1 kl.1 kh.1 hA (Int.le_refl _))) (Lib.hid (speeds_yes kp.1 kh.1 hA kx.1 kx.2 ⟨d1, d2⟩)) (Lib.hid (two_chk (loOf_pos kp.1 kh.1) hA hiOf_le)) (Lib.hid (two_span (loOf_pos kp.1 kh.1) hA hiOf_le)) (decide_eq_true d1) (decide_eq_true d2)
        · exact heard_2_gt HW a0 a1 a2 a3 w b00 b01 b10 b11 b20 b21 b30 b31 hm (loOf (1 + a0 % 1000000) (1 + a1 % 1000000 + a2)) (hiOf (1 + a0 % 1000000) (1 + a1 % 1000000)) (loOf_pos kp.1 kh.1) hA hiOf_le (Lib.hid (pipe_two kp kl kh hlh hA)) (Lib.hid (heard_not kp.1 kl.1 kh.1 kx.2 fun h => d2 h.2)) (Lib.hid (heard_yes kp.1 kl.1 kh.1 (Int.le_refl _) hA)) (Lib.hid (heard_yes kp.1 kl.1 kh.1 hA (Int.le_refl _))) (Lib.hid (speeds_no kp.1 kh.1 hA kx.1 kx.2 fun h => d2 h.2)) (Lib.hid (two_chk (loOf_pos kp.1 kh.1) hA hiOf_le)) (Lib.hid (two_span (loOf_pos kp.1 kh.1) hA hiOf_le)) (decide_eq_true d1) (decide_eq_false d2)
      · exact heard_2_lt HW a0 a1 a2 a3 w b00 b01 b10 b11 b20 b21 b30 b31 hm (loOf (1 + a0 % 1000000) (1 + a1 % 1000000 + a2)) (hiOf (1 + a0 % 1000000) (1 + a1 % 1000000)) (loOf_pos kp.1 kh.1) hA hiOf_le (Lib.hid (pipe_two kp kl kh hlh hA)) (Lib.hid (heard_not kp.1 kl.1 kh.1 kx.2 fun h => d1 h.1)) (Lib.hid (heard_yes kp.1 kl.1 kh.1 (Int.le_refl _) hA)) (Lib.hid (heard_yes kp.1 kl.1 kh.1 hA (Int.le_refl _))) (Lib.hid (speeds_no kp.1 kh.1 hA kx.1 kx.2 fun h => d1 h.1)) (Lib.hid (two_chk (loOf_pos kp.1 kh.1) hA hiOf_le)) (Lib.hid (two_span (loOf_pos kp.1 kh.1) hA hiOf_le)) (decide_eq_false d1)
    · exact heard_2_no HW a0 a1 a2 a3 w b00 b01 b10 b11 b20 b21 b30 b31 hm (Lib.hid (pipe_no kp kl kh hlh hA)) (Lib.hid (heard_not kp.1 kl.1 kh.1 kx.2 fun h => hA (Int.le_trans h.1 h.2)))
  · have kh : (1 : Int) ≤ 1000000 ∧ (1000000 : Int) ≤ 1000000 := by omega
    have hlh : (1 + a1 % 1000000) ≤ 1000000 := by omega
    by_cases hA : (loOf (1 + a0 % 1000000) 1000000) ≤ (hiOf (1 + a0 % 1000000) (1 + a1 % 1000000))
    · by_cases d1 : (loOf (1 + a0 % 1000000) 1000000) ≤ (a3 % 100001)
      · by_cases d2 : (a3 % 100001) ≤ (hiOf (1 + a0 % 1000000) (1 + a1 % 1000000))
        · exact heard_1_in HW a0 a1 a2 a3 w b00 b01 b10 b11 b20 b21 b30 b31 (by omega) (loOf (1 + a0 % 1000000) 1000000) (hiOf (1 + a0 % 1000000) (1 + a1 % 1000000)) (loOf_pos kp.1 kh.1) hA hiOf_le (Lib.hid (pipe_two kp kl kh hlh hA)) (Lib.hid (heard_yes kp.1 kl.1 kh.1 d1 d2)) (Lib.hid (heard_yes kp.1 kl.1 kh.1 (Int.le_refl _) hA)) (Lib.hid (heard_yes kp.1 kl.1 kh.1 hA (Int.le_refl _))) (Lib.hid (speeds_yes kp.1 kh.1 hA kx.1 kx.2 ⟨d1, d2⟩)) (Lib.hid (two_chk (loOf_pos kp.1 kh.1) hA hiOf_le)) (Lib.hid (two_span (loOf_pos kp.1 kh.1) hA hiOf_le)) (decide_eq_true d1) (decide_eq_true d2)
        · exact heard_1_gt HW a0 a1 a2 a3 w b00 b01 b10 b11 b20 b21 b30 b31 (by omega) (loOf (1 + a0 % 1000000) 1000000) (hiOf (1 + a0 % 1000000) (1 + a1 % 1000000)) (loOf_pos kp.1 kh.1) hA hiOf_le (Lib.hid (pipe_two kp kl kh hlh hA)) (Lib.hid (heard_not kp.1 kl.1 kh.1 kx.2 fun h => d2 h.2)) (Lib.hid (heard_yes kp.1 kl.1 kh.1 (Int.le_refl _) hA)) (Lib.hid (heard_yes kp.1 kl.1 kh.1 hA (Int.le_refl _))) (Lib.hid (speeds_no kp.1 kh.1 hA kx.1 kx.2 fun h => d2 h.2)) (Lib.hid (two_chk (loOf_pos kp.1 kh.1) hA hiOf_le)) (Lib.hid (two_span (loOf_pos kp.1 kh.1) hA hiOf_le)) (decide_eq_true d1) (decide_eq_false d2)
      · exact heard_1_lt HW a0 a1 a2 a3 w b00 b01 b10 b11 b20 b21 b30 b31 (by omega) (loOf (1 + a0 % 1000000) 1000000) (hiOf (1 + a0 % 1000000) (1 + a1 % 1000000)) (loOf_pos kp.1 kh.1) hA hiOf_le (Lib.hid (pipe_two kp kl kh hlh hA)) (Lib.hid (heard_not kp.1 kl.1 kh.1 kx.2 fun h => d1 h.1)) (Lib.hid (heard_yes kp.1 kl.1 kh.1 (Int.le_refl _) hA)) (Lib.hid (heard_yes kp.1 kl.1 kh.1 hA (Int.le_refl _))) (Lib.hid (speeds_no kp.1 kh.1 hA kx.1 kx.2 fun h => d1 h.1)) (Lib.hid (two_chk (loOf_pos kp.1 kh.1) hA hiOf_le)) (Lib.hid (two_span (loOf_pos kp.1 kh.1) hA hiOf_le)) (decide_eq_false d1)
    · exact heard_1_no HW a0 a1 a2 a3 w b00 b01 b10 b11 b20 b21 b30 b31 (by omega) (Lib.hid (pipe_no kp kl kh hlh hA)) (Lib.hid (heard_not kp.1 kl.1 kh.1 kx.2 fun h => hA (Int.le_trans h.1 h.2)))
end Go.Proofs.Ytiankphkemakeaa
