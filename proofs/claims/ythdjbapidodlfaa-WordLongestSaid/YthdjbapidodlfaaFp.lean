/- Stage 4: the parts of the first one of the longest passages. -/
import Derived.Test.YthdjbapidodlfaaGd
import Derived.ArgAppend
namespace Go.Proofs.Ythdjbapidodlfaa
set_option linter.unusedSimpArgs false
set_option linter.unusedVariables false
open Go.RowKit Go.Shelf

section
attribute [local go_sem ↓] exec_app at_app
attribute [local go_sem] Oper.semAt_some
set_option maxRecDepth 100000 in
set_option maxHeartbeats 8000000 in
theorem rising85 (A : Option Addr) (N c : Nat) (p : List (List Int)) (m : Nat) (w : World) (h : Lns w A N p) (hp : ∀ j, j < N → (lAt p j).length = m) (hN : N ≤ 1000) (hm : m ≤ 1000) :
    Calls Try.prog 85 #[.slice A N c] w fun e w' => e = .returned (.bool (risK p m (N - 1))) ∧ w' = w := by
  have H := Lib.hid h
  have Hp := Lib.hid hp
  clear h hp
  go_enter Try.func85, Try.ntmps85
  go_wp2_with fail
  refine wp_scope_straight ?_
  go_wp2_with fail
  refine wp_label ?_
  go_wp2_with fail
  go_loopw [3, 4, 5, 6, 18] (fun g i x y t wr => ∃ k : Nat, 1 ≤ k ∧ (k ≤ N ∨ k = 1) ∧ g = .bool true ∧ i = .int .i64 (k : Int) ∧ Hid (risK p m (k - 1) = true) ∧ wr = w) (fun g i x y t _ => N - (intOf i).toNat)
  case atStart => exact ⟨1, Nat.le_refl _, .inr rfl, rfl, rfl, Lib.hid rfl, rfl⟩
  case round =>
    obtain ⟨k, hk1, hkN, rfl, rfl, HT, hwr⟩ := hrel
    obtain rfl : wr = w := hwr
    by_cases hlt : k < N
    · obtain ⟨b, o, rfl, hc⟩ := H.out.2 (by omega)
      obtain ⟨t, ht⟩ : ∃ t, k = t + 1 := ⟨k - 1, by omega⟩
      obtain ⟨C1, c1, u0, uI, uc⟩ := hc k hlt
      obtain ⟨C0, c0, v0, vI, vc⟩ := hc t (by omega)
      rw [Hp.out k hlt] at u0 uI uc
      rw [Hp.out t (by omega)] at v0 vI vc
      have hsub : (k : Int) - 1 = (t : Int) := by omega
      have Hs := Lib.hid (show risK p m k = befB (lAt p t) (lAt p k) m by
        have := risK_succ p m t
        rw [show k = t + 1 from ht, this, show risK p m t = true by have := HT.out; rwa [show k - 1 = t by omega] at this, Bool.true_and])
      have Hf := Lib.hid (show befB (lAt p t) (lAt p k) m = false → risK p m (N - 1) = false from fun e => risK_stop p (k := t) (by rw [← ht]; exact e) (by omega))
      have HU := Lib.hid uI
      have HV := Lib.hid vI
      obtain ⟨la, hla⟩ : ∃ la, lAt p t = la := ⟨_, rfl⟩
      obtain ⟨lb, hlb⟩ : ∃ lb, lAt p k = lb := ⟨_, rfl⟩
      rw [hla] at HV Hs Hf
      rw [hlb] at HU Hs Hf
      have i0 : (0 : Int) ≤ (k : Int) := by omega
      have i1 : (k : Int) < (N : Int) := by omega
      have k0 : (0 : Int) ≤ (t : Int) := by omega
      have k1 : (t : Int) < (N : Int) := by omega
      clear hc uI vI hla hlb ht HT
      go_wp2_with fail
      go_loopw [3, 5, 6, 18] (fun g x y i wr' => ∃ j : Nat, j ≤ m ∧ g = .bool true ∧ i = .int .i64 (j : Int) ∧ Hid (befB la lb j = true) ∧ wr' = wr) (fun g x y i _ => m - (intOf i).toNat)
      case atStart => exact ⟨0, Nat.zero_le _, rfl, rfl, Lib.hid rfl, rfl⟩
      case round =>
        obtain ⟨j, hj, rfl, rfl, HB, hwr'⟩ := hrel
        subst hwr'
        by_cases hjl : j < m
        · obtain ⟨b1, o1, rfl, hc1⟩ := HU.out.2 (by omega)
          obtain ⟨b0, o0, rfl, hc0⟩ := HV.out.2 (by omega)
          have y0 := hc1 j hjl
          have x0 := hc0 j hjl
          have Ks := Lib.hid (befB_succ la lb j)
          have Kf := Lib.hid (fun q => befB_stop la lb (k := j) (n := m) q hjl)
          rw [HB.out, Bool.true_and] at Ks
          obtain ⟨x, hx⟩ : ∃ x, iAt la j = x := ⟨_, rfl⟩
          obtain ⟨y, hy⟩ : ∃ y, iAt lb j = y := ⟨_, rfl⟩
          rw [hx] at x0 Ks Kf
          rw [hy] at y0 Ks Kf
          have j0 : (0 : Int) ≤ (j : Int) := by omega
          have j1 : (j : Int) < (m : Int) := by omega
          clear hc1 hc0 hx hy HB
          by_cases hxy : x < y
          · rw [decide_eq_true hxy] at Ks
            have d1 : ¬ y ≤ x := by omega
            clear hxy Kf
            go_wp2_with fail
            go_roundw
            case rel => exact ⟨j + 1, by omega, rfl, by go_num, Lib.hid Ks.out, trivial⟩
            case measure => simp [intOf]; omega
          · have HF := Lib.hid (Hf.out (Kf.out hxy))
            have d1 : y ≤ x := by omega
            clear hxy Kf Ks
            go_wp2_with fail
            simp only [Exit.noGoto]
            go_ret
            exact ⟨by rw [HF.out]; rfl, rfl⟩
        · obtain rfl : j = m := by omega
          have HN := Lib.hid (show risK p j (k + 1 - 1) = true by rw [Nat.add_sub_cancel, Hs.out]; exact HB.out)
          clear HB
          go_wp2_with fail
          go_roundw
          case rel => exact ⟨k + 1, by omega, .inl (by omega), rfl, by go_num, HN, trivial⟩
          case measure => simp [intOf]; omega
    · have HF := Lib.hid (show risK p m (N - 1) = true by
        rcases hkN with e | e
        · have e2 : k = N := by omega
          rw [← e2]; exact HT.out
        · have e2 : N - 1 = 0 := by omega
          rw [e2]; rfl)
      have d1 : ¬ (k : Int) < (N : Int) := by omega
      clear HT
      go_wp2_with fail
      go_ret
      exact ⟨by rw [HF.out]; rfl, rfl⟩
end

theorem sl79_0 (U o : Nat) (W : World) : (Instr.sliceAt 79 (.pointer (some ⟨U, o, none⟩)) none (some (.int .i64 ((0 : Nat) : Int))) none).run Try.prog W = .ok (.slice (some ⟨U, o, none⟩) 0 4) W := by kernel_rfl
theorem sl79_1 (U o : Nat) (W : World) : (Instr.sliceAt 79 (.pointer (some ⟨U, o, none⟩)) none (some (.int .i64 ((1 : Nat) : Int))) none).run Try.prog W = .ok (.slice (some ⟨U, o, none⟩) 1 4) W := by kernel_rfl
theorem sl79_2 (U o : Nat) (W : World) : (Instr.sliceAt 79 (.pointer (some ⟨U, o, none⟩)) none (some (.int .i64 ((2 : Nat) : Int))) none).run Try.prog W = .ok (.slice (some ⟨U, o, none⟩) 2 4) W := by kernel_rfl
theorem sl79_3 (U o : Nat) (W : World) : (Instr.sliceAt 79 (.pointer (some ⟨U, o, none⟩)) none (some (.int .i64 ((3 : Nat) : Int))) none).run Try.prog W = .ok (.slice (some ⟨U, o, none⟩) 3 4) W := by kernel_rfl
theorem sl79_4 (U o : Nat) (W : World) : (Instr.sliceAt 79 (.pointer (some ⟨U, o, none⟩)) none (some (.int .i64 ((4 : Nat) : Int))) none).run Try.prog W = .ok (.slice (some ⟨U, o, none⟩) 4 4) W := by kernel_rfl
theorem sl125_0 (R : Nat) (W : World) : (Instr.sliceAt 125 (.pointer (some ⟨R, 0, none⟩)) none (some (.int .i64 0)) (some (.int .i64 ((0 : Nat) : Int)))).run Try.prog W = .ok (.slice (some ⟨R, 0, none⟩) 0 0) W := by kernel_rfl
theorem sl125_1 (R : Nat) (W : World) : (Instr.sliceAt 125 (.pointer (some ⟨R, 0, none⟩)) none (some (.int .i64 0)) (some (.int .i64 ((1 : Nat) : Int)))).run Try.prog W = .ok (.slice (some ⟨R, 0, none⟩) 0 1) W := by kernel_rfl
theorem sl125_2 (R : Nat) (W : World) : (Instr.sliceAt 125 (.pointer (some ⟨R, 0, none⟩)) none (some (.int .i64 0)) (some (.int .i64 ((2 : Nat) : Int)))).run Try.prog W = .ok (.slice (some ⟨R, 0, none⟩) 0 2) W := by kernel_rfl
theorem sl125_3 (R : Nat) (W : World) : (Instr.sliceAt 125 (.pointer (some ⟨R, 0, none⟩)) none (some (.int .i64 0)) (some (.int .i64 ((3 : Nat) : Int)))).run Try.prog W = .ok (.slice (some ⟨R, 0, none⟩) 0 3) W := by kernel_rfl
theorem sl125_4 (R : Nat) (W : World) : (Instr.sliceAt 125 (.pointer (some ⟨R, 0, none⟩)) none (some (.int .i64 0)) (some (.int .i64 ((4 : Nat) : Int)))).run Try.prog W = .ok (.slice (some ⟨R, 0, none⟩) 0 4) W := by kernel_rfl
theorem sl125_5 (R : Nat) (W : World) : (Instr.sliceAt 125 (.pointer (some ⟨R, 0, none⟩)) none (some (.int .i64 0)) (some (.int .i64 ((5 : Nat) : Int)))).run Try.prog W = .ok (.slice (some ⟨R, 0, none⟩) 0 5) W := by kernel_rfl
theorem sl125_6 (R : Nat) (W : World) : (Instr.sliceAt 125 (.pointer (some ⟨R, 0, none⟩)) none (some (.int .i64 0)) (some (.int .i64 ((6 : Nat) : Int)))).run Try.prog W = .ok (.slice (some ⟨R, 0, none⟩) 0 6) W := by kernel_rfl
theorem sl125_7 (R : Nat) (W : World) : (Instr.sliceAt 125 (.pointer (some ⟨R, 0, none⟩)) none (some (.int .i64 0)) (some (.int .i64 ((7 : Nat) : Int)))).run Try.prog W = .ok (.slice (some ⟨R, 0, none⟩) 0 7) W := by kernel_rfl
theorem sl125_8 (R : Nat) (W : World) : (Instr.sliceAt 125 (.pointer (some ⟨R, 0, none⟩)) none (some (.int .i64 0)) (some (.int .i64 ((8 : Nat) : Int)))).run Try.prog W = .ok (.slice (some ⟨R, 0, none⟩) 0 8) W := by kernel_rfl
theorem slice79m (U o m : Nat) (hm : m ≤ 4) (W : World) : (Instr.sliceAt 79 (.pointer (some ⟨U, o, none⟩)) none (some (.int .i64 (m : Int))) none).run Try.prog W = .ok (.slice (some ⟨U, o, none⟩) m 4) W := by
  have h : m = 0 ∨ m = 1 ∨ m = 2 ∨ m = 3 ∨ m = 4 := by omega
  rcases h with rfl | rfl | rfl | rfl | rfl
  · exact sl79_0 U o W
  · exact sl79_1 U o W
  · exact sl79_2 U o W
  · exact sl79_3 U o W
  · exact sl79_4 U o W
theorem slice125 (R K : Nat) (hK : K ≤ 8) (W : World) : (Instr.sliceAt 125 (.pointer (some ⟨R, 0, none⟩)) none (some (.int .i64 0)) (some (.int .i64 (K : Int)))).run Try.prog W = .ok (.slice (some ⟨R, 0, none⟩) 0 K) W := by
  have h : K = 0 ∨ K = 1 ∨ K = 2 ∨ K = 3 ∨ K = 4 ∨ K = 5 ∨ K = 6 ∨ K = 7 ∨ K = 8 := by omega
  rcases h with rfl | rfl | rfl | rfl | rfl | rfl | rfl | rfl | rfl
  · exact sl125_0 R W
  · exact sl125_1 R W
  · exact sl125_2 R W
  · exact sl125_3 R W
  · exact sl125_4 R W
  · exact sl125_5 R W
  · exact sl125_6 R W
  · exact sl125_7 R W
  · exact sl125_8 R W
/-- A room for eight places, of which the first ones are taken. -/
def Rm8 (W : World) (R : Nat) (g : List (List Int)) : Prop := ∃ rest : List Value, W.heap[R]? = some (.cells (flatP g ++ rest).toArray 125 (0, 0)) ∧ g.length * 4 + rest.length = 32
theorem Rm8.keep {W W' : World} {R : Nat} {g : List (List Int)} {Mut : Nat → Prop} (h : Rm8 W R g) (hK : Keeps Mut W W') (hm : ¬ Mut R) : Rm8 W' R g := by
  obtain ⟨rest, h1, h2⟩ := h
  exact ⟨rest, (hK.block _ (lt_of_block h1) hm).trans h1, h2⟩
theorem Rm8.cell {W : World} {R : Nat} {g : List (List Int)} (h : Rm8 W R g) {j t : Nat} (hj : j < g.length) (ht : t < 4) : W.cell? ⟨R, j * 4 + t, none⟩ = some (.int .i64 (iAt (lAt g j) t)) := by
  obtain ⟨rest, h1, h2⟩ := h
  rw [cell_row h1, List.getElem?_toArray, List.getElem?_append_left (by rw [flatP_len]; omega)]
  exact flatP_at g hj ht
theorem set4 (g rest : List Value) (a b c d r0 r1 r2 r3 : Value) : ((((g ++ r0 :: r1 :: r2 :: r3 :: rest).set g.length a).set (g.length + 1) b).set (g.length + 2) c).set (g.length + 3) d = g ++ a :: b :: c :: d :: rest := by
  rw [List.set_append_right _ _ (Nat.le_refl _), List.set_append_right _ _ (by omega), List.set_append_right _ _ (by omega), List.set_append_right _ _ (by omega)]
  simp
/-- One place more. -/
theorem Rm8.put {W : World} {R K Z : Nat} {g : List (List Int)} (h : Rm8 W R g) (x : List Int) (hK : K ≤ 8) (hn : g.length + 1 ≤ K) (hZ : W.heap[Z]? = some (.cells #[.int .i64 (iAt x 0), .int .i64 (iAt x 1), .int .i64 (iAt x 2), .int .i64 (iAt x 3)] 79 (0, 0))) :
    ∃ W', runA Try.prog 76 (.slice (some ⟨R, 0, none⟩) g.length K) (.slice (some ⟨Z, 0, none⟩) 1 1) W = .ok (.value (.slice (some ⟨R, 0, none⟩) (g.length + 1) K)) W' ∧ Rm8 W' R (g ++ [x]) ∧ Keeps (fun k => k = R) W W' := by
  obtain ⟨rest, h1, h2⟩ := h
  obtain ⟨r0, r1, r2, r3, rest', rfl⟩ : ∃ r0 r1 r2 r3 rest', rest = r0 :: r1 :: r2 :: r3 :: rest' := by
    match rest, h2 with
    | r0 :: r1 :: r2 :: r3 :: rest', _ => exact ⟨r0, r1, r2, r3, rest', rfl⟩
    | [], h2 => simp at h2; omega
    | [_], h2 => simp at h2; omega
    | [_, _], h2 => simp at h2; omega
    | [_, _, _], h2 => simp at h2; omega
  obtain ⟨i, hi, hz, hs, hb⟩ := info_parts info79_
  have hfl := flatP_len g
  have hrun := run_append_room_cells (P := Try.prog) W 76 76 79 i Try.underlying76 hi R 0 g.length K ⟨Z, 0, none⟩ 1 1 (p4 x) (by rw [hs]; rfl) (fun j u hj => by
    rw [Addr.add_lit, cell_row hZ]
    simpa [p4] using hj) (by
    intro u hu
    simp only [p4, List.mem_cons, List.not_mem_nil, or_false] at hu
    rcases hu with rfl | rfl | rfl | rfl <;> rfl) hn (fun j hj => by
    have hj4 : j < 4 := hj
    rw [hs, cell_row h1, List.getElem?_toArray, List.getElem?_eq_getElem (by simp only [List.length_append, List.length_cons, hfl]; omega)]
    rfl) (fun j hj => frozen_row h1)
  rw [hs] at hrun
  refine ⟨_, run_app hrun, ⟨rest', ?_, ?_⟩, ?_⟩
  · have e : W.setCells R (0 + g.length * 4) (p4 x) = ((((W.setCell ⟨R, g.length * 4, none⟩ (.int .i64 (iAt x 0))).setCell ⟨R, g.length * 4 + 1, none⟩ (.int .i64 (iAt x 1))).setCell ⟨R, g.length * 4 + 2, none⟩ (.int .i64 (iAt x 2))).setCell ⟨R, g.length * 4 + 3, none⟩ (.int .i64 (iAt x 3))) := by
      rw [Nat.zero_add]; rfl
    rw [e, set_same _ _ (set_same _ _ (set_same _ _ (set_same _ _ h1)))]
    simp only [List.setIfInBounds_toArray]
    have := set4 (flatP g) rest' (.int .i64 (iAt x 0)) (.int .i64 (iAt x 1)) (.int .i64 (iAt x 2)) (.int .i64 (iAt x 3)) r0 r1 r2 r3
    rw [hfl] at this
    rw [this, flatP_snoc]
    simp [p4]
  · rw [List.length_append]; simp at h2 ⊢; omega
  · have e : W.setCells R (0 + g.length * 4) (p4 x) = ((((W.setCell ⟨R, g.length * 4, none⟩ (.int .i64 (iAt x 0))).setCell ⟨R, g.length * 4 + 1, none⟩ (.int .i64 (iAt x 1))).setCell ⟨R, g.length * 4 + 2, none⟩ (.int .i64 (iAt x 2))).setCell ⟨R, g.length * 4 + 3, none⟩ (.int .i64 (iAt x 3))) := by
      rw [Nat.zero_add]; rfl
    rw [e]
    exact (((keeps_setCell _ _ _ _).trans (keeps_setCell _ _ _ _)).trans (keeps_setCell _ _ _ _)).trans (keeps_setCell _ _ _ _)
end Go.Proofs.Ythdjbapidodlfaa
