/- Stage 3: the document's best scale. -/
import Derived.Test.YtdfdlklglbefiaaBst
namespace Go.Proofs.Ytdfdlklglbefiaa
set_option linter.unusedSimpArgs false
set_option linter.unusedVariables false
open Go.RowKit Go.Shelf
attribute [local go_sem ↓] exec_app
attribute [local go_sem] Oper.semAt_some

theorem cnt_take {zs : List Rg} {st : List Int} {k : Nat} (hk : k < zs.length) : (zs.take (k + 1)).countP (fun r => meets st r) = (zs.take k).countP (fun r => meets st r) + if meets st (gAt zs k) = true then 1 else 0 := by
  rw [List.take_succ_eq_append_getElem hk, List.countP_append, gAt_eq hk]
  simp [List.countP_cons]
theorem info2t_ : (Try.prog.info? 2).map (fun i => (i.zero, i.size, i.bytes)) = some (some (.int .i64 0), 1, 8) := by kernel_rfl
set_option maxRecDepth 100000 in
set_option maxHeartbeats 8000000 in
theorem best34 (A : Option Addr) (n cap : Nat) (zs : List Rg) (kk : Int) (w : World) (h : Rgs w A n zs) (hn : n ≤ 9) :
    Calls Try.prog 34 #[.slice A n cap, .int .i64 kk] w fun e w' => e = .returned (.int .i64 (bst zs kk (2 ^ n) : Int)) ∧ Below w.heap.size w w' := by
  have Hlen := Lib.hid h.1
  have H := Lib.hid h
  obtain ⟨N, hN⟩ : ∃ N : Nat, 2 ^ n = N := ⟨_, rfl⟩
  have hN2 : N ≤ 512 := by rw [← hN]; exact Nat.pow_le_pow_right (n := 2) (by omega) hn
  have hsh : wrap64 ((2 : Int) ^ n) = (N : Int) := by
    have : (2 : Int) ^ n = (N : Int) := by rw [← hN]; simp
    rw [this]
    unfold wrap64
    omega
  rw [hN]
  clear h hN
  go_enter Try.func34, Try.ntmps34
  go_wp2_with fail
  go_loopw [5, 6, 7, 8, 9, 10, 11] (fun b s v m i t j wr => ∃ S : Nat, S ≤ N ∧ s = .int .i64 (S : Int) ∧ (∃ T : Nat, b = .int .i64 (T : Int) ∧ Hid (T = bst zs kk S)) ∧ Below w.heap.size w wr) (fun b s v m i t j _ => N - (intOf s).toNat)
  case atStart => exact ⟨0, Nat.zero_le _, rfl, ⟨0, rfl, Lib.hid rfl⟩, Below.refl _ _⟩
  case round =>
    obtain ⟨S, hS, rfl, ⟨T, rfl, HT⟩, hB⟩ := hrel
    obtain ⟨wk, rfl⟩ : ∃ wk, wk = wr := ⟨_, rfl⟩
    have HB := Lib.hid hB
    clear hB
    by_cases hlt : S < N
    · have i5 : (S : Int) < (N : Int) := by omega
      have Hst := Lib.hid (show bst zs kk (S + 1) = max (bst zs kk S) (bV zs kk S) from rfl)
      rw [← HT.out] at Hst
      go_wp2_with fail
      clear i5
      go_loopw [7, 8, 9] (fun v m i wr => ∃ j : Nat, j ≤ n ∧ i = .int .i64 (j : Int) ∧ (∃ l : Nat, m = .int .i64 (l : Int) ∧ l ≤ 9 ∧ Hid (l = (hisS zs S j).length ∧ wr.ownsRow 0 2 1 v l (flatI (hisS zs S j)) ∧ (∀ q, v.ownBlock = some q → wk.heap.size ≤ q) ∧ Below wk.heap.size wk wr))) (fun v m i _ => n - (intOf i).toNat)
      case atStart => exact ⟨0, Nat.zero_le _, rfl, 0, rfl, by omega, Lib.hid ⟨rfl, own_nil _ _ _, fun j e => (by cases e), Below.refl _ _⟩⟩
      case round =>
        obtain ⟨j, hj, rfl, l, rfl, hl9, HJ⟩ := hrel
        obtain ⟨wj, rfl⟩ : ∃ wj, wj = wr := ⟨_, rfl⟩
        by_cases hjl : j < n
        · have hb3 := HB.out.trans (HJ.out.2.2.2.mono HB.out.size)
          obtain ⟨b1, o1, rfl, hc1⟩ := (H.out.below hb3 (Nat.le_refl _)).2 (by omega)
          have c1 := (hc1 j hjl).2
          have Hhs := Lib.hid (hisS_succ zs S j)
          obtain ⟨y, hy⟩ : ∃ y, (gAt zs j).hi = y := ⟨_, rfl⟩
          rw [hy] at c1 Hhs
          obtain ⟨bt, hbt⟩ : ∃ bt : Nat, S / 2 ^ j % 2 = bt := ⟨_, rfl⟩
          have hb01 : bt = 0 ∨ bt = 1 := by omega
          have hbi : (S : Int) / 2 ^ j % 2 = (bt : Int) := by rw [← hbt]; simp
          have hbj : ((S : Int) / 2 ^ j).tmod 2 = (bt : Int) := by rw [Int.tmod_eq_emod_of_nonneg (Int.ediv_nonneg (by omega) (Int.le_of_lt (Int.pow_pos (by decide))))]; exact hbi
          rw [hbt] at Hhs
          have j0 : (0 : Int) ≤ (j : Int) := by omega
          have j1 : (j : Int) < (n : Int) := by omega
          have j2 : (j : Int) ≤ 9 := by omega
          have dj : (j : Int).toNat = j := by omega
          have hlj : l ≤ j := by have := HJ.out.1; have := hisS_len zs S j; omega
          have l8 : (l : Int) ≤ 8 := by omega
          clear hc1 hy hbt hb3
          rcases hb01 with rfl | rfl
          · have HT2 := Lib.hid (show hisS zs S (j + 1) = hisS zs S j by rw [Hhs.out]; simp)
            go_wp2_with fail
            go_roundw
            case rel => exact ⟨j + 1, by omega, by go_num, l, rfl, by omega, by rw [HT2.out]; exact HJ⟩
            case measure => simp [intOf]; omega
          · have HT2 := Lib.hid (show hisS zs S (j + 1) = hisS zs S j ++ [y] by rw [Hhs.out]; simp)
            have hbz := below_alloc_ wj (.cells #[.int .i64 y] 2)
            have hzz := heap_alloc_new_ wj (.cells #[.int .i64 y] 2)
            have ho3 := own_keep (Mut := fun _ => False) HJ.out.2.1 (Keeps.of_new hbz) (fun _ _ e => e)
            obtain ⟨v', W3, hrun, hown3, hK3, hv3⟩ := app_one (n := l) Try.underlying23 info2t_ rfl (by omega) (by omega) ho3 (vals := [.int .i64 y]) rfl hzz (by simp [Value.oneCell']) (by omega)
            have hB2 := HJ.out.2.2.2.trans (hbz.mono HJ.out.2.2.2.size)
            have hB3 : Below wk.heap.size wk W3 := hB2.trans (hK3.below hB2.size (fun j hj e => by have := HJ.out.2.2.1 j e; omega))
            have hv4 : ∀ j, v'.ownBlock = some j → wk.heap.size ≤ j := by
              intro j hj
              rcases hv3 with e | ⟨e, _⟩
              · rw [e] at hj; exact HJ.out.2.2.1 j hj
              · rw [e] at hj; cases hj; exact hB2.size
            have hrun := run_app hrun
            have HB3 := Lib.hid hB3
            have HV4 := Lib.hid hv4
            have HO3 := Lib.hid hown3
            clear hbz hzz ho3 hown3 hK3 hv3 hB3 hv4 hB2
            go_wp2_with fail
            go_roundw
            case rel => exact ⟨j + 1, by omega, by go_num, l + 1, by go_num, by omega, Lib.hid ⟨by rw [HT2.out, List.length_append, ← HJ.out.1]; rfl, by rw [HT2.out, flatI_snoc]; exact HO3.out, HV4.out, HB3.out⟩⟩
            case measure => simp [intOf]; omega
        · obtain rfl : j = n := by omega
          have HL := Lib.hid HJ.out.1
          have HBJ := Lib.hid HJ.out.2.2.2
          obtain ⟨Ca, ca, rfl, hca, hia, -⟩ := ints_own HL.out.symm HJ.out.2.1
          have HI := Lib.hid hia
          clear hia hca HJ
          have HbV := Lib.hid (show bV zs kk S = if kk < (l : Int) then 0 else cntM zs (hisS zs S zs.length) by unfold bV; rw [Hlen.out, ← HL.out])
          rw [Hlen.out] at HbV
          obtain ⟨st, hst⟩ : ∃ st, hisS zs S j = st := ⟨_, rfl⟩
          rw [hst] at HL HI HbV
          clear hst
          by_cases hgt : kk < (l : Int)
          · have HT2 := Lib.hid (show T = bst zs kk (S + 1) by rw [Hst.out, HbV.out, if_pos hgt]; omega)
            go_wp2_with fail
            go_roundw
            case rel => exact ⟨S + 1, by omega, by go_num, ⟨T, rfl, HT2⟩, HB.out.trans (HBJ.out.mono HB.out.size)⟩
            case measure => simp [intOf]; omega
          · have HbW := Lib.hid (show bV zs kk S = cntM zs st by rw [HbV.out, if_neg hgt])
            go_wp2_with fail
            go_loopw [10, 11] (fun t i wr => ∃ j2 : Nat, j2 ≤ j ∧ i = .int .i64 (j2 : Int) ∧ (∃ c : Nat, t = .int .i64 (c : Int) ∧ c ≤ j2 ∧ Hid (c = (zs.take j2).countP (fun r => meets st r) ∧ Below wj.heap.size wj wr))) (fun t i _ => j - (intOf i).toNat)
            case atStart => exact ⟨0, Nat.zero_le _, rfl, 0, rfl, by omega, Lib.hid ⟨rfl, Below.refl _ _⟩⟩
            case round =>
              obtain ⟨k, hk, rfl, c, rfl, hck, HC⟩ := hrel
              obtain ⟨wi, rfl⟩ : ∃ wi, wi = wr := ⟨_, rfl⟩
              by_cases hkl : k < j
              · have hb3 := (HB.out.trans (HBJ.out.mono HB.out.size)).trans (HC.out.2.mono (Nat.le_trans HB.out.size HBJ.out.size))
                obtain ⟨b1, o1, rfl, hc1⟩ := (H.out.below hb3 (Nat.le_refl _)).2 (by omega)
                obtain ⟨c0, c1⟩ := hc1 k hkl
                have Hct := Lib.hid (cnt_take (zs := zs) (st := st) (k := k) (by rw [Hlen.out]; exact hkl))
                rw [← HC.out.1] at Hct
                obtain ⟨g, hg⟩ : ∃ g, gAt zs k = g := ⟨_, rfl⟩
                rw [hg] at c0 c1 Hct
                have hm38 := meets38 g Ca l ca st wi (HI.out.below HC.out.2 (Nat.le_refl _)) (by omega)
                have j0 : (0 : Int) ≤ (k : Int) := by omega
                have j1 : (k : Int) < (j : Int) := by omega
                have j2 : (k : Int) ≤ 9 := by omega
                have c9 : (c : Int) ≤ 9 := by omega
                clear hc1 hg hb3
                go_wp2_with fail
                refine hm38.mono ?_
                rintro en W2 ⟨rfl, hb⟩
                have HB5 := Lib.hid (HC.out.2.trans (hb.mono HC.out.2.size))
                clear hm38 hb c0 c1
                cases hme : meets st g with
                | true =>
                  have HT2 := Lib.hid (show c + 1 = (zs.take (k + 1)).countP (fun r => meets st r) by rw [Hct.out, hme]; rfl)
                  clear hme
                  go_wp2_with fail
                  go_roundw
                  case rel => exact ⟨k + 1, by omega, by go_num, c + 1, by go_num, by omega, Lib.hid ⟨HT2.out, HB5.out⟩⟩
                  case measure => simp [intOf]; omega
                | false =>
                  have HT2 := Lib.hid (show c = (zs.take (k + 1)).countP (fun r => meets st r) by rw [Hct.out, hme]; rfl)
                  clear hme
                  go_wp2_with fail
                  go_roundw
                  case rel => exact ⟨k + 1, by omega, by go_num, c, rfl, by omega, Lib.hid ⟨HT2.out, HB5.out⟩⟩
                  case measure => simp [intOf]; omega
              · obtain rfl : k = j := by omega
                have HT2 := Lib.hid (show max T c = bst zs kk (S + 1) by
                  rw [Hst.out, HbW.out, HC.out.1, ← Hlen.out, List.take_length]; rfl)
                have HB5 := Lib.hid ((HB.out.trans (HBJ.out.mono HB.out.size)).trans (HC.out.2.mono (Nat.le_trans HB.out.size HBJ.out.size)))
                go_wp2_with fail
                go_roundw
                case rel => exact ⟨S + 1, by omega, by go_num, ⟨max T c, by go_num, HT2⟩, HB5.out⟩
                case measure => simp [intOf]; omega
    · obtain rfl : S = N := by omega
      go_wp2_with fail
      go_ret
      exact ⟨by rw [HT.out]; rfl, HB.out⟩
end Go.Proofs.Ytdfdlklglbefiaa
