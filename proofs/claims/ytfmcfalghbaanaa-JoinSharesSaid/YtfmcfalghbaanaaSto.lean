/- Stage 2: the steps, yielded to rounds that own blocks. -/
import Derived.Test.YtfmcfalghbaanaaRgo
import Derived.Test.YtfmcfalghbaanaaBrd
namespace Go.Proofs.Ytfmcfalghbaanaa
set_option linter.unusedSimpArgs false
set_option linter.unusedVariables false
open Go.RowKit Go.Shelf
attribute [local go_sem] Oper.semAt_some
set_option maxRecDepth 100000 in
set_option maxHeartbeats 1000000 in
theorem steps_seqO (X : Array Value) (A : Option Addr) (n cap : Nat) (off lo hi : Int) (T : Nat → Nat → Bool) (M B : Nat) (ps : List Pc) (w : World) (hB : w.heap[B]? = some (.cells X 78 (0, 0))) (hX : Brd X A n cap off lo hi T M) (hp : Pcs w A n ps) (hn : n ≤ 8) :
    SeqO Try.prog 72 #[.pointer (some ⟨B, 0, none⟩)] stE (codesL ps) (fun k => ∃ o, A = some ⟨k, o, none⟩) w := by
  intro l Mut J Jx W hW hMut hJ hJx hY h0
  have c0 : W.cell? ⟨B, 0, none⟩ = some (.slice A n cap) := by
    rw [cell_row ((hW.block B (lt_of_block hB) (fun e => e)).trans hB)]; exact hX.c0
  have Hlen := Lib.hid hp.1
  refine (callsIn_wide (n := 3)).1 ?_
  refine callsIn_of_wp Try.func72 rfl trivial ?_ rfl
  simp only [Try.ntmps72, List.size_toArray, List.length_cons, List.length_nil, Nat.reduceAdd, Nat.reduceSub, Array.replicate_succ, Array.replicate_zero, List.push_toArray, List.append_toArray, List.nil_append, List.cons_append]
  gi_wp2_with fail
  clear c0
  gi_loopw [9] (fun i wr => ∃ (k : Nat) (O : Nat → Prop), k ≤ n ∧ i = .int .i64 (k : Int) ∧ (∀ j, O j → W.heap.size ≤ j ∧ j < wr.heap.size) ∧ J (codesK ps k) O wr ∧ Keeps (fun k => Mut k ∨ W.heap.size ≤ k) W wr) (fun i _ => n - (intOf i).toNat)
  case atStart => exact ⟨0, fun _ => False, Nat.zero_le _, rfl, fun _ e => e.elim, h0, Keeps.refl _ _⟩
  case round =>
    obtain ⟨k, O, hk, rfl, hO, hj, hK⟩ := hrel
    have HO := Lib.hid hO
    have HK := Lib.hid hK
    have HJ := Lib.hid hj
    have HY := Lib.hid hY
    have HJa := Lib.hid hJ
    have HM := Lib.hid hMut
    by_cases hlt : k < n
    · obtain ⟨b, o, rfl, hc⟩ := hp.2 (by omega)
      have hbw := lt_of_cell (hc 0 (by omega)).1
      have hkb : ∀ j, wr.cell? ⟨b, j, none⟩ = w.cell? ⟨b, j, none⟩ := fun j => by
        have h1 : wr.heap[b]? = w.heap[b]? := (hK.block b (Nat.lt_of_lt_of_le hbw hW.size) (by
          rintro (e | e)
          · exact (hMut b e).2 ⟨o, rfl⟩
          · have := hW.size; omega)).trans (hW.block b hbw (fun e => e))
        simp [World.cell?, h1]
      obtain ⟨a0, a1, a2, a3, a4, a5, a6⟩ := hc k hlt
      rw [← hkb] at a0 a1 a2 a3 a4 a5 a6
      clear hkb hc
      obtain ⟨post, hpost⟩ := codesK_split ps k ps.length (by have := Hlen.out; omega)
      have HS := Lib.hid (codesK_succ ps k)
      obtain ⟨p, hpk⟩ : ∃ p, pAt ps k = p := ⟨_, rfl⟩
      rw [hpk] at a0 a1 a2 a3 a4 a5 a6 hpost HS
      have i0 : (0 : Int) ≤ (k : Int) := by omega
      have i1 : (k : Int) < (n : Int) := by omega
      have HK1 := Lib.hid (show Keeps (fun k => Mut k ∨ W.heap.size ≤ k) W (wr.alloc (.cells #[.int .i64 p.a.d.lo, .int .i64 p.a.d.hi, .int .i64 p.a.p, .int .i64 p.b.d.lo, .int .i64 p.b.d.hi, .int .i64 p.b.p, .bool p.loose] 62)) from hK.trans (keep_alloc _ _ _))
      have HJ1 := Lib.hid (hJ _ _ _ _ hj (keep_alloc _ wr (.cells #[.int .i64 p.a.d.lo, .int .i64 p.a.d.hi, .int .i64 p.a.p, .int .i64 p.b.d.lo, .int .i64 p.b.d.hi, .int .i64 p.b.p, .bool p.loose] 62)))
      have hwW := hK.size
      have hsplit : codesL ps = codesK ps k ++ (2 * k) :: (if p.loose then (2 * k + 1) :: post else post) := by
        unfold codesL
        rw [hpost]
        cases p.loose <;> rfl
      have hO1 : ∀ j, O j → W.heap.size ≤ j ∧ j < (wr.alloc (.cells #[.int .i64 p.a.d.lo, .int .i64 p.a.d.hi, .int .i64 p.a.p, .int .i64 p.b.d.lo, .int .i64 p.b.d.hi, .int .i64 p.b.p, .bool p.loose] 62)).heap.size := fun j h => by have := HO.out j h; rw [World.size_alloc]; omega
      have hy0 := hY _ _ _ (wr.alloc (.cells #[.int .i64 p.a.d.lo, .int .i64 p.a.d.hi, .int .i64 p.a.p, .int .i64 p.b.d.lo, .int .i64 p.b.d.hi, .int .i64 p.b.p, .bool p.loose] 62)) O hsplit (by simp; omega) hO1 HJ1.out (3 - 1)
      rw [stE_even] at hy0
      obtain ⟨fn, tmps, assign, body, hy, hR⟩ := hy0
      have HSp := Lib.hid hsplit
      have cl : ∀ W', Keeps (fun k => Mut k ∨ O k) (wr.alloc (.cells #[.int .i64 p.a.d.lo, .int .i64 p.a.d.hi, .int .i64 p.a.p, .int .i64 p.b.d.lo, .int .i64 p.b.d.hi, .int .i64 p.b.p, .bool p.loose] 62)) W' → W'.cell? ⟨wr.heap.size, 6, none⟩ = some (.bool p.loose) := fun W' h => by
        rw [keep_cells h (by simp) (by
          rintro (e | e)
          · have := (hMut _ e).1; omega
          · have := (HO.out _ e).2; omega)]
        go_simp
      have Hcl := Lib.hid cl
      clear cl hsplit hpost hK hj hY hJ hMut hp hpk hO hO1
      gi_wp2_with fail
      refine hR.mono ?_
      rintro e W2 (⟨rfl, O2, hg2, hj2, hK2⟩ | ⟨rfl, O2, hg2, hj2, hK2⟩)
      · have c6 := Hcl.out _ hK2
        have HJ2 := Lib.hid hj2
        have HK2 := Lib.hid (HK1.out.trans (hK2.mono (fun k _ e => e.elim .inl (fun e => .inr (HO.out k e).1))))
        have hsz2 := hK2.size
        simp only [World.size_alloc] at hsz2
        have HO2 := Lib.hid (show ∀ j, O2 j → W.heap.size ≤ j ∧ j < W2.heap.size from fun j h => (hg2.2 j h).elim (fun h => by have := HO.out j h; omega) (fun h => by have h1 := h.1; rw [World.size_alloc] at h1; omega))
        clear hj2 hK2 hy hg2
        cases hl : p.loose with
        | true =>
          rw [hl] at c6
          have hy1 := HY.out (codesK ps k ++ [2 * k]) (2 * k + 1) post W2 O2 (by rw [HSp.out, hl]; simp) (by omega) HO2.out HJ2.out (3 - 1)
          rw [stE_odd] at hy1
          obtain ⟨fn2, tmps2, assign2, body2, hy, hR2⟩ := hy1
          have Hl := Lib.hid hl
          clear hl
          gi_wp2_with fail
          refine hR2.mono ?_
          rintro e W3 (⟨rfl, O3, hg3, hj3, hK3⟩ | ⟨rfl, O3, hg3, hj3, hK3⟩)
          · have HJ3 := Lib.hid hj3
            have HK3 := Lib.hid (HK2.out.trans (hK3.mono (fun k _ e => e.elim .inl (fun e => .inr (HO2.out k e).1))))
            have hsz3 := hK3.size
            have HO3 := Lib.hid (show ∀ j, O3 j → W.heap.size ≤ j ∧ j < W3.heap.size from fun j h => (hg3.2 j h).elim (fun h => by have := HO2.out j h; omega) (fun h => by omega))
            clear hj3 hK3 hy c6 hg3
            gi_wp2_with fail
            go_roundw
            case rel => exact ⟨k + 1, O3, by omega, by go_num, HO3.out, by rw [HS.out, Hl.out]; have := HJ3.out; simpa using this, HK3.out⟩
            case measure => simp [intOf]; omega
          · have HJ3 := Lib.hid hj3
            have hsz3 := hK3.size
            have HO3 := Lib.hid (show ∀ j, O3 j → W.heap.size ≤ j ∧ j < W3.heap.size from fun j h => (hg3.2 j h).elim (fun h => by have := HO2.out j h; omega) (fun h => by omega))
            clear hj3 hK3 hy c6 hg3
            gi_wp2_with fail
            exact bodyPost_ret (results_none rfl _ _ _) rfl ⟨⟨_, rfl⟩, O3, HO3.out, .inr ⟨codesK ps k ++ [2 * k], 2 * k + 1, post, by rw [HSp.out, Hl.out]; simp, HJ3.out⟩⟩
        | false =>
          rw [hl] at c6
          have Hl := Lib.hid hl
          clear hl
          gi_wp2_with fail
          refine ⟨fun _ h => (by cases h), ?_⟩
          gi_wp2_with fail
          go_roundw
          case rel => exact ⟨k + 1, O2, by omega, by go_num, HO2.out, by rw [HS.out, Hl.out]; exact HJ2.out, HK2.out⟩
          case measure => simp [intOf]; omega
      · have HJ2 := Lib.hid hj2
        have hsz2 := hK2.size
        simp only [World.size_alloc] at hsz2
        have HO2 := Lib.hid (show ∀ j, O2 j → W.heap.size ≤ j ∧ j < W2.heap.size from fun j h => (hg2.2 j h).elim (fun h => by have := HO.out j h; omega) (fun h => by have h1 := h.1; rw [World.size_alloc] at h1; omega))
        clear hj2 hK2 hy hg2
        gi_wp2_with fail
        exact bodyPost_ret (results_none rfl _ _ _) rfl ⟨⟨_, rfl⟩, O2, HO2.out, .inr ⟨codesK ps k, 2 * k, _, HSp.out, HJ2.out⟩⟩
    · have hkn : k = ps.length := by have := Hlen.out; omega
      clear hK hj hY hJ hMut hp hO
      gi_wp2_with fail
      go_end0
      exact ⟨⟨_, rfl⟩, O, HO.out, .inl (by unfold codesL; rw [← hkn]; exact HJ.out)⟩
end Go.Proofs.Ytfmcfalghbaanaa
