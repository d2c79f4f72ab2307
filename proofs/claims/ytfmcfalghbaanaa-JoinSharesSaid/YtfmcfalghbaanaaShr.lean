/- Stage 2: the pairs that all joins share (shared56). -/
import Derived.Test.YtfmcfalghbaanaaRng
import Derived.Test.YtfmcfalghbaanaaTops
import Derived.Test.YtfmcfalghbaanaaWo
namespace Go.Proofs.Ytfmcfalghbaanaa
set_option linter.unusedSimpArgs false
set_option linter.unusedVariables false
open Go.RowKit Go.Shelf
attribute [local go_sem] Oper.semAt_some
attribute [local go_sem ↓] exec_load78
attribute [local go_sem ↓] at_load78

/-- The pairs of the first steps of a list. -/
def pairsK (ls : List Nat) (k : Nat) : Nat → Nat → Bool := fun x y => (List.range k).any fun i => decide (x = ls.getD i 0) && decide (y = ls.getD (i + 1) 0)
theorem pairsK_succ (ls : List Nat) (k : Nat) (h : k + 1 < ls.length) : pairsK ls (k + 1) = fun i j => pairsK ls k i j || (decide (i = ls[k]) && decide (j = ls[k + 1])) := by
  funext i j
  unfold pairsK
  rw [List.range_succ, List.any_append]
  have h1 : ls.getD k 0 = ls[k] := by simp [List.getD, show k < ls.length by omega]
  have h2 : ls.getD (k + 1) 0 = ls[k + 1] := by simp [List.getD, h]
  simp only [List.any_cons, List.any_nil, Bool.or_false, h1, h2]
theorem pairsK_all (ls : List Nat) (x y : Nat) : pairsK ls (ls.length - 1) x y = hasP ls x y := by
  rw [Bool.eq_iff_iff, hasP_iff]
  unfold pairsK
  rw [List.any_eq_true]
  constructor
  · rintro ⟨i, hi, h⟩
    have hi := List.mem_range.1 hi
    simp only [Bool.and_eq_true, decide_eq_true_eq] at h
    have h1 : ls.getD i 0 = ls[i] := by simp [List.getD, show i < ls.length by omega]
    have h2 : ls.getD (i + 1) 0 = ls[i + 1] := by simp [List.getD, show i + 1 < ls.length by omega]
    rw [h1, h2] at h
    refine ⟨ls.take i, ls.drop (i + 2), ?_⟩
    rw [h.1, h.2, ← List.drop_eq_getElem_cons (by omega), ← List.drop_eq_getElem_cons (by omega), List.take_append_drop]
  · rintro ⟨l0, l2, rfl⟩
    refine ⟨l0.length, List.mem_range.2 (by simp), ?_⟩
    simp [List.getD]
theorem slice29 (C n : Nat) (h1 : 1 ≤ n) (h8 : n ≤ 8) (W : World) : (Instr.slice 29 (.slice (some ⟨C, 0, none⟩) n n) (some (.int .i64 1)) none none).run Try.prog W = .ok (.slice (some ⟨C, if n = 1 then 0 else 2, none⟩) (n - 1) (n - 1)) W := by
  obtain ⟨i, hi, hz, hs, hb⟩ := info_parts info28_
  have he : Try.prog.elem 29 = 28 := by kernel_rfl
  rw [run_slice_l (P := Try.prog) W 29 (some ⟨C, 0, none⟩) n n (by rw [he]; exact Try.underlying29) .i64 1 (by omega) (by omega)]
  rw [he]
  simp only [sizeOf, Sem.run_bind, typeInfo, hi, hs]
  by_cases h : n = 1
  · subst h; simp [sliced, hi, typeInfo, hs]
  · have h2 : ¬ (n : Nat) = 1 := h
    simp [sliced, hi, typeInfo, hs, h2, Addr.add_lit]
set_option maxRecDepth 100000 in
set_option maxHeartbeats 4000000 in
theorem shared56 (X : Array Value) (A : Option Addr) (n cap : Nat) (off lo hi : Int) (T : Nat → Nat → Bool) (M : Nat) (ps : List Pc) (hX : Brd X A n cap off lo hi T M) (hn1 : 1 ≤ n) (hn : n ≤ 8) (nn : Nat) (w : World)
    (hp : Pcs w A n ps) (hm : Memo w M nn T (codesL ps) n) (hnn : nn + 128 * 17 ^ 9 ≤ 1000000000000000000) (ls : List Nat) (hnum : (joins T (codesL ps) n)[0]? = some ls) :
    Calls Try.prog 56 #[.agg X] w fun e w' => ∃ S, e = .returned (.map (some S)) ∧ w.heap.size ≤ S ∧ PSet w' S 100 (sharedB T (codesL ps) n) ∧ Memo w' M (nn + 128 * 17 ^ 9) T (codesL ps) n ∧ Keeps (fun j => j = M) w w' := by
  have hMw := hm.lt
  have hsz := hX.size
  have hmm := @run_makeMap Try.prog
  have e0 : ((w.alloc (.cells X 78)).alloc (.map #[] 0)).heap[w.heap.size]? = some (.cells X 78 (0, 0)) := hal_old (heap_alloc_new_ _ _)
  have l78 : runO Try.prog (ld 78) (.pointer (some ⟨w.heap.size, 0, none⟩)) ((w.alloc (.cells X 78)).alloc (.map #[] 0)) = .ok (.value (.agg X)) _ := run_ld78 e0 hsz
  have Hp := Lib.hid hp
  have Hm := Lib.hid hm
  have Hnn := Lib.hid hnn
  have Hnum := Lib.hid hnum
  have HX := Lib.hid hX
  clear hp hm hnn hnum hX
  refine (callsIn_wide (n := 5)).1 ?_
  refine callsIn_of_wp Try.func56 rfl trivial ?_ rfl
  simp only [Try.ntmps56, List.size_toArray, List.length_cons, List.length_nil, Nat.reduceAdd, Nat.reduceSub, Array.replicate_succ, Array.replicate_zero, List.push_toArray, List.append_toArray, List.nil_append, List.cons_append]
  gi_wp2_with fail
  have K2 := Lib.hid (show Keeps (fun _ => False) w ((w.alloc (.cells X 78)).alloc (.map #[] 0)) from (keep_alloc _ _ _).trans (keep_alloc _ _ _))
  have E0 := Lib.hid e0
  have E1 := Lib.hid (show ((w.alloc (.cells X 78)).alloc (.map #[] 0)).heap[w.heap.size + 1]? = some (.map #[] 0) from hal_new (by simp))
  have hs2 := eq_le (show ((w.alloc (.cells X 78)).alloc (.map #[] 0)).heap.size = w.heap.size + 2 by simp)
  obtain ⟨W2, hW2⟩ : ∃ W2, (w.alloc (.cells X 78)).alloc (.map #[] 0) = W2 := ⟨_, rfl⟩
  rw [hW2] at K2 E0 E1 hs2 ⊢
  clear hW2 e0 l78
  refine ⟨trivial, (callsIn_wide.2 (nth53 X A n cap off lo hi T M ps HX.out hn1 hn 0 nn W2 (Hp.out.keep K2.out (fun _ _ e => e.elim)) (Hm.out.keep K2.out (fun e => e)) Hnn.out ls Hnum.out)).mono ?_⟩
  rintro e W3 ⟨C, rfl, hC, hS, hm3, hk3⟩
  obtain ⟨o, ho⟩ : ∃ o, (if n = 1 then 0 else 2) = o := ⟨_, rfl⟩
  have hsl : ∀ W, (Instr.slice 29 (.slice (some ⟨C, 0, none⟩) n n) (some (.int .i64 1)) none none).run Try.prog W = .ok (.slice (some ⟨C, o, none⟩) (n - 1) (n - 1)) W := fun W => by rw [← ho]; exact slice29 C n hn1 hn W
  have HS := Lib.hid hS
  have HM3 := Lib.hid hm3
  have HK3 := Lib.hid hk3
  have Ho := Lib.hid ho
  clear hS hm3 hk3 ho
  gi_wp2_with fail
  have hlsn : ls.length = n := by
    have h1 := List.mem_of_getElem? Hnum.out
    exact ((mem_ways _ _ _ _ _).1 h1).1
  have hls16 : ∀ j (hj : j < ls.length), ls[j] < 16 := fun j hj => by
    have h1 := List.mem_of_getElem? Hnum.out
    have h2 := ((way_iff _ _ _ _).1 ((mem_ways _ _ _ _ _).1 h1).2).1 _ (List.getElem_mem hj)
    have h3 := codes_ok ps _ h2
    have := Hp.out.1
    omega
  have hSP := PSet.new ((HK3.out.block _ (lt_of_block E1.out) (by omega)).trans E1.out)
  have HSP := Lib.hid hSP
  have Hls := Lib.hid hls16
  clear hSP hls16 hsl
  have hs3 := HK3.out.size
  refine wpIn_loop (fun a W => ∃ (k : Nat) (v5 v6 v15 v16 v17 v18 v19 v20 v21 v22 v23 v24 v25 v26 : Value), a = { tmps := #[.agg X, .pointer (some ⟨w.heap.size, 0, none⟩), .map none, .map (some (w.heap.size + 1)), .slice (some ⟨C, 0, none⟩) n n, v5, v6, undef, .map (some (w.heap.size + 1)), .agg X, .slice (some ⟨C, 0, none⟩) n n, .slice (some ⟨C, 0, none⟩) n n, .slice (some ⟨C, o, none⟩) (n - 1) (n - 1), .int .i64 ((n - 1 : Nat) : Int), .int .i64 (k : Int), v15, v16, v17, v18, v19, v20, v21, v22, v23, v24, v25, v26, undef, undef, undef, undef, undef, undef, undef, undef, undef, undef, undef, undef, undef, undef], defers := [] } ∧ k ≤ n - 1 ∧ PSet W (w.heap.size + 1) k (pairsK ls k) ∧ Keeps (fun j => j = w.heap.size + 1) W3 W)
    (fun a _ => n - (intOf (a.tmps.getD 14 undef)).toNat) ?start ?round
  case start => exact ⟨0, _, _, _, _, _, _, _, _, _, _, _, _, _, _, rfl, Nat.zero_le _, HSP.out, Keeps.refl _ _⟩
  case round =>
    rintro a W ⟨k, v5, v6, v15, v16, v17, v18, v19, v20, v21, v22, v23, v24, v25, v26, rfl, hkn, hPS, hkeep⟩
    have HPS := Lib.hid hPS
    have Hkeep := Lib.hid hkeep
    clear hPS hkeep
    have hwl : W3.heap.size ≤ W.heap.size := Hkeep.out.size
    by_cases hk : k < n - 1
    · have dk : decide (k < n - 1) = true := decide_eq_true hk
      have dk2 : decide ((k : Int) < ((n - 1 : Nat) : Int)) = true := decide_eq_true (by omega)
      obtain rfl : o = 2 := by have := Ho.out; rw [if_neg (by omega)] at this; exact this.symm
      have hSW := HS.out.keep Hkeep.out (fun j p hj e => by subst hj; injection e with e; injection e with e _; omega)
      obtain ⟨b', o', e', hc'⟩ := hSW.2 (by omega)
      cases e'
      obtain ⟨g0, g1⟩ := hc' k (by omega)
      obtain ⟨g2, g3⟩ := hc' (k + 1) (by omega)
      rw [sAt_map (by omega)] at g0 g1 g2 g3
      obtain ⟨p, t, _, hst, hsx⟩ := stE_form (ls[k]'(by omega))
      obtain ⟨p', t', _, hst', hsx'⟩ := stE_form (ls[k + 1]'(by omega))
      rw [hst] at g0 g1
      rw [hst'] at g2 g3
      simp only at g0 g1 g2 g3
      rw [Nat.zero_add] at g0 g1
      rw [show 0 + (k + 1) * 2 = 2 + k * 2 by omega] at g2 g3
      have Hsx := Lib.hid hsx
      have Hsx' := Lib.hid hsx'
      have G0 := Lib.hid g0
      have G1 := Lib.hid g1
      clear hc' hSW hsx hsx' hst hst' g0 g1
      gi_wp2_with fail
      have hV := keep_alloc (fun _ => False) W (.cells #[.int .i64 (p' : Int), .bool t'] 28)
      have hVn := heap_alloc_new_ W (.cells #[.int .i64 (p' : Int), .bool t'] 28)
      obtain ⟨V, hVe⟩ : ∃ V, W.alloc (.cells #[.int .i64 (p' : Int), .bool t'] 28) = V := ⟨_, rfl⟩
      rw [hVe] at hV hVn ⊢
      clear hVe
      have hVd : Keeps (fun _ => False) W V.drew := hV.trans (Keeps.of_new (drew_b V 1))
      have gc := lt_of_cell G0.out
      have a0 : V.drew.cell? ⟨C, k * 2, none⟩ = some (.int .i64 (p : Int)) := by rw [keep_cells hVd gc (fun e => e)]; exact G0.out
      have a1 : V.drew.cell? ⟨C, k * 2 + 1, none⟩ = some (.bool t) := by rw [keep_cells hVd gc (fun e => e)]; exact G1.out
      have hVn2 : V.drew.heap[W.heap.size]? = some (.cells #[.int .i64 (p' : Int), .bool t'] 28 (0, 0)) := hVn
      have b0 : V.drew.cell? ⟨W.heap.size, 0, none⟩ = some (.int .i64 (p' : Int)) := by rw [cell_row hVn2]; rfl
      have b1 : V.drew.cell? ⟨W.heap.size, 1, none⟩ = some (.bool t') := by rw [cell_row hVn2]; rfl
      obtain ⟨W9, hup, hP9, hK9⟩ := (HPS.out.keep hVd (fun e => e)).update (by omega) Hsx.out Hsx'.out (Hls.out k (by omega)) (Hls.out (k + 1) (by omega))
      have hkn1 : k < n := by omega
      have hkn2 : (k : Int) < (n : Int) := by omega
      have HVd := Lib.hid hVd
      clear hV hVn hVn2 hVd
      obtain ⟨V2, hV2⟩ : ∃ V2, V.drew = V2 := ⟨_, rfl⟩
      refine Out.region_R (z := 7) (S := fun W' => W' = V2) (by kernel_rfl) ?_
      rw [hV2] at a0 a1 b0 b1 hup hK9 HVd ⊢
      clear hV2
      have hS0 : (fun W' => W' = V2) V2 := rfl
      refine Out.anyR_free (i := 0) (v := .map (some (w.heap.size + 1))) rfl (by decide) (by kernel_rfl) (by kernel_rfl) (by kernel_rfl) (fun _ _ _ h => h) (Or.inl ⟨by rfl, by intro W' _; go_simp⟩) hS0 ?_
      simp only [Act.put, List.setIfInBounds_toArray, List.set_cons_zero, List.set_cons_succ]
      refine Out.anyR_free (i := 1) (v := .slice (some ⟨C, 0, none⟩) n n) rfl (by decide) (by kernel_rfl) (by kernel_rfl) (by kernel_rfl) (fun _ _ _ h => h) (Or.inl ⟨by rfl, by intro W' _; go_simp⟩) hS0 ?_
      simp only [Act.put, List.setIfInBounds_toArray, List.set_cons_zero, List.set_cons_succ]
      refine Out.anyR_free (i := 2) (v := .int .i64 (k : Int)) rfl (by decide) (by kernel_rfl) (by kernel_rfl) (by kernel_rfl) (fun _ _ _ h => h) (Or.inl ⟨by rfl, by intro W' _; go_simp⟩) hS0 ?_
      simp only [Act.put, List.setIfInBounds_toArray, List.set_cons_zero, List.set_cons_succ]
      refine Out.anyR_take (i := 3) (v := .pointer (some ⟨C, k * 2, none⟩)) rfl (by decide) (by kernel_rfl) (by kernel_rfl) (by kernel_rfl) (by kernel_rfl) (fun _ _ _ h => h) (Or.inl ⟨by rfl, by intro W' hSw; (try dsimp only at hSw); subst hSw; go_simp⟩) hS0 ?_
      simp only [Act.put, List.setIfInBounds_toArray, List.set_cons_zero, List.set_cons_succ]
      refine Out.anyR_take (i := 4) (v := .agg #[.int .i64 (p : Int), .bool t]) rfl (by decide) (by kernel_rfl) (by kernel_rfl) (by kernel_rfl) (by kernel_rfl) (fun _ _ _ h => h) (Or.inl ⟨by rfl, by intro W' hSw; (try dsimp only at hSw); subst hSw; go_simp⟩) hS0 ?_
      simp only [Act.put, List.setIfInBounds_toArray, List.set_cons_zero, List.set_cons_succ]
      refine Out.anyR_take (i := 5) (v := .agg #[.int .i64 (p' : Int), .bool t']) rfl (by decide) (by kernel_rfl) (by kernel_rfl) (by kernel_rfl) (by kernel_rfl) (fun _ _ _ h => h) (Or.inl ⟨by rfl, by intro W' hSw; (try dsimp only at hSw); subst hSw; go_simp⟩) hS0 ?_
      simp only [Act.put, List.setIfInBounds_toArray, List.set_cons_zero, List.set_cons_succ]
      refine Out.anyR_free (i := 6) (v := .agg #[.int .i64 (p : Int), .bool t, .int .i64 (p' : Int), .bool t']) rfl (by decide) (by kernel_rfl) (by kernel_rfl) (by kernel_rfl) (fun _ _ _ h => h) (Or.inl ⟨by rfl, by intro W' _; go_simp⟩) hS0 ?_
      simp only [Act.put, List.setIfInBounds_toArray, List.set_cons_zero, List.set_cons_succ]
      refine Out.anyR_one (i := 7) (by kernel_rfl) rfl (by rfl) ?_
      intro K hK
      have HKK := Lib.hid hK
      clear hK hS0
      go_simp
      refine HKK.out _ _ (fun e => absurd rfl e) ?_
      refine Out.anyR_done (by kernel_rfl) ?_ _
      have HP9 := Lib.hid hP9
      have HK9 := Lib.hid hK9
      clear hP9 hK9 HKK K a0 a1 b0 b1 hup
      have hw1 : IntKind.i64.wrap ((k : Int) + 1) = (k : Int) + 1 := IntWalk.i64_in _ (by omega)
      gi_wp2_with fail
      refine ⟨⟨k + 1, _, _, _, _, _, _, _, _, _, _, _, _, _, _, rfl, by omega, ?_, (Hkeep.out.trans HVd.out.none).trans HK9.out⟩, ?_⟩
      · rw [pairsK_succ ls k (by omega)]; exact HP9.out
      · show n - (intOf (.int .i64 ((k : Int) + 1))).toNat < n - (intOf (.int .i64 (k : Int))).toNat
        simp only [intOf]
        omega
    · have dk : decide (k < n - 1) = false := decide_eq_false hk
      have dk2 : decide ((k : Int) < ((n - 1 : Nat) : Int)) = false := decide_eq_false (by omega)
      obtain ⟨W4, cnt, hrg, hPR, hK4, hs4⟩ := (HPS.out.mono (nn' := 100) (by omega)).range
      have hs4x := eq_le hs4
      have HPR := Lib.hid hPR
      have HK4 := Lib.hid hK4
      clear hPR hK4 hs4
      obtain rfl : k = n - 1 := by omega
      have hcl : (codesL ps).length ≤ 16 := Nat.le_trans (codes_len_ ps ps.length) (by have := Hp.out.1; omega)
      gi_wp2_with fail
      refine wpIn_loop (fun a U => ∃ (b l : Nat → Nat → Bool) (c : Nat) (v7 v29 v30 v31 v32 v33 v34 v35 v36 v37 v38 v39 : Value), a = { tmps := #[.agg X, .pointer (some ⟨w.heap.size, 0, none⟩), .map none, .map (some (w.heap.size + 1)), .slice (some ⟨C, 0, none⟩) n n, v5, v6, v7, .map (some (w.heap.size + 1)), .agg X, .slice (some ⟨C, 0, none⟩) n n, .slice (some ⟨C, 0, none⟩) n n, .slice (some ⟨C, o, none⟩) (n - 1) (n - 1), .int .i64 ((n - 1 : Nat) : Int), .int .i64 ((n - 1 : Nat) : Int), .bool false, v16, v17, v18, v19, v20, v21, v22, v23, v24, v25, v26, .map (some (w.heap.size + 1)), .pointer (some ⟨W.heap.size, 0, none⟩), v29, v30, v31, v32, v33, v34, v35, v36, v37, v38, v39, undef], defers := [] } ∧ PRng U (w.heap.size + 1) W.heap.size 100 b l c ∧ (∀ i j, b i j = (hasP ls i j && (l i j || sharedB T (codesL ps) n i j))) ∧ Keeps (fun j => j = w.heap.size + 1 ∨ j = W.heap.size) W4 U)
        (fun _ U => U.rangeLeft (w.heap.size + 1) W.heap.size) ?start2 ?round2
      case start2 =>
        refine ⟨_, _, _, _, _, _, _, _, _, _, _, _, _, _, _, rfl, HPR.out, fun i j => ?_, Keeps.refl _ _⟩
        have h1 := pairsK_all ls i j
        rw [hlsn] at h1
        rw [h1]
        cases hasP ls i j <;> rfl
      case round2 =>
        rintro a U ⟨b, l, c, v7, v29, v30, v31, v32, v33, v34, v35, v36, v37, v38, v39, rfl, hPU, hbl, hKU⟩
        have hU0 := (hKU.block _ (by omega) (by omega)).trans ((HK4.out.block _ (by omega) (fun e => e)).trans ((Hkeep.out.block _ (by omega) (by omega)).trans ((HK3.out.block _ (by omega) (by omega)).trans E0.out)))
        rcases hPU.next 0 with ⟨hl0, hnx⟩ | ⟨x, y, p, q, t, u, v, U1, c1, hx16, hy16, hx, hy, hlxy, hnx, hPU1, hc1, hKU1, hen⟩
        · have HPU := Lib.hid hPU
          have Hbl := Lib.hid hbl
          have HKU := Lib.hid hKU
          have Hl0 := Lib.hid hl0
          clear hPU hbl hKU hl0 hU0
          gi_wp2_with fail
          have hmem : ls ∈ joins T (codesL ps) n := List.mem_of_getElem? Hnum.out
          refine bodyPost_ret (v := .map (some (w.heap.size + 1))) (by simp [results, Try.results56, go_sem]) rfl ?_
          have kf : Keeps (fun j => j = w.heap.size + 1 ∨ j = W.heap.size) W3 U := ((Hkeep.out.mono (fun j _ e => .inl e)).trans HK4.out.none).trans HKU.out
          refine ⟨w.heap.size + 1, rfl, by omega, HPU.out.owns.congr (fun i j hi hj => ?_), HM3.out.keep kf (by omega), ?_⟩
          · rw [Hbl.out i j, Hl0.out i j hi hj, Bool.false_or]
            cases hsb : sharedB T (codesL ps) n i j with
            | false => simp
            | true =>
              unfold sharedB at hsb
              rw [List.all_eq_true.1 hsb ls hmem]
              rfl
          · exact ((K2.out.none.trans (HK3.out.mono (Mut' := fun j => j = M ∨ w.heap.size ≤ j) (fun j _ e => .inl e))).trans (kf.mono (fun j _ e => by omega))).mono (fun j hj e => by omega)
        · have HPU1 := Lib.hid hPU1
          have Hbl := Lib.hid hbl
          have HKU1 := Lib.hid (hKU.trans (hKU1.mono (fun j _ e => .inr e)))
          have Hx := Lib.hid hx
          have Hy := Lib.hid hy
          have Hlc := Lib.hid hPU.left_eq
          have hU1 := (hKU1.block _ (lt_of_block hU0) (by omega)).trans hU0
          have kV := keep_alloc (fun _ => False) U1 (.cells (prV p t q u) 57)
          have nV := heap_alloc_new_ U1 (.cells (prV p t q u) 57)
          have l78 : runO Try.prog (ld 78) (.pointer (some ⟨w.heap.size, 0, none⟩)) (U1.alloc (.cells (prV p t q u) 57)) = .ok (.value (.agg X)) _ := run_ld78 (hal_old hU1) hsz
          have x0 : (U1.alloc (.cells (prV p t q u) 57)).cell? ⟨U1.heap.size, 0, none⟩ = some (.int .i64 (p : Int)) := by rw [cell_row nV]; rfl
          have x1 : (U1.alloc (.cells (prV p t q u) 57)).cell? ⟨U1.heap.size, 1, none⟩ = some (.bool t) := by rw [cell_row nV]; rfl
          have x2 : (U1.alloc (.cells (prV p t q u) 57)).cell? ⟨U1.heap.size, 2, none⟩ = some (.int .i64 (q : Int)) := by rw [cell_row nV]; rfl
          have x3 : (U1.alloc (.cells (prV p t q u) 57)).cell? ⟨U1.heap.size, 3, none⟩ = some (.bool u) := by rw [cell_row nV]; rfl
          obtain ⟨V, hV⟩ : ∃ V, U1.alloc (.cells #[.int .i64 (p : Int), .bool t, .int .i64 (q : Int), .bool u] 57) = V := ⟨_, rfl⟩
          unfold prV at kV nV l78 x0 x1 x2 x3
          rw [hV] at kV nV l78 x0 x1 x2 x3
          have KV := Lib.hid kV
          have NV := Lib.hid nV
          clear hPU hPU1 hbl hKU hKU1 hx hy hlxy hU0 hU1 kV nV
          gi_wp2_with fail
          refine ⟨trivial, (callsIn_wide.2 (without71 X A n cap off lo hi T M p q x y t u V HX.out Hx.out Hy.out hx16 hy16)).mono ?_⟩
          rintro e U3 ⟨X', M', rfl, hX', hM', hMV, hb3⟩
          have HX' := Lib.hid hX'
          have hMlt := lt_of_block hM'
          have hm' : Memo U3 M' 0 (cut T x y) (codesL ps) n := Memo.new hM' _ _ _
          have hkb : Keeps (fun _ => False) V U3 := ⟨hb3.os, hb3.tape, hb3.output, hb3.size, fun k hk _ => hb3.block k hk⟩
          have HKb := Lib.hid hkb
          have Hm' := Lib.hid hm'
          have hpU : Pcs U3 A n ps := by
            have h1 : Keeps (fun j => j = M ∨ j = w.heap.size + 1 ∨ j = W.heap.size) w W4 := ((K2.out.none.trans (HK3.out.mono (fun j _ e => .inl e))).trans (Hkeep.out.mono (fun j _ e => .inr (.inl e)))).trans HK4.out.none
            have h2 := ((h1.trans (HKU1.out.mono (fun j _ e => .inr e))).trans KV.out.none).trans hkb.none
            refine Hp.out.keep h2 (fun j o2 hj e => ?_)
            have h3 := pcs_lt Hp.out (by omega) j ⟨o2, e⟩
            rcases hj with rfl | rfl | rfl
            · exact pcs_not_map Hp.out (by omega) Hm.out o2 e
            · omega
            · omega
          have HpU := Lib.hid hpU
          clear hX' hM' hb3 hm' hkb hpU l78 x0 x1 x2 x3 hV
          gi_wp2_with fail
          refine ⟨trivial, (callsIn_wide.2 (leads55 X' A n cap off lo hi (cut T x y) M' ps HX'.out hn1 hn n 0 0 0 0 false _ HpU.out Hm'.out (bud1 hn) (Nat.two_pow_pos n) (by omega) rfl (left_start n 0))).mono ?_⟩
          rintro e U5 ⟨rfl, _, hk5⟩
          have hsh : decide (0 < cntA (cut T x y) (codesL ps) n ⟨0, 0⟩) = !sharedB T (codesL ps) n x y := by
            have h1 := shared_iff T (codesL ps) n x y
            unfold cntA
            rw [left_start]
            cases hsb : sharedB T (codesL ps) n x y with
            | true =>
              have h2 := h1.1 hsb
              unfold joins at h2
              rw [h2]; rfl
            | false =>
              have h2 : joins (cut T x y) (codesL ps) n ≠ [] := fun h => by rw [h1.2 h] at hsb; cases hsb
              have h3 := Nat.pos_of_ne_zero (fun e => h2 (List.eq_nil_of_length_eq_zero e))
              exact decide_eq_true h3
          rw [hsh]
          have hb41 := HKU1.out.size
          have hb42 := KV.out.size
          have kU5 : Keeps (fun j => j = M') U1 U5 := (KV.out.none.trans HKb.out.none).trans hk5
          have hVs := lt_of_block NV.out
          have hP5 := HPU1.out.keep kU5 (by omega) (by omega)
          have n5 := ((HKb.out.none.trans hk5).block _ hVs (by omega)).trans NV.out
          have y0 : U5.cell? ⟨U1.heap.size, 0, none⟩ = some (.int .i64 (p : Int)) := by rw [cell_row n5]; rfl
          have y1 : U5.cell? ⟨U1.heap.size, 1, none⟩ = some (.bool t) := by rw [cell_row n5]; rfl
          have y2 : U5.cell? ⟨U1.heap.size, 2, none⟩ = some (.int .i64 (q : Int)) := by rw [cell_row n5]; rfl
          have y3 : U5.cell? ⟨U1.heap.size, 3, none⟩ = some (.bool u) := by rw [cell_row n5]; rfl
          have KU5 := Lib.hid (HKU1.out.trans (kU5.mono (Mut' := fun j => j = w.heap.size + 1 ∨ j = W.heap.size) (fun j _ e => by omega)))
          have HP5 := Lib.hid hP5
          clear kU5 hk5 n5 hsh hP5
          cases hsb : sharedB T (codesL ps) n x y with
          | true =>
            have hnb : (!true) = false := rfl
            have Hsb := Lib.hid hsb
            clear hsb y0 y1 y2 y3
            gi_wp2_with fail
            refine ⟨⟨b, lessP l x y, c1, _, _, _, _, _, _, _, _, _, _, _, _, rfl, HP5.out, fun i j => ?_, KU5.out⟩, ?_⟩
            · rw [Hbl.out i j]
              unfold lessP
              by_cases e : i = x ∧ j = y
              · obtain ⟨rfl, rfl⟩ := e
                rw [Hsb.out]; simp
              · have h2 : (decide (i = x) && decide (j = y)) = false := by
                  rw [Bool.and_eq_false_iff, decide_eq_false_iff_not, decide_eq_false_iff_not]
                  by_cases h3 : i = x
                  · exact .inr (fun h4 => e ⟨h3, h4⟩)
                  · exact .inl h3
                rw [h2]; simp
            · rw [HP5.out.left_eq, Hlc.out]; exact hc1
          | false =>
            have hnb : (!false) = true := rfl
            have Hsb := Lib.hid hsb
            obtain ⟨U6, c6, hdl, hP6, hc6, hK6⟩ := HP5.out.drop Hx.out Hy.out hx16 hy16 0
            have HP6 := Lib.hid hP6
            have HK6 := Lib.hid hK6
            clear hsb hP6 hK6
            gi_wp2_with fail
            refine ⟨⟨lessP b x y, lessP (lessP l x y) x y, c6, _, _, _, _, _, _, _, _, _, _, _, _, rfl, HP6.out, fun i j => ?_, KU5.out.trans (HK6.out.mono (fun j _ e => .inl e))⟩, ?_⟩
            · unfold lessP
              rw [Hbl.out i j]
              by_cases e : i = x ∧ j = y
              · obtain ⟨rfl, rfl⟩ := e
                rw [Hsb.out]; simp
              · have h2 : (decide (i = x) && decide (j = y)) = false := by
                  rw [Bool.and_eq_false_iff, decide_eq_false_iff_not, decide_eq_false_iff_not]
                  by_cases h3 : i = x
                  · exact .inr (fun h4 => e ⟨h3, h4⟩)
                  · exact .inl h3
                rw [h2]; simp
            · rw [HP6.out.left_eq, Hlc.out]; omega
end Go.Proofs.Ytfmcfalghbaanaa
