/- Stage 3: the choices that are longer by a step, as a list. -/
import Derived.Test.YtdfdlklglbefiaaKnw
namespace Go.Proofs.Ytdfdlklglbefiaa
set_option linter.unusedSimpArgs false
set_option linter.unusedVariables false
open Go.RowKit Go.Shelf

/-- What a choice is handed on as. -/
def encC (c : Chc) : Array Value := #[chV c]
theorem countP_take {zs : List Rg} (f : Rg → Bool) {k : Nat} (hk : k < zs.length) : (zs.take (k + 1)).countP f = (zs.take k).countP f + (if f (gAt zs k) then 1 else 0) := by
  rw [List.take_succ_eq_append_getElem hk, List.countP_append, gAt_eq hk]
  simp [List.countP_cons]
theorem cands_take {zs : List Rg} {p : Int} {S : Int → Option Chc} {L : List Int} {k : Nat} (hk : k < L.length) : cands zs p S (L.take (k + 1)) = cands zs p S (L.take k) ++ (cand zs p S (iAt L k)).toList := by
  rw [List.take_succ_eq_append_getElem hk, cands_snoc, iAt_eq hk]
theorem cands_split {zs : List Rg} {p : Int} {S : Int → Option Chc} {L : List Int} {k : Nat} (hk : k < L.length) {x : Chc} (hx : cand zs p S (iAt L k) = some x) : cands zs p S L = cands zs p S (L.take k) ++ x :: cands zs p S (L.drop (k + 1)) := by
  have e : L = L.take k ++ iAt L k :: L.drop (k + 1) := by
    rw [iAt_eq hk]
    conv => lhs; rw [← List.take_append_drop k L, List.drop_eq_getElem_cons hk]
  conv => lhs; rw [e]
  unfold cands at *
  rw [List.filterMap_append, List.filterMap_cons, hx]
set_option maxRecDepth 100000 in
set_option maxHeartbeats 4000000 in
theorem longer_seq (Ap Mp Sp Bp Pp B M nn : Nat) (A C : Option Addr) (i cpA n cap : Nat) (L : List Int) (zs : List Rg) (mt : Nat → Bool) (S : Nat → Int → Option Chc) (s : Nat) (p : Int) (w0 w : World)
    (ha : w0.cell? ⟨Ap, 0, none⟩ = some (.slice A i cpA)) (hm : w0.cell? ⟨Mp, 0, none⟩ = some (.map (some M))) (hs : w0.cell? ⟨Sp, 0, none⟩ = some (.int .i64 (s : Int))) (hb : w0.cell? ⟨Bp, 0, none⟩ = some (.pointer (some ⟨B, 0, none⟩))) (hp : w0.cell? ⟨Pp, 0, none⟩ = some (.int .i64 p))
    (hbd : Bd w0 B C n cap zs mt) (hL : Ints w0 A i L) (hK : Knw w0 M nn S) (hw : Below w0.heap.size w0 w)
    (hs1 : s ≤ 25) (hq : ∀ k, k < i → -1 ≤ iAt L k ∧ iAt L k ≤ 10000) (hi : i ≤ 30) (hn : n ≤ 24) (hz : validZ zs = true) (hSm : ∀ q c, S s q = some c → c.m ≤ 24) :
    SeqL Try.prog 92 #[.pointer (some ⟨Ap, 0, none⟩), .pointer (some ⟨Mp, 0, none⟩), .pointer (some ⟨Sp, 0, none⟩), .pointer (some ⟨Bp, 0, none⟩), .pointer (some ⟨Pp, 0, none⟩)] encC (cands zs p (S s) L) (fun k => k < w0.heap.size) w := by
  intro l Mut J Jx W hW hMut hJ hJx hY h0
  have hB0 : Below w0.heap.size w0 W := hw.trans (hW.new.mono hw.size)
  have HF : Hid (∀ W', Below w0.heap.size w0 W' → (W'.cell? ⟨Ap, 0, none⟩ = some (.slice A i cpA) ∧ W'.cell? ⟨Mp, 0, none⟩ = some (.map (some M)) ∧ W'.cell? ⟨Sp, 0, none⟩ = some (.int .i64 (s : Int)) ∧ W'.cell? ⟨Bp, 0, none⟩ = some (.pointer (some ⟨B, 0, none⟩)) ∧ W'.cell? ⟨Pp, 0, none⟩ = some (.int .i64 p)) ∧ Bd W' B C n cap zs mt ∧ Ints W' A i L ∧ Knw W' M nn S) :=
    Lib.hid fun W' h => ⟨⟨(h.cell (p := ⟨Ap, 0, none⟩) (lt_of_cell ha)).trans ha, (h.cell (p := ⟨Mp, 0, none⟩) (lt_of_cell hm)).trans hm, (h.cell (p := ⟨Sp, 0, none⟩) (lt_of_cell hs)).trans hs, (h.cell (p := ⟨Bp, 0, none⟩) (lt_of_cell hb)).trans hb, (h.cell (p := ⟨Pp, 0, none⟩) (lt_of_cell hp)).trans hp⟩, hbd.below h (Nat.le_refl _), hL.below h (Nat.le_refl _), hK.below h (Nat.le_refl _)⟩
  obtain ⟨⟨c0, c1, c2, c3, c4⟩, hbdW, hLW, hKW⟩ := HF.out W hB0
  have HLl := Lib.hid hL.1
  have HBd := Lib.hid hbdW
  have Hlen := Lib.hid hbd.len
  have HQ := Lib.hid hq
  have HZ := Lib.hid hz
  have HSm := Lib.hid hSm
  have HB0 := Lib.hid hB0
  have HM := Lib.hid hMut
  have HJa := Lib.hid hJ
  have HJx := Lib.hid hJx
  have HY := Lib.hid hY
  have H0 := Lib.hid h0
  have HW0 : Hid (w0.heap.size ≤ W.heap.size) := Lib.hid hB0.size
  have HKb : Hid (∀ W', Keeps (fun k => Mut k ∨ W.heap.size ≤ k) W W' → Below w0.heap.size w0 W') := Lib.hid fun W' h => hB0.trans (h.below hB0.size (fun k hk e => by
    rcases e with e | e
    · exact (hMut k e).2 hk
    · have := hB0.size; omega))
  clear ha hm hs hb hp hbd hL hK hw hq hz hSm hB0 hMut hJ hJx hY h0 hbdW hLW hKW
  refine (callsIn_wide (n := 3)).1 ?_
  refine callsIn_of_wp Try.func92 rfl trivial ?_ rfl
  simp only [Try.ntmps92, List.size_toArray, List.length_cons, List.length_nil, Nat.reduceAdd, Nat.reduceSub, Array.replicate_succ, Array.replicate_zero, List.push_toArray, List.append_toArray, List.nil_append, List.cons_append]
  gi_wp2_with fail
  clear c0 c1 c2 c3 c4
  gi_loopw [15] (fun i' wr => ∃ k : Nat, k ≤ i ∧ i' = .int .i64 (k : Int) ∧ Hid (J (cands zs p (S s) (L.take k)) wr ∧ Keeps (fun k => Mut k ∨ W.heap.size ≤ k) W wr)) (fun i' _ => i - (intOf i').toNat)
  case atStart => exact ⟨0, Nat.zero_le _, rfl, Lib.hid ⟨H0.out, Keeps.refl _ _⟩⟩
  case round =>
    obtain ⟨k, hk, rfl, HI⟩ := hrel
    obtain ⟨wk, rfl⟩ : ∃ wk, wk = wr := ⟨_, rfl⟩
    by_cases hlt : k < i
    · obtain ⟨⟨c0, c1, c2, c3, c4⟩, hbdW, hLW, hKW⟩ := HF.out wk (HKb.out wk HI.out.2)
      obtain ⟨bA, oA, rfl, hcA⟩ := hLW.2 (by omega)
      have hcq := hcA k hlt
      obtain ⟨q, hqe⟩ : ∃ q, iAt L k = q := ⟨_, rfl⟩
      have hq1 := HQ.out k hlt
      rw [hqe] at hcq hq1
      have Hqe := Lib.hid hqe
      have hlook := hKW.look (n := s) (p := q) (by omega) hq1.1 hq1.2
      have i0 : (0 : Int) ≤ (k : Int) := by omega
      have i1 : (k : Int) < (i : Int) := by omega
      clear hqe hcA hLW hKW
      cases hS : S s q with
      | none =>
        have hrun := hlook.2 hS
        unfold zCh at hrun
        have Hcd : Hid (cands zs p (S s) (L.take (k + 1)) = cands zs p (S s) (L.take k)) := Lib.hid (by
          rw [cands_take (by rw [HLl.out]; exact hlt), Hqe.out]; simp [cand, hS])
        clear hlook hS
        gi_wp2_with fail
        go_roundw
        case rel => exact ⟨k + 1, by omega, by go_num, Lib.hid ⟨by rw [Hcd.out]; exact HJa.out _ _ _ HI.out.1 (keep_alloc _ _ _), HI.out.2.trans (keep_alloc _ _ _)⟩⟩
        case measure => simp [intOf]; omega
      | some c =>
        have hrun := (hlook.1 c hS).1
        have HS := Lib.hid hS
        have hmc := HSm.out q c hS
        obtain ⟨st, A2, cp2, m⟩ := c
        unfold chV at hrun
        simp only at hrun hmc
        obtain ⟨ln, hln⟩ : ∃ ln, st.length = ln := ⟨_, rfl⟩
        rw [hln] at hrun
        have Hln := Lib.hid hln
        have cB : wk.cell? ⟨B, 0, none⟩ = some (.slice C n cap) := by rw [cell_row hbdW.row]; exact brdV_0 _ _ _
        have HBw := Lib.hid hbdW
        have hs5 := Lib.hid (show W.heap.size ≤ wk.heap.size from HI.out.2.size)
        have hlB := lt_of_cell cB
        have hlP := lt_of_cell c4
        have hlBp := lt_of_cell c3
        clear hlook hS hln hbdW
        gi_wp2_with fail
        obtain ⟨V, hV⟩ : ∃ V, wk.alloc (.cells #[.slice A2 ln cp2, .int .i64 (m : Int)] 96) = V := ⟨_, rfl⟩
        obtain ⟨T, hT⟩ : ∃ T, wk.heap.size = T := ⟨_, rfl⟩
        have hkV : Keeps (fun _ => False) wk V := by rw [← hV]; exact keep_alloc _ _ _
        have e9 : V.heap[T]? = some (.cells #[.slice A2 ln cp2, .int .i64 (m : Int)] 96 (0, 0)) := by rw [← hV, ← hT]; exact heap_alloc_new_ _ _
        have HkV := Lib.hid hkV
        have HE9 := Lib.hid e9
        have HT := Lib.hid hT
        rw [hV, hT]
        clear hV hT hkV e9 c0 c1 c2 c3 c4 cB hrun
        gi_loopw [34] (fun j' wr => ∃ j : Nat, j ≤ n ∧ j' = .int .i64 (j : Int) ∧ Hid (wr.heap[T]? = some (.cells #[.slice A2 ln cp2, .int .i64 ((m + (zs.take j).countP (newT q p) : Nat) : Int)] 96 (0, 0)) ∧ Keeps (fun k => k = T) V wr)) (fun j' _ => n - (intOf j').toNat)
        case atStart => exact ⟨0, Nat.zero_le _, rfl, Lib.hid ⟨by simpa using HE9.out, Keeps.refl _ _⟩⟩
        case round =>
          obtain ⟨j, hj, rfl, HI2⟩ := hrel
          obtain ⟨wj, rfl⟩ : ∃ wj, wj = wr := ⟨_, rfl⟩
          have hcj : (zs.take j).countP (newT q p) ≤ j := Nat.le_trans List.countP_le_length (List.length_take_le _ _)
          have hKj : Keeps (fun k => Mut k ∨ W.heap.size ≤ k) W wj := (HI.out.2.trans HkV.out.none).trans (HI2.out.2.mono (fun k _ e => .inr (by have := hs5.out; have := HT.out; omega)))
          obtain ⟨⟨c0, c1, c2, c3, c4⟩, hbdj, _, _⟩ := HF.out wj (HKb.out wj hKj)
          have f9 := HI2.out.1
          have HKj := Lib.hid hKj
          obtain ⟨mj, hmj⟩ : ∃ mj, m + (zs.take j).countP (newT q p) = mj := ⟨_, rfl⟩
          rw [hmj] at f9
          have hmjb : mj ≤ 48 := by omega
          have d0 : wj.cell? ⟨T, 0, none⟩ = some (.slice A2 ln cp2) := by rw [cell_row f9]; rfl
          have d1 : wj.cell? ⟨T, 1, none⟩ = some (.int .i64 (mj : Int)) := by rw [cell_row f9]; rfl
          have Hmj := Lib.hid hmj
          have HF9 := Lib.hid f9
          have hTl := lt_of_block f9
          clear hmj hcj hKj f9
          by_cases hlt2 : j < n
          · obtain ⟨bC, oC, rfl, hcC⟩ := hbdj.tns.2 (by omega)
            obtain ⟨t0, t1, t2⟩ := hcC j hlt2
            have htn : tAt (tnOf zs) j = ⟨gAt zs j, j⟩ := tAt_tnK (by rw [Hlen.out]; exact hlt2)
            rw [htn] at t0 t1 t2
            simp only at t0 t1 t2
            have hzj := okZ_iff.1 (List.all_eq_true.1 HZ.out (gAt zs j) (by rw [gAt_eq (by rw [Hlen.out]; exact hlt2)]; exact List.getElem_mem _))
            have Hct := Lib.hid (countP_take (zs := zs) (newT q p) (k := j) (by rw [Hlen.out]; exact hlt2))
            obtain ⟨g, hg⟩ : ∃ g, gAt zs j = g := ⟨_, rfl⟩
            rw [hg] at t0 t1 hzj Hct
            have i3 : (0 : Int) ≤ (j : Int) := by omega
            have i4 : (j : Int) < (n : Int) := by omega
            clear hg htn hcC hbdj c0 c1 c2 c3
            have hlp := lt_of_cell c4
            gi_wp2_with fail
            have hks : Keeps (fun _ => False) wj ((wj.alloc (.cells #[.int .i64 g.lo, .int .i64 g.hi, .int .i64 (j : Int)] 78)).alloc (.cells #[.int .i64 g.lo] 2)) := (keep_alloc _ _ _).trans (keep_alloc _ _ _)
            have hcall := within60 (some ⟨wj.heap.size + 1, 0, none⟩) 1 1 [g.lo] (q + 1) p ((wj.alloc (.cells #[.int .i64 g.lo, .int .i64 g.hi, .int .i64 (j : Int)] 78)).alloc (.cells #[.int .i64 g.lo] 2)) (ints_one (hal_new (by simp))) (by omega)
            have HF9b := Lib.hid ((hks.block _ hTl (fun e => e)).trans HF9.out)
            have HKs := Lib.hid hks
            clear hks
            by_cases hin : q + 1 ≤ g.lo ∧ g.lo ≤ p
            · have hw : withI (q + 1) p [g.lo] = true := by simp [withI, inB, hin.1, hin.2]
              rw [hw] at hcall
              have Hin := Lib.hid hin
              clear hw hin
              refine ⟨trivial, (callsIn_wide.2 hcall).mono ?_⟩
              rintro en W9 ⟨rfl, rfl⟩
              clear hcall
              by_cases hph : p ≤ g.hi
              · have Hn : Hid (newT q p g = true) := Lib.hid (by simp only [newT, Bool.and_eq_true, decide_eq_true_eq]; exact ⟨⟨Hin.out.1, Hin.out.2⟩, hph⟩)
                have z1 : wj.frozen? ⟨T, 1, none⟩ = false := frozen_row HF9.out
                gi_wp2_with fail
                go_roundw
                case rel =>
                  refine ⟨j + 1, by omega, by go_num, Lib.hid ⟨?_, ?_⟩⟩
                  · have h1 := set_same 1 (.int .i64 ((mj : Int) + 1)) HF9.out
                    have e1 : ((m + (zs.take (j + 1)).countP (newT q p) : Nat) : Int) = (mj : Int) + 1 := by
                      rw [Hct.out, Hn.out, ← Nat.add_assoc, Hmj.out]; simp
                    rw [e1]
                    exact hal_old (hal_old (h1.trans (by simp)))
                  · exact HI2.out.2.trans (((keeps_setCell wj T 1 (.int .i64 ((mj : Int) + 1))).trans (keep_alloc _ _ _)).trans (keep_alloc _ _ _))
                case measure => simp [intOf]; omega
              · have Hn : Hid (newT q p g = false) := Lib.hid (by rw [← Bool.not_eq_true]; simp only [newT, Bool.and_eq_true, decide_eq_true_eq]; exact fun h => hph h.2)
                gi_wp2_with fail
                go_roundw
                case rel => exact ⟨j + 1, by omega, by go_num, Lib.hid ⟨by rw [Hct.out, Hn.out]; simpa [Hmj.out, ← Nat.add_assoc] using HF9b.out, HI2.out.2.trans HKs.out.none⟩⟩
                case measure => simp [intOf]; omega
            · have hw : withI (q + 1) p [g.lo] = false := by
                rw [← Bool.not_eq_true]; simpa [withI, inB] using hin
              have Hn : Hid (newT q p g = false) := Lib.hid (by rw [← Bool.not_eq_true]; simp only [newT, Bool.and_eq_true, decide_eq_true_eq]; exact fun h => hin h.1)
              rw [hw] at hcall
              clear hw hin
              refine ⟨trivial, (callsIn_wide.2 hcall).mono ?_⟩
              rintro en W9 ⟨rfl, rfl⟩
              clear hcall
              gi_wp2_with fail
              go_roundw
              case rel => exact ⟨j + 1, by omega, by go_num, Lib.hid ⟨by rw [Hct.out, Hn.out]; simpa [Hmj.out, ← Nat.add_assoc] using HF9b.out, HI2.out.2.trans HKs.out.none⟩⟩
              case measure => simp [intOf]; omega
          · have e : j = n := by omega
            subst e
            clear c0 c1 c2 c3 c4 hbdj
            have hmf : m + zs.countP (newT q p) = mj := by
              have h1 := Hmj.out
              rwa [List.take_of_length_le (by rw [Hlen.out]; exact Nat.le_refl _)] at h1
            have hx : cand zs p (S s) (iAt L k) = some ⟨st, A2, cp2, mj⟩ := by
              rw [Hqe.out]; unfold cand; rw [HS.out]; simp only [Option.map_some, hmf]
            have Hsp := Lib.hid (cands_split (by rw [HLl.out]; exact hlt) hx)
            have Hnx : Hid (cands zs p (S s) (L.take (k + 1)) = cands zs p (S s) (L.take k) ++ [⟨st, A2, cp2, mj⟩]) := Lib.hid (by rw [cands_take (by rw [HLl.out]; exact hlt), hx]; rfl)
            have hkj : Keeps (fun k => W.heap.size ≤ k) wk wj := HkV.out.none.trans (HI2.out.2.mono (fun k _ e => by have := hs5.out; have := HT.out; omega))
            have hy0 := HY.out _ _ _ wj Hsp.out HKj.out.size (HJa.out _ _ _ HI.out.1 hkj) (3 - 1)
            unfold encC chV at hy0
            simp only at hy0
            rw [Hln.out] at hy0
            obtain ⟨fn, tmps, assign, body, hy, hR⟩ := hy0
            clear hmf hx hkj
            gi_wp2_with fail
            refine hR.mono ?_
            rintro e W2 (⟨rfl, hj2, hK2⟩ | ⟨rfl, hj2, hK2⟩)
            · have HJ2 := Lib.hid hj2
              have HK2 := Lib.hid (HKj.out.trans (hK2.mono (fun k _ e => .inl e)))
              clear hj2 hK2 hy hR d0 d1
              gi_wp2_with fail
              go_roundw
              case rel => exact ⟨k + 1, by omega, by go_num, Lib.hid ⟨by rw [Hnx.out]; exact HJ2.out, HK2.out⟩⟩
              case measure => simp [intOf]; omega
            · have HJ2 := Lib.hid hj2
              clear hj2 hK2 hy hR d0 d1
              gi_wp2_with fail
              exact bodyPost_ret (results_none rfl _ _ _) rfl ⟨⟨_, rfl⟩, .inr ⟨_, _, _, Hsp.out, HJ2.out⟩⟩
    · have e : k = i := by omega
      subst e
      gi_wp2_with fail
      go_end0
      exact ⟨⟨_, rfl⟩, .inl (by have := HI.out.1; rwa [List.take_of_length_le (by rw [HLl.out]; exact Nat.le_refl _)] at this)⟩
end Go.Proofs.Ytdfdlklglbefiaa
