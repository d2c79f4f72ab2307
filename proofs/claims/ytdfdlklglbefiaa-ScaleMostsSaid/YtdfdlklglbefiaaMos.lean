/- Stage 3: most: choices by how many steps they have and where they end. -/
import Derived.Test.YtdfdlklglbefiaaGrt
import Derived.Test.YtdfdlklglbefiaaPlx
import Derived.Test.YtdfdlklglbefiaaBlm
import Derived.ArgAppend
import Derived.Carry
namespace Go.Proofs.Ytdfdlklglbefiaa
set_option linter.unusedSimpArgs false
set_option linter.unusedVariables false
open Go.RowKit Go.Shelf
attribute [local go_sem ↓] exec_app

theorem Knw.keep {W W' : World} {M nn : Nat} {S : Nat → Int → Option Chc} {Mut : Nat → Prop} (h : Knw W M nn S) (hK : Keeps Mut W W') (hM : ¬ Mut M) (hr : ∀ n p c, S n p = some c → ∀ b o, c.A = some ⟨b, o, none⟩ → ¬ Mut b) : Knw W' M nn S := by
  obtain ⟨D, h1, h2⟩ := h
  refine ⟨D, owns_keep h1 hK hM, fun n p a b c => ⟨fun ch hc => ?_, (h2 n p a b c).2⟩⟩
  obtain ⟨g1, g2, g3⟩ := (h2 n p a b c).1 ch hc
  exact ⟨g1, g2, g3.keep hK (hr n p ch hc)⟩
theorem info2b_ : (Try.prog.info? 2).map (fun i => (i.zero, i.size, i.bytes)) = some (some (.int .i64 0), 1, 8) := by kernel_rfl
theorem flatI_len (l : List Int) : (flatI l).length = l.length := by simp [flatI]
theorem flatI_get (l : List Int) (j : Nat) (u : Value) (h : (flatI l)[j]? = some u) : j < l.length ∧ u = .int .i64 (iAt l j) := by
  have hj : j < l.length := by
    have := (List.getElem?_eq_some_iff.1 h).1
    rwa [flatI_len] at this
  refine ⟨hj, ?_⟩
  rw [iAt_eq hj]
  simpa [flatI, hj] using h.symm
/-- A row with one number more is a new row. -/
theorem app_new {W : World} {A : Option Addr} {l : List Int} {k : Nat} (hk : l.length = k) (h : Ints W A k l) (hn : k = 0 → A = none) (hl : k ≤ 30) {Z : Nat} {p : Int} (hZ : W.heap[Z]? = some (.cells #[.int .i64 p] 2 (0, 0))) :
    ∃ g cp W', runA Try.prog 23 (.slice A k k) (.slice (some ⟨Z, 0, none⟩) 1 1) W = .ok (.value (.slice (some ⟨g, 0, none⟩) (k + 1) cp)) W' ∧ k + 1 ≤ cp ∧ Ints W' (some ⟨g, 0, none⟩) (k + 1) (l ++ [p]) ∧ W.heap.size ≤ g ∧ Below W.heap.size W W' := by
  have fin : ∀ (v' : Value) (W' : World), (Builtin.append_ #[23, 23] 23 #[.slice A k k, .slice (some ⟨Z, 0, none⟩) 1 1]).run Try.prog W = .ok v' W' → W'.ownsRow W.heap.size 2 1 v' (k + 1) (flatI (l ++ [p])) → Below W.heap.size W W' →
      ∃ g cp W', runA Try.prog 23 (.slice A k k) (.slice (some ⟨Z, 0, none⟩) 1 1) W = .ok (.value (.slice (some ⟨g, 0, none⟩) (k + 1) cp)) W' ∧ k + 1 ≤ cp ∧ Ints W' (some ⟨g, 0, none⟩) (k + 1) (l ++ [p]) ∧ W.heap.size ≤ g ∧ Below W.heap.size W W' := by
    intro v' W' hrun hown hb
    rcases id hown.2 with ⟨_, h0⟩ | ⟨g, cap, cur, rfl, hg, hgb, hc, _, hsz, htake⟩
    · omega
    · refine ⟨g, cap, W', run_app hrun, by omega, ⟨by simp [hk], fun _ => ⟨g, 0, rfl, fun j hj => ?_⟩⟩, hg, hb⟩
      have hj2 : j < (l ++ [p]).length := by simp; omega
      rw [Nat.zero_add, cell_row hgb, ← Array.getElem?_toList, ← List.getElem?_take_of_lt (show j < (k + 1) * 1 by omega), htake, iAt_eq hj2]
      unfold flatI
      rw [List.getElem?_map, List.getElem?_eq_getElem hj2]
      rfl
  have hnews : ∀ j u, ([Value.int .i64 p] : List Value)[j]? = some u → W.cell? ((⟨Z, 0, none⟩ : Addr).add j) = some u := fun j u hj => by
    rw [Addr.add_lit, cell_row hZ]; simpa using hj
  obtain ⟨i, hi, hz, hs, hb⟩ := info_parts info2b_
  rcases Nat.eq_zero_or_pos k with h0 | h0
  · obtain rfl := hn h0
    subst h0
    obtain rfl : l = [] := List.length_eq_zero_iff.1 hk
    obtain ⟨v', W', r1, r2, r3⟩ := run_append_own (P := Try.prog) W W.heap.size 23 23 2 i (.int .i64 0) 1 8 Try.underlying23 hi hz hs hb rfl (by omega) (.slice none 0 0) 0 [] (World.ownsRow_nil _ _ _ _) ⟨Z, 0, none⟩ 1 1 [.int .i64 p] rfl hnews (by simp [Value.oneCell']) (by decide) (by decide) (Nat.le_refl _)
    exact fin v' W' r1 r2 (⟨r3.1.os, r3.1.tape, r3.1.output, r3.1.size, fun k hk => r3.1.block k hk (by simp [Value.ownBlock])⟩)
  · obtain ⟨b, o, rfl, hc⟩ := h.2 h0
    obtain ⟨v', W', r1, r2, r3⟩ := run_append_arg_grows (P := Try.prog) W 23 23 2 i (.int .i64 0) 1 8 Try.underlying23 hi hz hs hb rfl (by omega) ⟨b, o, none⟩ k k (flatI l) (by rw [flatI_len, hk]; omega) (fun j u hj => by
      obtain ⟨hj2, rfl⟩ := flatI_get l j u hj
      rw [Addr.add_lit]; exact hc j (by omega)) ⟨Z, 0, none⟩ 1 1 [.int .i64 p] rfl hnews (by omega) (by unfold maxLen; omega) (by omega)
    refine fin v' W' r1 ?_ ⟨r3.os, r3.tape, r3.output, r3.size, fun k hk => r3.block k hk (by simp)⟩
    rw [flatI_snoc]; exact r2

/-- A choice whose row is new, and fits. -/
structure OkC (N : Nat) (c : Chc) : Prop where
  cp : c.st.length ≤ c.cp
  nil : c.st = [] → c.A = none ∧ c.cp = 0
  new : ∀ b o, c.A = some ⟨b, o, none⟩ → N ≤ b
  m : c.m ≤ 24
/-- What is kept while the n-th step is looked for, at i places. -/
structure MoI (N M T : Nat) (L : List Int) (zs : List Rg) (k i : Nat) (V W : World) : Prop where
  ex : ∃ (S : Nat → Int → Option Chc) (nn : Nat) (b : Chc), Knw W M nn S ∧ nn ≤ 1 + 26 * k + i ∧ (∀ p ∈ L, GoodK zs L k p (S k p)) ∧ (∀ j, j < i → j < L.length → GoodK zs L (k + 1) (iAt L j) (S (k + 1) (iAt L j))) ∧
    (∀ j, i ≤ j → j < L.length → S (k + 1) (iAt L j) = none) ∧ (∀ n p, k + 1 < n → S n p = none) ∧ (∀ n p c, S n p = some c → OkC N c) ∧
    W.heap[T]? = some (.cells #[.slice b.A b.st.length b.cp, .int .i64 (b.m : Int)] 96 (0, 0)) ∧ BestK zs L k (L.take i) b ∧ Ints W b.A b.st.length b.st ∧ OkC N b
  keep : Keeps (fun j => j = M ∨ j = T) V W
theorem MoI.next {N M T : Nat} {L : List Int} {zs : List Rg} {k : Nat} {V W : World} (hl : L.length ≤ 25) (h : MoI N M T L zs k L.length V W) : MoI N M T L zs (k + 1) 0 V W := by
  obtain ⟨⟨S, nn, b, h1, h2, h3, h4, h5, h6, h7, h8, h9, h10, h11⟩, hk⟩ := h
  rw [List.take_of_length_le (Nat.le_refl _)] at h9
  refine ⟨⟨S, nn, b, h1, by omega, fun p hp => ?_, fun j hj => by omega, fun j _ hj => h6 _ _ (by omega), fun n p hn => h6 n p (by omega), h7, h8, by simpa using h9.next, h10, h11⟩, hk⟩
  obtain ⟨j, hj, rfl⟩ := List.mem_iff_getElem.1 hp
  have := h4 j hj hj
  rwa [iAt_eq hj] at this
theorem MoI.start {N M T : Nat} {L : List Int} {zs : List Rg} {W : World} (h : Knw W M 1 (putS (fun _ _ => none) 0 (-1) (some ⟨[], none, 0, 0⟩))) (hT : W.heap[T]? = some (.cells #[.slice none 0 0, .int .i64 0] 96 (0, 0))) : MoI N M T L zs 0 0 W W := by
  have h0 : OkC N ⟨[], none, 0, 0⟩ := ⟨by simp, fun _ => ⟨rfl, rfl⟩, by simp, by simp⟩
  refine ⟨⟨_, 1, ⟨[], none, 0, 0⟩, h, by omega, fun p hp => known0_good p, fun j hj => by omega, fun j _ _ => ?_, fun n p hn => ?_, fun n p c hc => ?_, hT, ?_, ints_nil _, h0⟩, Keeps.refl _ _⟩
  · simp [putS]
  · simp only [putS]
    rw [if_neg (by omega)]
  · simp only [putS] at hc
    split at hc
    · cases hc; exact h0
    · cases hc
  · simpa using BestK.start zs L
theorem PlcOk.rng {zs : List Rg} {L : List Int} (h : PlcOk zs L) (ho : validZ zs = true) : ∀ x ∈ L, -1 ≤ x ∧ x ≤ 10000 := by
  intro x hx
  rcases h.only x hx with e | ⟨r, hr, rfl⟩
  · omega
  · have := okZ_iff.1 (List.all_eq_true.1 ho r hr)
    omega
theorem res58 {tmps : Array Value} {W : World} {T : Nat} {v x : Value} (h4 : tmps.getD 4 undef = .pointer (some ⟨T, 0, none⟩)) (hT : W.heap[T]? = some (.cells #[v, x] 96 (0, 0))) :
    (results Try.f58 tmps).run Try.prog W = .ok (.agg #[v, x]) W := by
  have z0 : W.cell? ⟨T, 0, none⟩ = some v := by rw [cell_row hT]; rfl
  have z1 : W.cell? ⟨T, 1, none⟩ = some x := by rw [cell_row hT]; rfl
  rw [Array.getD_eq_getD_getElem?] at h4
  simp only [results, Try.results58]
  simp [go_sem, h4, z0, z1]
set_option maxRecDepth 100000 in
set_option maxHeartbeats 40000000 in
theorem most58 : Most58 := by
  intro B C n cap zs mt steps w h hn1 hn hs0 hs1 hz
  have H := Lib.hid h
  have HZ := Lib.hid hz
  have hk1 := keep_alloc (fun _ => False) w (.cells #[.slice none 0 0, .int .i64 0] 96)
  have f4 := heap_alloc_new_ w (.cells #[.slice none 0 0, .int .i64 0] 96)
  have HK1 := Lib.hid hk1
  have HF4 := Lib.hid f4
  have hbd1 := h.below hk1.new (Nat.le_refl _)
  have HBd1 := Lib.hid hbd1
  obtain ⟨st, hst⟩ : ∃ st : Nat, steps = (st : Int) := ⟨steps.toNat, by omega⟩
  subst hst
  have hst24 : st ≤ 24 := by omega
  clear h hz hk1 f4 hbd1 hs0 hs1
  go_enter Try.func58, Try.ntmps58
  go_wp2_with fail
  refine (places70_ok B C n cap zs mt _ HBd1.out hn1 hn HZ.out).mono ?_
  rintro en w2 ⟨L, D, cpL, hP, rfl, hi, hcpL, hD, hb⟩
  have hDlt : D < w2.heap.size := by
    obtain ⟨b, o, e, hc⟩ := hi.2 (List.length_pos_of_mem hP.low)
    cases e
    exact lt_of_cell (hc 0 (List.length_pos_of_mem hP.low))
  have HP := Lib.hid hP
  have HLi := Lib.hid hi
  have HD := Lib.hid hD
  have hk2 : Keeps (fun _ => False) w w2 := HK1.out.trans (Keeps.of_new hb)
  have f4 := (hb.block _ (lt_of_block HF4.out)).trans HF4.out
  have HF4b := Lib.hid f4
  have HK2 := Lib.hid hk2
  have hLl : L.length ≤ 25 := by have := hP.len; have := H.out.len; omega
  have HLl := Lib.hid hLl
  obtain ⟨ll, hll⟩ : ∃ ll, L.length = ll := ⟨_, rfl⟩
  rw [hll] at hcpL
  rw [hll]
  have Hll := Lib.hid hll
  have hll25 : ll ≤ 25 := by omega
  clear hll hLl hP hi hD hk2 hb f4 HF4 HK1 HBd1
  have hmm := @run_makeMap Try.prog
  have hkA : Keeps (fun _ => False) w2 ((w2.alloc (.cells #[.slice none 0 0, .int .i64 0] 96)).alloc (.map #[] 0)) := (keep_alloc _ _ _).trans (keep_alloc _ _ _)
  have fT := hal_old (o := .map #[] 0) (heap_alloc_new_ w2 (.cells #[.slice none 0 0, .int .i64 0] 96))
  have fM : ((w2.alloc (.cells #[.slice none 0 0, .int .i64 0] 96)).alloc (.map #[] 0)).heap[w2.heap.size + 1]? = some (.map #[] 0) := hal_new (by simp)
  obtain ⟨w4, hput, hKn, hK4⟩ := (Knw.new fM).put (n := 0) (p := -1) (by omega) (by omega) (by omega) ⟨[], none, 0, 0⟩ (ints_nil _) (by omega)
  have hput2 : (Instr.mapUpdate 116 (.map (some (w2.heap.size + 1))) (.agg #[.int .i64 0, .int .i64 (-1)]) (.agg #[.slice none 0 0, .int .i64 0])).run Try.prog ((w2.alloc (.cells #[.slice none 0 0, .int .i64 0] 96)).alloc (.map #[] 0)) = .ok () w4 := hput
  have HKn := Lib.hid hKn
  have HK4 := Lib.hid (hkA.none.trans hK4)
  have HT4 := Lib.hid ((hK4.block _ (lt_of_block fT) (by omega)).trans fT)
  clear hKn hK4 fM fT hkA hput
  go_wp2_with fail
  clear hmm hput2
  obtain ⟨T, hT⟩ : ∃ T, w2.heap.size = T := ⟨_, rfl⟩
  have hs4 : T + 2 ≤ w4.heap.size := by have := HKn.out.lt; omega
  rw [hT] at hDlt
  rw [hT] at HKn HK4 HT4 ⊢
  have HTe := Lib.hid hT
  clear hT
  have HI0 : Hid (MoI w4.heap.size (T + 1) T L zs 0 0 w4 w4) := Lib.hid (MoI.start HKn.out HT4.out)
  have HTM : Hid (T + 1 < w4.heap.size) := Lib.hid (by omega)
  go_loopw [23] (fun i wr => ∃ k : Nat, k ≤ st ∧ i = .int .i64 (k : Int) ∧ Hid (MoI w4.heap.size (T + 1) T L zs k 0 w4 wr)) (fun i _ => st - (intOf i).toNat)
  case atStart => exact ⟨0, Nat.zero_le _, rfl, HI0⟩
  case round =>
    obtain ⟨k, hk, rfl, HI⟩ := hrel
    obtain ⟨wk, rfl⟩ : ∃ wk, wk = wr := ⟨_, rfl⟩
    by_cases hlt : k < st
    · go_wp2_with fail
      go_loopw [28] (fun i wr => ∃ j : Nat, j ≤ ll ∧ i = .int .i64 (j : Int) ∧ Hid (MoI w4.heap.size (T + 1) T L zs k j w4 wr)) (fun i _ => ll - (intOf i).toNat)
      case atStart => exact ⟨0, Nat.zero_le _, rfl, HI⟩
      case round =>
        obtain ⟨j, hj, rfl, HI2⟩ := hrel
        obtain ⟨wj, rfl⟩ : ∃ wj, wj = wr := ⟨_, rfl⟩
        by_cases hlt2 : j < ll
        · have hLj : Ints wj (some ⟨D, 0, none⟩) ll L := by
            have h1 := HLi.out
            rw [Hll.out] at h1
            exact (h1.keep HK4.out (fun b o e h => by cases e; omega)).keep HI2.out.keep (fun b o e h => by cases e; omega)
          have HLj := Lib.hid hLj
          obtain ⟨bD, oD, he, hcD⟩ := hLj.2 (by omega)
          cases he
          have hcj := hcD j hlt2
          rw [Nat.zero_add] at hcj
          obtain ⟨p, hp⟩ : ∃ p, iAt L j = p := ⟨_, rfl⟩
          rw [hp] at hcj
          have Hp := Lib.hid hp
          have i0 : (0 : Int) ≤ (j : Int) := by omega
          have i1 : (j : Int) < (ll : Int) := by omega
          have i2 : j ≤ cpL := by omega
          have i3 : (j : Int) ≤ (cpL : Int) := by omega
          clear hp hcD hLj
          go_wp2_with fail
          refine (longer72 B (T + 1) k (some ⟨D, 0, none⟩) j cpL p wj).mono ?_
          rintro en w0 ⟨rfl, hw0⟩
          obtain ⟨s, hs⟩ : ∃ s, wj.heap.size = s := ⟨_, rfl⟩
          have hk0 : Keeps (fun _ => False) wj w0 := by rw [hw0]; exact (((((keep_alloc _ _ _).trans (keep_alloc _ _ _)).trans (keep_alloc _ _ _)).trans (keep_alloc _ _ _)).trans (keep_alloc _ _ _))
          have a0 : w0.heap[s]? = some (.cells #[.pointer (some ⟨B, 0, none⟩)] 69 (0, 0)) := by rw [hw0, ← hs]; exact hal_old (hal_old (hal_old (hal_old (heap_alloc_new_ _ _))))
          have a1 : w0.heap[s + 1]? = some (.cells #[.map (some (T + 1))] 116 (0, 0)) := by rw [hw0, ← hs]; exact hal_old (hal_old (hal_old (hal_new (by simp))))
          have a2 : w0.heap[s + 2]? = some (.cells #[.int .i64 (k : Int)] 3 (0, 0)) := by rw [hw0, ← hs]; exact hal_old (hal_old (hal_new (by simp)))
          have a3 : w0.heap[s + 3]? = some (.cells #[.slice (some ⟨D, 0, none⟩) j cpL] 23 (0, 0)) := by rw [hw0, ← hs]; exact hal_old (hal_new (by simp))
          have a4 : w0.heap[s + 4]? = some (.cells #[.int .i64 p] 2 (0, 0)) := by rw [hw0, ← hs]; exact hal_new (by simp)
          rw [hs]
          have Hk0 := Lib.hid hk0
          have Hs := Lib.hid hs
          obtain ⟨⟨S, nn, b, h1, h2, h3, h4, h5, h6, h7, h8, h9, h10, h11⟩, hkp⟩ := HI2.out
          have hbd0 : Bd w0 B C n cap zs mt := by
            have q1 : Keeps (fun k => k = T + 1 ∨ k = T) w w0 := ((HK2.out.none.trans (HK4.out.mono (fun _ _ h => .inl h))).trans hkp).trans hk0.none
            have hTw := HTe.out
            have hww := HK2.out.size
            exact H.out.below (q1.below (Nat.le_refl _) (fun k hk e => by omega)) (Nat.le_refl _)
          have hLt : Ints w0 (some ⟨D, 0, none⟩) j (L.take j) := by
            have hL0 := HLj.out.below hk0.new (Nat.le_refl _)
            refine ⟨by rw [List.length_take, Hll.out]; omega, fun _ => ?_⟩
            obtain ⟨bD, oD, he, hcD⟩ := hL0.2 (by omega)
            refine ⟨bD, oD, he, fun q hq => ?_⟩
            rw [hcD q (by omega)]
            have e : iAt (L.take j) q = iAt L q := by
              rw [iAt_eq (by rw [List.length_take, Hll.out]; omega), iAt_eq (by rw [Hll.out]; omega)]; simp
            rw [e]
          have hseq : ∀ V, Below w0.heap.size w0 V → SeqL Try.prog 92 #[.pointer (some ⟨s + 3, 0, none⟩), .pointer (some ⟨s + 1, 0, none⟩), .pointer (some ⟨s + 2, 0, none⟩), .pointer (some ⟨s, 0, none⟩), .pointer (some ⟨s + 4, 0, none⟩)] encC (cands zs p (S k) (L.take j)) (fun k => k < w0.heap.size) V := fun V hV =>
            longer_seq (s + 3) (s + 1) (s + 2) s (s + 4) B (T + 1) nn (some ⟨D, 0, none⟩) C j cpL n cap (L.take j) zs mt S k p w0 V (by rw [cell_row a3]; rfl) (by rw [cell_row a1]; rfl) (by rw [cell_row a2]; rfl) (by rw [cell_row a0]; rfl) (by rw [cell_row a4]; rfl)
              hbd0 hLt (h1.below hk0.new (Nat.le_refl _)) hV (by omega) (fun q hq => by
                have e : iAt (L.take j) q = iAt L q := by
                  rw [iAt_eq (by rw [List.length_take, Hll.out]; omega), iAt_eq (by rw [Hll.out]; omega)]; simp
                rw [e]
                exact HP.out.rng HZ.out _ (mem_iAt (by rw [Hll.out]; omega))) (by omega) hn HZ.out (fun q c hc => (h7 k q c hc).m)
          have hgrt := greatest71 _ _ w0 hseq
          have Hgrt := Lib.hid hgrt
          have HI2b := Lib.hid (show MoI w4.heap.size (T + 1) T L zs k j w4 wj from HI2.out)
          obtain ⟨xs, hxs⟩ : ∃ xs, cands zs p (S k) (L.take j) = xs := ⟨_, rfl⟩
          rw [hxs] at Hgrt
          have Hxs := Lib.hid hxs
          have H1 := Lib.hid h1
          have H3 := Lib.hid h3
          have H4 := Lib.hid h4
          have H5 := Lib.hid h5
          have H6 := Lib.hid h6
          have H7 := Lib.hid h7
          have H8 := Lib.hid h8
          have H9 := Lib.hid h9
          have H10 := Lib.hid h10
          have H11 := Lib.hid h11
          have Hkp := Lib.hid hkp
          clear hw0 hs hk0 a0 a1 a2 a3 a4 h1 h3 h4 h5 h6 h7 h8 h9 h10 h11 hkp hbd0 hLt hseq hgrt hxs
          go_wp2_with fail
          refine Hgrt.out.mono ?_
          rintro en w5 ⟨rfl, hb5⟩
          have Hb5 := Lib.hid hb5
          clear hb5
          have Hsplit : Hid (L = L.take j ++ p :: L.drop (j + 1)) := Lib.hid (by
            have hjl : j < L.length := by rw [Hll.out]; exact hlt2
            conv => lhs; rw [← List.take_append_drop j L, List.drop_eq_getElem_cons hjl]
            rw [← iAt_eq hjl, Hp.out])
          cases hg : grt xs with
          | none =>
            have Hg := Lib.hid hg
            clear hg
            unfold bstV
            simp only [Option.isSome_none]
            go_wp2_with fail
            go_roundw
            case rel =>
              have hk6 : Keeps (fun _ => False) wj (w5.alloc (.cells #[.slice none 0 0, .int .i64 0] 96)) := (Hk0.out.trans (Keeps.of_new Hb5.out)).trans (keep_alloc _ _ _)
              have hgk := step_none HP.out HZ.out Hsplit.out H3.out (by rw [Hxs.out]; exact Hg.out)
              refine ⟨j + 1, by omega, by go_num, Lib.hid ⟨⟨S, nn, b, H1.out.below hk6.new (Nat.le_refl _), by omega, H3.out, fun q hq hql => ?_, fun q hq hql => H5.out q (by omega) hql, H6.out, H7.out, (hk6.block _ (lt_of_block H8.out) (fun e => e)).trans H8.out, ?_, H10.out.below hk6.new (Nat.le_refl _), H11.out⟩, Hkp.out.trans hk6.none⟩⟩
              · rcases Nat.lt_or_ge q j with hq2 | hq2
                · exact H4.out q hq2 hql
                · have e : q = j := by omega
                  subst e
                  rw [H5.out q (Nat.le_refl _) hql, Hp.out]; exact hgk
              · rw [List.take_succ_eq_append_getElem (by rw [Hll.out]; exact hlt2), ← iAt_eq (by rw [Hll.out]; exact hlt2), Hp.out]
                exact H9.out.skip hgk
            case measure => simp [intOf]; omega
          | some g =>
            obtain ⟨gs, gA, gcp, gm⟩ := g
            have Hg := Lib.hid hg
            obtain ⟨g1, g2, g3, q0, c0, hc0, hq0, e1, e2, e3⟩ := cand_some HP.out HZ.out Hsplit.out H3.out (b := ⟨gs, gA, gcp, gm⟩) (by rw [Hxs.out]; exact (grt_some hg).1)
            simp only at g1 g2 g3 e1 e2 e3
            have hok := H7.out k q0 c0 hc0
            have hqb := HP.out.rng HZ.out q0 hq0
            have hrow := ((H1.out.look (n := k) (p := q0) (by omega) hqb.1 hqb.2).1 c0 hc0).2
            rw [e1, e2, g2] at hrow
            have hgcp : k ≤ gcp := by have := hok.cp; rw [e1, e3, g2] at this; exact this
            have hgnil : k = 0 → gA = none ∧ gcp = 0 := fun h => by
              have := hok.nil (by rw [e1]; exact List.length_eq_zero_iff.1 (by omega))
              rw [e2, e3] at this; exact this
            have hm24 : gm ≤ 24 := by
              rw [g3]
              have := List.countP_le_length (l := zs) (p := fun r => meets (gs ++ [p]) r)
              have := H.out.len
              unfold cntM
              omega
            have Hgnil := Lib.hid hgnil
            have Hrow := Lib.hid hrow
            have Hg2 := Lib.hid g2
            have i5 : (k : Int) ≤ (gcp : Int) := by omega
            clear hg g1 g2 g3 hc0 hq0 e1 e2 e3 hok hqb hrow hgnil c0
            unfold bstV
            simp only [Option.isSome_some]
            rw [Hg2.out]
            go_wp2_with fail
            obtain ⟨X, hX⟩ : ∃ X, w5.heap.size = X := ⟨_, rfl⟩
            have hkA : Keeps (fun _ => False) w5 ((w5.alloc (.cells #[.slice gA k gcp, .int .i64 (gm : Int)] 96)).alloc (.cells #[.int .i64 p] 2)) := (keep_alloc _ _ _).trans (keep_alloc _ _ _)
            have f11 : ((w5.alloc (.cells #[.slice gA k gcp, .int .i64 (gm : Int)] 96)).alloc (.cells #[.int .i64 p] 2)).heap[X]? = some (.cells #[.slice gA k gcp, .int .i64 (gm : Int)] 96 (0, 0)) := by rw [← hX]; exact hal_old (heap_alloc_new_ _ _)
            have f12 : ((w5.alloc (.cells #[.slice gA k gcp, .int .i64 (gm : Int)] 96)).alloc (.cells #[.int .i64 p] 2)).heap[X + 1]? = some (.cells #[.int .i64 p] 2 (0, 0)) := by rw [← hX]; exact hal_new (by simp)
            rw [hX]
            obtain ⟨WA, hWA⟩ : ∃ WA, (w5.alloc (.cells #[.slice gA k gcp, .int .i64 (gm : Int)] 96)).alloc (.cells #[.int .i64 p] 2) = WA := ⟨_, rfl⟩
            rw [hWA] at hkA f11 f12 ⊢
            have hkj : Keeps (fun _ => False) wj WA := (Hk0.out.trans (Keeps.of_new Hb5.out)).trans hkA
            obtain ⟨ng, ncp, w7, hrun, hncp, hri, hng, hb7⟩ := app_new Hg2.out (Hrow.out.below hkj.new (Nat.le_refl _)) (fun h => (Hgnil.out h).1) (by omega) f12
            have f11b := (hb7.block _ (lt_of_block f11)).trans f11
            have hk7 : Keeps (fun _ => False) wj w7 := hkj.trans (Keeps.of_new hb7)
            have hXl : wj.heap.size ≤ X := by
              have h1 := Hk0.out.size; have h2 := Hb5.out.size; rw [hX] at h2; omega
            have hXn : X < ng := by have := lt_of_block f11; omega
            have HF11 := Lib.hid f11b
            have Hk7 := Lib.hid hk7
            have Hri := Lib.hid hri
            have Hncp := Lib.hid hncp
            have d0 : w7.cell? ⟨X, 0, none⟩ = some (.slice gA k gcp) := by rw [cell_row f11b]; rfl
            have d1 : w7.cell? ⟨X, 1, none⟩ = some (.int .i64 (gm : Int)) := by rw [cell_row f11b]; rfl
            have z0 : w7.frozen? ⟨X, 0, none⟩ = false := frozen_row f11b
            clear hX hkA f11 f12 hWA hkj hncp hri hng hb7 f11b hk7
            rw [hrun]
            go_wp2_with fail
            clear hrun d0 d1 z0
            have k8 := keeps_setCell w7 X 0 (.slice (some ⟨ng, 0, none⟩) (k + 1) ncp)
            have f8 := (set_same 0 (.slice (some ⟨ng, 0, none⟩) (k + 1) ncp) HF11.out).trans (show _ = some (Obj.cells #[.slice (some ⟨ng, 0, none⟩) (k + 1) ncp, .int .i64 (gm : Int)] 96 (0, 0)) by simp)
            obtain ⟨w8, hw8⟩ : ∃ w8, w7.setCell ⟨X, 0, none⟩ (.slice (some ⟨ng, 0, none⟩) (k + 1) ncp) = w8 := ⟨_, rfl⟩
            rw [hw8] at k8 f8
            have hk8 : Keeps (fun k => k = X) wj w8 := Hk7.out.none.trans k8
            have hk8b : Below wj.heap.size wj w8 := hk8.below (Nat.le_refl _) (fun k hk e => by omega)
            have hKn8 := H1.out.below hk8b (Nat.le_refl _)
            have hri8 : Ints w8 (some ⟨ng, 0, none⟩) (k + 1) (gs ++ [p]) := Hri.out.keep k8 (fun b o e h => by cases e; omega)
            have hpb : -1 ≤ p ∧ p ≤ 10000 := HP.out.rng HZ.out p (by rw [← Hp.out]; exact mem_iAt (by rw [Hll.out]; exact hlt2))
            have hgl : (gs ++ [p]).length = k + 1 := by simp [Hg2.out]
            obtain ⟨w9, hput, hKn9, hK9⟩ := hKn8.put (n := k + 1) (p := p) (by omega) hpb.1 hpb.2 ⟨gs ++ [p], some ⟨ng, 0, none⟩, ncp, gm⟩ (by simp only [hgl]; exact hri8) (by omega)
            unfold chV at hput
            simp only [hgl] at hput
            have hput2 : (Instr.mapUpdate 116 (.map (some (T + 1))) (.agg #[.int .i64 ((k : Int) + 1), .int .i64 p]) (.agg #[.slice (some ⟨ng, 0, none⟩) (k + 1) ncp, .int .i64 (gm : Int)])).run Try.prog w8 = .ok () w9 := hput
            have HKn9 := Lib.hid hKn9
            have HK9 := Lib.hid hK9
            have Hgl := Lib.hid hgl
            have e0 : w8.cell? ⟨X, 0, none⟩ = some (.slice (some ⟨ng, 0, none⟩) (k + 1) ncp) := by rw [cell_row f8]; rfl
            have e1 : w8.cell? ⟨X, 1, none⟩ = some (.int .i64 (gm : Int)) := by rw [cell_row f8]; rfl
            have hTMo := HTM.out
            have hTwj : T + 1 < wj.heap.size := by have := H1.out.lt; have := HI2b.out.keep.size; omega
            have f9 := (hK9.block _ (lt_of_block f8) (by omega)).trans f8
            obtain ⟨bs, bA, bcp, bm⟩ := b
            have hT8 := H8.out
            simp only at hT8
            have hT9 := (hK9.block _ (Nat.lt_of_lt_of_le (lt_of_block hT8) hk8.size) (by omega)).trans ((hk8.block _ (lt_of_block hT8) (by omega)).trans hT8)
            obtain ⟨bl, hbl⟩ : ∃ bl, bs.length = bl := ⟨_, rfl⟩
            rw [hbl] at hT9
            have Hbl := Lib.hid hbl
            have HT9 := Lib.hid hT9
            have HF9 := Lib.hid f9
            have x0 : w9.cell? ⟨X, 0, none⟩ = some (.slice (some ⟨ng, 0, none⟩) (k + 1) ncp) := by rw [cell_row f9]; rfl
            have x1 : w9.cell? ⟨X, 1, none⟩ = some (.int .i64 (gm : Int)) := by rw [cell_row f9]; rfl
            have y0 : w9.cell? ⟨T, 0, none⟩ = some (.slice bA bl bcp) := by rw [cell_row hT9]; rfl
            have y1 : w9.cell? ⟨T, 1, none⟩ = some (.int .i64 (bm : Int)) := by rw [cell_row hT9]; rfl
            have y2 : w9.frozen? ⟨T, 0, none⟩ = false := frozen_row hT9
            have y3 : w9.frozen? ⟨T, 1, none⟩ = false := frozen_row hT9
            have Hk8 := Lib.hid hk8
            have Hri9 := Lib.hid (hri8.keep hK9 (fun b o e h => by cases e; omega))
            have hgk := Lib.hid (step_some HP.out HZ.out Hsplit.out H3.out (by rw [Hxs.out]; exact Hg.out) (some ⟨ng, 0, none⟩) ncp)
            have Hok9 : Hid (OkC w4.heap.size ⟨gs ++ [p], some ⟨ng, 0, none⟩, ncp, gm⟩) := Lib.hid ⟨by simp only [Hgl.out]; exact Hncp.out, fun h => by simp at h, fun b o e => by cases e; have := HI2b.out.keep.size; omega, hm24⟩
            have hjL : j < L.length := by rw [Hll.out]; exact hlt2
            have Htk : Hid (L.take (j + 1) = L.take j ++ [p]) := Lib.hid (by rw [List.take_succ_eq_append_getElem hjL, ← iAt_eq hjL, Hp.out])
            have hall : ∀ a r c, putS S (k + 1) p (some ⟨gs ++ [p], some ⟨ng, 0, none⟩, ncp, gm⟩) a r = some c → OkC w4.heap.size c := fun a r c hc => by
              simp only [putS] at hc
              split at hc
              · cases hc; exact Hok9.out
              · exact H7.out a r c hc
            have hcore : ∀ (W' : World) (b' : Chc), Keeps (fun q => q = T) w9 W' → W'.heap[T]? = some (.cells #[.slice b'.A b'.st.length b'.cp, .int .i64 (b'.m : Int)] 96 (0, 0)) → BestK zs L k (L.take j ++ [p]) b' → Ints W' b'.A b'.st.length b'.st → OkC w4.heap.size b' → MoI w4.heap.size (T + 1) T L zs k (j + 1) w4 W' := by
              intro W' b' hk hT hB hI hO
              refine ⟨⟨_, nn + 1, b', HKn9.out.keep hk (by omega) (fun a r c hc b o e h => by have := (hall a r c hc).new b o e; omega), by omega, fun q hq => ?_, fun q hq hql => ?_, fun q hq hql => ?_, fun a r ha => ?_, hall, hT, by rw [Htk.out]; exact hB, hI, hO⟩, ?_⟩
              · have : putS S (k + 1) p (some ⟨gs ++ [p], some ⟨ng, 0, none⟩, ncp, gm⟩) k q = S k q := by simp only [putS]; rw [if_neg (by omega)]
                rw [this]; exact H3.out q hq
              · by_cases e : iAt L q = p
                · rw [e]; simp only [putS, and_self, if_true]; exact hgk.out
                · have : putS S (k + 1) p (some ⟨gs ++ [p], some ⟨ng, 0, none⟩, ncp, gm⟩) (k + 1) (iAt L q) = S (k + 1) (iAt L q) := by simp only [putS]; rw [if_neg (fun h => e h.2)]
                  rw [this]
                  rcases Nat.lt_or_ge q j with hq2 | hq2
                  · exact H4.out q hq2 hql
                  · have : q = j := by omega
                    subst this
                    exact absurd Hp.out e
              · have hne : iAt L q ≠ p := by
                  rw [← Hp.out, iAt_eq hql, iAt_eq hjL]
                  have := incr_lt HP.out.incr hql (show j < q by omega)
                  omega
                have : putS S (k + 1) p (some ⟨gs ++ [p], some ⟨ng, 0, none⟩, ncp, gm⟩) (k + 1) (iAt L q) = S (k + 1) (iAt L q) := by simp only [putS]; rw [if_neg (fun h => hne h.2)]
                rw [this]
                exact H5.out q (by omega) hql
              · have : putS S (k + 1) p (some ⟨gs ++ [p], some ⟨ng, 0, none⟩, ncp, gm⟩) a r = S a r := by simp only [putS]; rw [if_neg (by omega)]
                rw [this]; exact H6.out a r ha
              · have q1 : Keeps (fun q => q = T + 1 ∨ q = T) wj w9 := (hk8.mono (fun q hq e => by omega)).trans (HK9.out.mono (fun q _ e => .inl e))
                exact (Hkp.out.trans q1).trans (hk.mono (fun q _ e => .inr e))
            have Hcore := Lib.hid hcore
            have hbI9 : Hid (Ints w9 bA bl bs) := Lib.hid (by
              have h1 := H10.out
              simp only at h1
              rw [hbl] at h1
              exact (h1.keep hk8 (fun b o e h => by have := lt_of_block HT9.out; have h3 := H11.out.new b o e; have h4 := h1.2; rcases Nat.eq_zero_or_pos bl with h0 | h0
                                                    · have := (H11.out.nil (by simp only; exact List.length_eq_zero_iff.1 (by omega))).1; simp only at this; rw [this] at e; cases e
                                                    · obtain ⟨b2, o2, e2, hc2⟩ := h4 h0
                                                      rw [e2] at e
                                                      cases e
                                                      have := lt_of_cell (hc2 0 h0)
                                                      omega)).keep HK9.out (fun b o e h => by have h3 := H11.out.new b o e; omega))
            clear k8 f8 hk8 hk8b hKn8 hri8 hpb hgl hput hKn9 hK9 f9 hT8 hT9 hbl hjL hall hcore e1 e0
            rw [hw8]
            by_cases hgb : bm < gm
            · have hgb2 : (bm : Int) < (gm : Int) := by omega
              go_wp2_with fail
              go_roundw
              case rel =>
                have k1 := keeps_setCell w9 T 0 (.slice (some ⟨ng, 0, none⟩) (k + 1) ncp)
                have k2 := keeps_setCell (w9.setCell ⟨T, 0, none⟩ (.slice (some ⟨ng, 0, none⟩) (k + 1) ncp)) T 1 (.int .i64 (gm : Int))
                have s2 := (set_same 1 (.int .i64 (gm : Int)) (set_same 0 (.slice (some ⟨ng, 0, none⟩) (k + 1) ncp) HT9.out)).trans (show _ = some (Obj.cells #[.slice (some ⟨ng, 0, none⟩) (k + 1) ncp, .int .i64 (gm : Int)] 96 (0, 0)) by simp)
                refine ⟨j + 1, by omega, by go_num, Lib.hid (Hcore.out _ ⟨gs ++ [p], some ⟨ng, 0, none⟩, ncp, gm⟩ (k1.trans k2) (by simp only [Hgl.out]; exact s2) (H9.out.take hgk.out hgb) ?_ Hok9.out)⟩
                simp only [Hgl.out]
                exact Hri9.out.keep (k1.trans k2) (fun b o e h => by cases e; have := HI2b.out.keep.size; omega)
              case measure => simp [intOf]; omega
            · have hgb2 : ¬ (bm : Int) < (gm : Int) := by omega
              go_wp2_with fail
              go_roundw
              case rel =>
                refine ⟨j + 1, by omega, by go_num, Lib.hid (Hcore.out _ ⟨bs, bA, bcp, bm⟩ (Keeps.refl _ _) (by simp only [Hbl.out]; exact HT9.out) (H9.out.keep hgk.out (by simp only; omega)) (by simp only [Hbl.out]; exact hbI9.out) H11.out)⟩
              case measure => simp [intOf]; omega
        · have e : j = ll := by omega
          subst e
          have HI9 : Hid (MoI w4.heap.size (T + 1) T L zs (k + 1) 0 w4 wj) := Lib.hid (by
            have h9 := HI2.out
            rw [← Hll.out] at h9
            exact MoI.next (by rw [Hll.out]; exact hll25) h9)
          go_wp2_with fail
          go_loopw [71] (fun i wr => ∃ q : Nat, q ≤ j ∧ i = .int .i64 (q : Int) ∧ Hid (MoI w4.heap.size (T + 1) T L zs (k + 1) 0 w4 wr)) (fun i _ => j - (intOf i).toNat)
          case atStart => exact ⟨0, Nat.zero_le _, rfl, HI9⟩
          case round =>
            obtain ⟨q, hq, rfl, HI3⟩ := hrel
            obtain ⟨wq, rfl⟩ : ∃ wq, wq = wr := ⟨_, rfl⟩
            by_cases hlt3 : q < j
            · obtain ⟨⟨S, nn, b, h1, h2, h3, h4, h5, h6, h7, h8, h9, h10, h11⟩, hkp⟩ := HI3.out
              have hLq : Ints wq (some ⟨D, 0, none⟩) j L := by
                have h1 := HLi.out
                rw [Hll.out] at h1
                exact (h1.keep HK4.out (fun b o e h => by cases e; omega)).keep hkp (fun b o e h => by cases e; omega)
              obtain ⟨bD, oD, he, hcD⟩ := hLq.2 (by omega)
              cases he
              have hcq := hcD q hlt3
              rw [Nat.zero_add] at hcq
              obtain ⟨p, hp⟩ : ∃ p, iAt L q = p := ⟨_, rfl⟩
              rw [hp] at hcq
              have hpL : p ∈ L := by rw [← hp]; exact mem_iAt (by rw [Hll.out]; exact hlt3)
              have hpb : -1 ≤ p ∧ p ≤ 10000 := HP.out.rng HZ.out p hpL
              have i0 : (0 : Int) ≤ (q : Int) := by omega
              have i1 : (q : Int) < (j : Int) := by omega
              obtain ⟨w8, hdel, hKn8, hK8⟩ := h1.del (n := k) (p := p) (by omega) hpb.1 hpb.2 0
              have HI8 : Hid (MoI w4.heap.size (T + 1) T L zs (k + 1) 0 w4 w8) := Lib.hid ⟨⟨putS S k p none, nn, b, hKn8, h2, fun r hr => by
                  have : putS S k p none (k + 1) r = S (k + 1) r := by simp only [putS]; rw [if_neg (by omega)]
                  rw [this]; exact h3 r hr, fun a ha => by omega, fun a ha hb => by
                  have : putS S k p none (k + 1 + 1) (iAt L a) = S (k + 1 + 1) (iAt L a) := by simp only [putS]; rw [if_neg (by omega)]
                  rw [this]; exact h5 a ha hb, fun a r ha => by
                  have : putS S k p none a r = S a r := by simp only [putS]; rw [if_neg (by omega)]
                  rw [this]; exact h6 a r ha, fun a r c hc => by
                  simp only [putS] at hc
                  split at hc
                  · cases hc
                  · exact h7 a r c hc, (hK8.block _ (lt_of_block h8) (by omega)).trans h8, h9, h10.keep hK8 (fun b' o e h => by have := h11.new b' o e; subst h; have := HTM.out; omega), h11⟩, hkp.trans (hK8.mono (fun _ _ h => .inl h))⟩
              clear hp hcD hLq h1 h2 h3 h4 h5 h6 h7 h8 h9 h10 h11 hkp hKn8 hK8 hpL hpb
              go_wp2_with fail
              go_roundw
              case rel => exact ⟨q + 1, by omega, by go_num, HI8⟩
              case measure => simp [intOf]; omega
            · have e : q = j := by omega
              subst e
              go_wp2_with fail
              go_roundw
              case rel => exact ⟨k + 1, by omega, by go_num, HI3⟩
              case measure => simp [intOf]; omega
    · have e : k = st := by omega
      subst e
      obtain ⟨⟨S, nn, b, _, _, _, _, _, _, _, h8, h9, h10, h11⟩, hkp⟩ := HI.out
      rw [List.take_zero] at h9
      have HR := Lib.hid (h9.fin HP.out HZ.out rfl)
      obtain ⟨bs, A, cp, m⟩ := b
      simp only at h8 h10 HR
      obtain ⟨ln, hln⟩ : ∃ ln, bs.length = ln := ⟨_, rfl⟩
      rw [hln] at h8 h10
      have Hln := Lib.hid hln
      have Hi10 := Lib.hid h10
      have Hnew := Lib.hid h11.new
      have Hkp := Lib.hid hkp
      have c0 : wk.cell? ⟨T, 0, none⟩ = some (.slice A ln cp) := by rw [cell_row h8]; rfl
      have c1 : wk.cell? ⟨T, 1, none⟩ = some (.int .i64 (m : Int)) := by rw [cell_row h8]; rfl
      have hwT : w.heap.size < T := by have := lt_of_block HF4b.out; have := HTe.out; omega
      have fR := (hkp.block _ (by omega) (by omega)).trans ((HK4.out.block _ (lt_of_block HF4b.out) (by omega)).trans HF4b.out)
      have d0 : wk.cell? ⟨w.heap.size, 0, none⟩ = some (.slice none 0 0) := by rw [cell_row fR]; rfl
      have d1 : wk.cell? ⟨w.heap.size, 1, none⟩ = some (.int .i64 0) := by rw [cell_row fR]; rfl
      have z0 : wk.frozen? ⟨w.heap.size, 0, none⟩ = false := frozen_row fR
      have z1 : wk.frozen? ⟨w.heap.size, 1, none⟩ = false := frozen_row fR
      have HfR := Lib.hid fR
      clear h8 h9 h10 h11 hkp hln fR
      go_wp2_with fail
      have k1 := keeps_setCell wk w.heap.size 0 (.slice A ln cp)
      have k2 := keeps_setCell (wk.setCell ⟨w.heap.size, 0, none⟩ (.slice A ln cp)) w.heap.size 1 (.int .i64 (m : Int))
      have s2 := (set_same 1 (.int .i64 (m : Int)) (set_same 0 (.slice A ln cp) HfR.out)).trans (show _ = some (Obj.cells #[.slice A ln cp, .int .i64 (m : Int)] 96 (0, 0)) by simp)
      refine bodyPost_ret (v := .agg #[.slice A ln cp, .int .i64 (m : Int)]) (res58 (by rfl) s2) rfl ?_
      refine ⟨bs, A, cp, m, HR.out, by rw [Hln.out], ?_, fun b o e => ?_, ?_⟩
      · rw [Hln.out]
        exact Hi10.out.keep (k1.trans k2) (fun b o e h => by have := Hnew.out b o e; subst h; omega)
      · have := Hnew.out b o e; omega
      · have q1 : Keeps (fun k => w.heap.size ≤ k) w w2 := HK2.out.none
        have q2 : Keeps (fun k => w.heap.size ≤ k) w2 w4 := HK4.out.mono (fun k _ e => by omega)
        have q3 : Keeps (fun k => w.heap.size ≤ k) w4 wk := Hkp.out.mono (fun k _ e => by omega)
        have q4 : Keeps (fun k => w.heap.size ≤ k) wk _ := (k1.trans k2).mono (fun k _ e => by omega)
        exact (((q1.trans q2).trans q3).trans q4).below (Nat.le_refl _) (fun k hk e => by omega)
end Go.Proofs.Ytdfdlklglbefiaa
