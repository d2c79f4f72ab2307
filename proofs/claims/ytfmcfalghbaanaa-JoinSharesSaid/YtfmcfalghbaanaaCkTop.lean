/- Stage 2: the program's CheckJoin. -/
import Derived.Test.YtfmcfalghbaanaaFst2
import Derived.Test.YtfmcfalghbaanaaRno
namespace Go.Proofs.Ytfmcfalghbaanaa
set_option linter.unusedSimpArgs false
set_option linter.unusedVariables false
open Go.RowKit Go.Shelf
attribute [local go_sem] Oper.semAt_some
attribute [local go_sem ↓] exec_load78
attribute [local go_sem ↓] at_load78

theorem Out.opR_of {n : Nat} {P : Program} {ops : Array Oper} {Q : Exit → Act → World → Prop} {i : Nat} {K : Act → World → Prop} {a : Act} {w : World} {o : Oper} (ho : ops[i]? = some o) (hw : Region.wanted o (yielded ops a.tmps) = true) (h : o.wpIn Fence.wide n P a w K Q) : Out.opR n P ops Q i K a w := by
  unfold Out.opR wpOpIn
  simp only [ho, hw, if_true]
  exact h
/-- Two may come up. -/
theorem Out.anyR_two {n z i j : Nat} {P : Program} {ops : Array Oper} {Q : Exit → Act → World → Prop} {md : Region.Mode} {S : World → Prop} {fuel : Nat} {listed : Array Bool} {a : Act} {w : World} {oi oj : Oper} (hr : Region.ready md ops listed = [i, j])
    (hi : ops[i]? = some oi) (hj : ops[j]? = some oj) (hwi : Region.wanted oi (yielded ops a.tmps) = true) (hwj : Region.wanted oj (yielded ops a.tmps) = true)
    (h1 : ∀ K : Act → World → Prop, (∀ a w, (i ≠ z → listed.getD z false = false → S w) → Out.anyR n P md ops Q S z fuel (listed.setIfInBounds i true) a w → K a w) → oi.wpIn Fence.wide n P a w K Q)
    (h2 : ∀ K : Act → World → Prop, (∀ a w, (j ≠ z → listed.getD z false = false → S w) → Out.anyR n P md ops Q S z fuel (listed.setIfInBounds j true) a w → K a w) → oj.wpIn Fence.wide n P a w K Q) : Out.anyR n P md ops Q S z (fuel + 1) listed a w := by
  refine ⟨fun h0 => (by rw [hr] at h0; cases h0), fun k hk => ?_⟩
  rw [hr] at hk
  simp only [List.mem_cons, List.mem_nil_iff, or_false] at hk
  rcases hk with rfl | rfl
  · exact Out.opR_of hi hwi (h1 _ (fun a w hS hA => ⟨hS, hA⟩))
  · exact Out.opR_of hj hwj (h2 _ (fun a w hS hA => ⟨hS, hA⟩))

/-- The set of the pieces of the first so many steps. -/
def setN (ss : List St) (k : Nat) : Nat := (List.range k).foldl (fun q i => q ||| 2 ^ (sAt ss i).p.toNat) 0
theorem setN_succ (ss : List St) (k : Nat) : setN ss (k + 1) = setN ss k ||| 2 ^ (sAt ss k).p.toNat := by
  unfold setN
  rw [List.range_succ, List.foldl_append]
  rfl
theorem setN_test (ss : List St) (k j : Nat) : (setN ss k).testBit j = true ↔ ∃ i, i < k ∧ (sAt ss i).p.toNat = j := by
  induction k with
  | zero => simp [setN]
  | succ k ih =>
    rw [setN_succ, Nat.testBit_or, Bool.or_eq_true, ih, Nat.testBit_two_pow, decide_eq_true_eq]
    constructor
    · rintro (⟨i, h1, h2⟩ | h)
      · exact ⟨i, by omega, h2⟩
      · exact ⟨k, by omega, h⟩
    · rintro ⟨i, h1, h2⟩
      rcases Nat.lt_or_ge i k with h | h
      · exact .inl ⟨i, h, h2⟩
      · exact .inr (by rw [show k = i by omega]; exact h2)
theorem setN_lt {ss : List St} {k : Nat} (h : ∀ i, i < k → (sAt ss i).p.toNat < 8) : setN ss k < 256 := by
  induction k with
  | zero => simp [setN]
  | succ k ih =>
    rw [setN_succ, show 256 = 2 ^ 8 from rfl]
    exact Nat.or_lt_two_pow (ih (fun i hi => h i (by omega))) (Nat.pow_lt_pow_right (by omega) (h k (by omega)))
theorem allB_at {ps : List Pc} {ss : List St} (h : allB ps ss = true) {k : Nat} (hk : k < ss.length) : stepB ps (sAt ss k) = true := by
  rw [sAt_get hk]
  exact List.all_eq_true.1 h _ (List.getElem_mem hk)
/-- The world of check. -/
structure Kx (w : World) (Y : Array Value) (A : Option Addr) (n cap : Nat) (off lo hi : Int) (T : Nat → Nat → Bool) (M : Nat) (ps : List Pc) (C : Option Addr) (m : Nat) (ss : List St) (W : World) : Prop where
  bx : Bx w w.heap.size Y A n cap off lo hi T M ps W
  st : Sts W C m ss
theorem Kx.next {w : World} {Y : Array Value} {A : Option Addr} {n cap : Nat} {off lo hi : Int} {T : Nat → Nat → Bool} {M : Nat} {ps : List Pc} {C : Option Addr} {m : Nat} {ss : List St} {W W' : World} (h : Kx w Y A n cap off lo hi T M ps C m ss W) (hb : Below W.heap.size W W') : Kx w Y A n cap off lo hi T M ps C m ss W' :=
  ⟨h.bx.next hb, h.st.below hb (Nat.le_refl _)⟩

set_option maxRecDepth 100000 in
set_option maxHeartbeats 4000000 in
theorem check50_len (Y : Array Value) (A C : Option Addr) (n cap m cp : Nat) (off lo hi : Int) (T : Nat → Nat → Bool) (M : Nat) (ps : List Pc) (ss : List St) (w : World)
    (hY : Brd Y A n cap off lo hi T M) (hp : Pcs w A n ps) (hs : Sts w C m ss) (hm : m ≤ 9223372036854775807) (hn : n ≤ 8) (hne : m ≠ n) :
    Calls Try.prog 50 #[.agg Y, .slice C m cp] w fun e w' => e = .returned (.int .i64 15) ∧ Below w.heap.size w w' := by
  have X := Bx.new (cap := cap) (off := off) (lo := lo) (hi := hi) hp hY
  obtain ⟨c0, c1, c2, c3, c4, hlt0, l78⟩ := X.c
  have d1 : ((m : Int) != (n : Int)) = true := by rw [bne_iff_ne]; omega
  have HX := Lib.hid X.below
  clear X hY hp hs hne
  go_enter Try.func50, Try.ntmps50
  go_wp2_with fail
  go_ret
  exact ⟨rfl, HX.out⟩

set_option maxRecDepth 100000 in
set_option maxHeartbeats 4000000 in
theorem check50_eq (Y : Array Value) (A C : Option Addr) (n cap cp : Nat) (off lo hi : Int) (M : Nat) (ps : List Pc) (ss : List St) (w : World)
    (hY : Brd Y A n cap off lo hi (tabOf ⟨ps, off, ⟨lo, hi⟩⟩) M) (hp : Pcs w A n ps) (hs : Sts w C n ss) (hn : n ≤ 8) (hn1 : 1 ≤ n) (hcp : n ≤ cp) (he : chkC ⟨ps, off, ⟨lo, hi⟩⟩ = 0) :
    Calls Try.prog 50 #[.agg Y, .slice C n cp] w fun e w' => e = .returned (.int .i64 (ckJoin ⟨ps, off, ⟨lo, hi⟩⟩ ss)) ∧ Below w.heap.size w w' := by
  have X : Kx w Y A n cap off lo hi (tabOf ⟨ps, off, ⟨lo, hi⟩⟩) M ps C n ss (w.alloc (.cells Y 78)) := ⟨Bx.new hp hY, hs.below (below_alloc_ _ _) (Nat.le_refl _)⟩
  have Hl := Lib.hid hp.1
  have Hm := Lib.hid hs.1
  have HY := Lib.hid hY
  have He := Lib.hid he
  obtain ⟨c0, c1, c2, c3, c4, hlt0, l78⟩ := X.bx.c
  clear hY hp hs he
  refine (callsIn_wide (n := 3)).1 ?_
  refine callsIn_of_wp Try.func50 rfl trivial ?_ rfl
  simp only [Try.ntmps50, List.size_toArray, List.length_cons, List.length_nil, Nat.reduceAdd, Nat.reduceSub, Array.replicate_succ, Array.replicate_zero, List.push_toArray, List.append_toArray, List.nil_append, List.cons_append]
  gi_wp2_with fail
  have HX := Lib.hid X
  clear c0 c1 c2 c3 c4 hlt0 l78 X
  obtain ⟨W0, hW0⟩ : ∃ W0, w.alloc (.cells Y 78) = W0 := ⟨_, rfl⟩
  rw [hW0] at HX ⊢
  clear hW0
  rename_i K1 a1 K2 a2
  have Hrest : ∀ v5 v19 v20 v21 v22 v23 v24 v25 v26 W, Kx w Y A n cap off lo hi (tabOf ⟨ps, off, ⟨lo, hi⟩⟩) M ps C n ss W → K2 { tmps := #[.agg Y, .slice C n cp, .pointer (some ⟨w.heap.size, 0, none⟩), undef, .int .i64 0, v5, .bool (!allB ps ss), undef, undef, undef, undef, undef, .slice C n cp, .int .i64 (n : Int), .pointer (some ⟨w.heap.size, 0, none⟩), .pointer (some ⟨w.heap.size, 0, none⟩), .slice A n cap, .int .i64 (n : Int), .bool false, v19, v20, v21, v22, v23, v24, v25, v26, undef, undef, undef, undef, undef, undef, undef, undef, undef, undef, undef, undef, undef, undef, undef, undef, undef, undef, undef, undef, undef, undef, undef, undef, undef, undef, undef, undef, undef, undef, undef, undef, undef, undef, undef], defers := [] } W := by
    intro v5 v19 v20 v21 v22 v23 v24 v25 v26 W hX
    apply a2
    cases hall : allB ps ss with
    | false =>
      have HR := Lib.hid (show ckJoin ⟨ps, off, ⟨lo, hi⟩⟩ ss = 2 from ckJoin_step He.out (by have := Hl.out; have := Hm.out; simp only; omega) hall)
      have HX := Lib.hid hX.bx.below
      clear hX hall
      gi_wp2_with fail
      go_ret
      exact ⟨ret_int HR.out.symm, HX.out⟩
    | true =>
      have Hall := Lib.hid hall
      have HXW := Lib.hid hX
      clear hX hall
      have hsteps : ∀ i, i < n → ∃ p : Nat, (sAt ss i).p = (p : Int) ∧ p < n := fun i hi => by
        have h1 := step_facts (allB_at Hall.out (show i < ss.length by have := Hm.out; omega))
        have := Hl.out
        exact ⟨(sAt ss i).p.toNat, by omega, by omega⟩
      have HS := Lib.hid hsteps
      clear hsteps
      gi_wp2_with fail
      gi_loopw [7, 30] (fun q i wr => ∃ k : Nat, k ≤ n ∧ i = .int .i64 (k : Int) ∧ q = .int .u64 (setN ss k : Int) ∧ ((ss.take k).map St.p).Nodup ∧ Kx w Y A n cap off lo hi (tabOf ⟨ps, off, ⟨lo, hi⟩⟩) M ps C n ss wr) (fun _ i _ => n - (intOf i).toNat)
      case atStart => exact ⟨0, Nat.zero_le _, rfl, rfl, by simp, HXW.out⟩
      case round =>
        obtain ⟨k, hk, rfl, rfl, hnd, hX⟩ := hrel
        have HXr := Lib.hid hX
        have Hnd := Lib.hid hnd
        clear hX hnd
        by_cases hlt : k < n
        · obtain ⟨p, hp, hpn⟩ := HS.out k hlt
          obtain ⟨b, o, rfl, hq0⟩ := HXr.out.st.2 (by omega)
          clear hq0
          obtain ⟨e0, e1⟩ := sts_cell HXr.out.st hlt
          obtain ⟨t, ht⟩ : ∃ t, (sAt ss k).turned = t := ⟨_, rfl⟩
          rw [hp] at e0
          rw [ht] at e1
          have Hp := Lib.hid hp
          obtain ⟨q, hq⟩ : ∃ q, setN ss k = q := ⟨_, rfl⟩
          have hq256 : q < 256 := by
            rw [← hq]
            refine setN_lt (fun i hi2 => ?_)
            obtain ⟨p2, h1, h2⟩ := HS.out i (by omega)
            rw [h1]; omega
          have Hq := Lib.hid hq
          rw [hq]
          have i0 : (0 : Int) ≤ (k : Int) := by omega
          have i1 : (k : Int) < (n : Int) := by omega
          clear hp hq ht
          gi_wp2_with fail
          have hk1 : Kx w Y (A) n cap off lo hi (tabOf ⟨ps, off, ⟨lo, hi⟩⟩) M ps (some ⟨b, o, none⟩) n ss (wr.alloc (.cells #[.int .i64 (p : Int), .bool t] 28)) := HXr.out.next (below_alloc_ _ _)
          have hE : (wr.alloc (.cells #[.int .i64 (p : Int), .bool t] 28)).heap[wr.heap.size]? = some (.cells #[.int .i64 (p : Int), .bool t] 28 (0, 0)) := heap_alloc_new_ _ _
          obtain ⟨V, hV⟩ : ∃ V, wr.alloc (.cells #[.int .i64 (p : Int), .bool t] 28) = V := ⟨_, rfl⟩
          rw [hV] at hk1 hE ⊢
          have hbV : Below wr.heap.size wr V := by rw [← hV]; exact below_alloc_ _ _
          clear hV e0 e1
          have HK := Lib.hid hk1
          have HE := Lib.hid hE
          have HbV := Lib.hid hbV
          clear hk1 hE hbV
          refine Out.region_R (z := 4) (S := Below V.heap.size V) (by kernel_rfl) ?_
          have hS0 : Below V.heap.size V V.drew := drew_b V 1
          refine Out.anyR_free (i := 0) (oi := { dst := some 34, op := Op.move (Operand.tmp 7), type := 89, pos := "board.go:94", after := #[], guard := none }) (v := .int .u64 (q : Int)) rfl (by decide) (by kernel_rfl) (by kernel_rfl) (by kernel_rfl) (fun _ _ _ h => h) (Or.inl ⟨by rfl, by intro W' hSw; go_simp⟩) hS0 ?_
          simp only [Act.put, List.setIfInBounds_toArray, List.set_cons_zero, List.set_cons_succ]
          refine Out.anyR_free (i := 2) (oi := { dst := some 36, op := Op.fieldAddr 28 (Operand.tmp 9) 0, type := 0, pos := "board.go:94", after := #[], guard := none }) (v := .pointer (some ⟨wr.heap.size, 0, none⟩)) rfl (by decide) (by kernel_rfl) (by kernel_rfl) (by kernel_rfl) (fun _ _ _ h => h) (Or.inl ⟨by rfl, by intro W' hSw; go_simp⟩) hS0 ?_
          simp only [Act.put, List.setIfInBounds_toArray, List.set_cons_zero, List.set_cons_succ]
          refine Out.anyR_take (i := 3) (oi := { dst := some 37, op := Op.load 3 (Operand.tmp 36), type := 3, pos := "board.go:94", after := #[{ on := 2, ground := Ground.data }], guard := none }) (v := .int .i64 (p : Int)) rfl (by decide) (by kernel_rfl) (by kernel_rfl) (by kernel_rfl) (by kernel_rfl) (fun _ _ _ h => h) (Or.inl ⟨by rfl, by intro W' hSw; have hc := (two_cells ((hSw.block _ (lt_of_block HE.out)).trans HE.out)).1; go_simp⟩) hS0 ?_
          simp only [Act.put, List.setIfInBounds_toArray, List.set_cons_zero, List.set_cons_succ]
          refine Out.anyR_one (i := 1) (by kernel_rfl) rfl (by rfl) ?_
          intro K hK
          have HKK := Lib.hid hK
          clear hK
          go_simp
          refine ⟨trivial, (callsIn_wide.2 (members69 (q : Int) _)).mono ?_⟩
          rintro e V2 ⟨rfl, rfl⟩
          have hb2 : Below V.heap.size V (V.drew.alloc (.cells #[.int .u64 (q : Int)] 89)) := hS0.trans (show Below V.heap.size V.drew _ from below_alloc_ V.drew _)
          have hcq : (V.drew.alloc (.cells #[.int .u64 (q : Int)] 89)).cell? ⟨V.drew.heap.size, 0, none⟩ = some (.int .u64 (q : Int)) := by rw [cell_row (heap_alloc_new_ V.drew (.cells #[.int .u64 (q : Int)] 89))]; rfl
          refine HKK.out _ _ (fun _ _ => hb2) ?_
          clear HKK K
          refine Out.anyR_one (i := 4) (by kernel_rfl) rfl (by rfl) ?_
          intro K hK
          have HKK := Lib.hid hK
          clear hK
          go_simp
          refine ⟨trivial, (callsIn_wide.2 (member76 q p _ _ hcq hq256 (by omega))).mono ?_⟩
          rintro e V3 ⟨rfl, rfl⟩
          refine HKK.out _ _ (fun e => absurd rfl e) ?_
          clear HKK K
          refine Out.anyR_done (by kernel_rfl) ?_ _
          have HX3 := Lib.hid (HK.out.next hb2)
          have c0 := (two_cells ((hb2.block _ (lt_of_block HE.out)).trans HE.out)).1
          obtain ⟨V3, hV3⟩ : ∃ V3, V.drew.alloc (.cells #[.int .u64 (q : Int)] 89) = V3 := ⟨_, rfl⟩
          rw [hV3] at HX3 c0 ⊢
          clear hV3 hcq hb2 hS0
          cases hbit : q.testBit p with
          | true =>
            have HR := Lib.hid (show ckJoin ⟨ps, off, ⟨lo, hi⟩⟩ ss = 11 from ckJoin_have He.out (by have := Hl.out; have := Hm.out; simp only; omega) Hall.out (by
              have h1 := hbit
              rw [← Hq.out] at h1
              obtain ⟨i, hi2, h2⟩ := (setN_test ss k p).1 h1
              obtain ⟨p2, h3, h4⟩ := HS.out i (by omega)
              exact nodup_not (i := k) (j := i) (by have := Hm.out; omega) hi2 (by rw [Hp.out, h3]; rw [h3] at h2; omega)))
            clear hbit
            gi_wp2_with fail
            go_ret
            exact ⟨ret_int HR.out.symm, HX3.out.bx.below⟩
          | false =>
            have Hnd2 := Lib.hid (nodup_next (ss := ss) (i := k) (by have := Hm.out; omega) Hnd.out (fun j hj e => by
              obtain ⟨p2, h3, h4⟩ := HS.out j (by omega)
              have h5 : (setN ss k).testBit p = true := (setN_test ss k p).2 ⟨j, hj, by rw [e, Hp.out]; rfl⟩
              rw [Hq.out, hbit] at h5
              cases h5))
            have Hsn := Lib.hid (show setN ss (k + 1) = q ||| 2 ^ p by rw [setN_succ, Hq.out, Hp.out]; rfl)
            have hwp := wrap_pow (show p < 8 by omega)
            have hbo := bit_or hq256 (show p < 8 by omega)
            have p0 : (0 : Int) ≤ (p : Int) := by omega
            clear hbit
            gi_wp2_with fail
            go_roundw
            case rel => exact ⟨k + 1, by omega, by go_num, by rw [Hsn.out], Hnd2.out, HX3.out⟩
            case measure => simp [intOf]; omega
        · have hkn : k = n := by omega
          subst hkn
          have HND := Lib.hid (show (ss.map St.p).Nodup by have h1 := Hnd.out; rw [List.take_of_length_le (by have := Hm.out; omega)] at h1; exact h1)
          obtain ⟨b, o, rfl, hq0⟩ := HXr.out.st.2 (by omega)
          clear hq0
          have s1 : (1 : Int) ≤ (k : Int) := by omega
          have s2 : (k : Int) ≤ (cp : Int) := by omega
          gi_wp2_with fail
          all_goals (
            gi_loopw [48] (fun i wr2 => ∃ j : Nat, j ≤ k - 1 ∧ i = .int .i64 (j : Int) ∧ fitAll ⟨ps, off, ⟨lo, hi⟩⟩ ss j = true ∧ Kx w Y A k cap off lo hi (tabOf ⟨ps, off, ⟨lo, hi⟩⟩) M ps (some ⟨b, o, none⟩) k ss wr2) (fun i _ => k - (intOf i).toNat)
            case atStart => exact ⟨0, Nat.zero_le _, rfl, rfl, HXr.out⟩
            case round =>
              obtain ⟨j, hj, rfl, hfa, hX4⟩ := hrel
              have HX4 := Lib.hid hX4
              have Hfa := Lib.hid hfa
              clear hX4 hfa
              by_cases hlt2 : j < k - 1
              · first
                | (exfalso; omega)
                | (
                  obtain ⟨p0, hp0, hpn0⟩ := HS.out j (by omega)
                  obtain ⟨p1, hp1, hpn1⟩ := HS.out (j + 1) (by omega)
                  have st0 := allB_at Hall.out (show j < ss.length by have := Hm.out; omega)
                  have st1 := allB_at Hall.out (show j + 1 < ss.length by have := Hm.out; omega)
                  obtain ⟨e0, e1⟩ := sts_cell HX4.out.st (show j + 1 < k by omega)
                  have HC := Lib.hid (fun W' (hb : Below wr.heap.size wr W') => sts_cell (HX4.out.next hb).st (show j < k by omega))
                  have hfn := fitAll_next ⟨ps, off, ⟨lo, hi⟩⟩ ss j
                  have hfx := fun hf => fitAll_not (c := ⟨ps, off, ⟨lo, hi⟩⟩) (ss := ss) (k := j) (n := ss.length - 1) (by have := Hm.out; omega) hf
                  obtain ⟨⟨z0, t0⟩, hs0⟩ : ∃ s0, sAt ss j = s0 := ⟨_, rfl⟩
                  obtain ⟨⟨z1, t1⟩, hs1⟩ : ∃ s1, sAt ss (j + 1) = s1 := ⟨_, rfl⟩
                  rw [hs0] at hp0 st0 HC hfn hfx
                  rw [hs1] at hp1 st1 e0 e1 hfn hfx
                  simp only at hp0 hp1 e0 e1
                  subst hp0 hp1
                  rw [show o + (j + 1) * 2 = o + 2 + j * 2 by omega] at e0 e1
                  have HU := Lib.hid (tab_step (c := ⟨ps, off, ⟨lo, hi⟩⟩) st0 st1)
                  have Hfn := Lib.hid hfn
                  have Hfx := Lib.hid hfx
                  have i0 : (0 : Int) ≤ (j : Int) := by omega
                  have i1 : (j : Int) < ((k - 1 : Nat) : Int) := by omega
                  have i2 : (j : Int) < (k : Int) := by omega
                  clear hs0 hs1 hfn hfx st0 st1
                  gi_wp2_with fail
                  have hE : (wr.alloc (.cells #[.int .i64 (p1 : Int), .bool t1] 28)).heap[wr.heap.size]? = some (.cells #[.int .i64 (p1 : Int), .bool t1] 28 (0, 0)) := heap_alloc_new_ _ _
                  obtain ⟨V, hV⟩ : ∃ V, wr.alloc (.cells #[.int .i64 (p1 : Int), .bool t1] 28) = V := ⟨_, rfl⟩
                  have hbV : Below wr.heap.size wr V := by rw [← hV]; exact below_alloc_ _ _
                  rw [hV] at hE ⊢
                  clear hV e0 e1
                  have HE := Lib.hid hE
                  have HbV := Lib.hid hbV
                  clear hE hbV
                  refine Out.region_R (z := 6) (S := Below V.heap.size V) (by kernel_rfl) ?_
                  have hS0 : Below V.heap.size V V.drew := drew_b V 1
                  refine Out.anyR_free (i := 0) (oi := { dst := some 53, op := Op.fieldAddr 78 (Operand.tmp 2) 1, type := 0, pos := "board.go:100", after := #[], guard := none }) (v := .pointer (some ⟨w.heap.size, 4, none⟩)) rfl (by decide) (by kernel_rfl) (by kernel_rfl) (by kernel_rfl) (fun _ _ _ h => h) (Or.inl ⟨by rfl, by intro W' hSw; go_simp⟩) hS0 ?_
                  simp only [Act.put, List.setIfInBounds_toArray, List.set_cons_zero, List.set_cons_succ]
                  refine Out.anyR_free (i := 1) (oi := { dst := some 54, op := Op.move (Operand.tmp 1), type := 29, pos := "board.go:100", after := #[], guard := none }) (v := .slice (some ⟨b, o, none⟩) k cp) rfl (by decide) (by kernel_rfl) (by kernel_rfl) (by kernel_rfl) (fun _ _ _ h => h) (Or.inl ⟨by rfl, by intro W' hSw; go_simp⟩) hS0 ?_
                  simp only [Act.put, List.setIfInBounds_toArray, List.set_cons_zero, List.set_cons_succ]
                  refine Out.anyR_free (i := 2) (oi := { dst := some 55, op := Op.move (Operand.tmp 10), type := 3, pos := "board.go:100", after := #[], guard := none }) (v := .int .i64 (j : Int)) rfl (by decide) (by kernel_rfl) (by kernel_rfl) (by kernel_rfl) (fun _ _ _ h => h) (Or.inl ⟨by rfl, by intro W' hSw; go_simp⟩) hS0 ?_
                  simp only [Act.put, List.setIfInBounds_toArray, List.set_cons_zero, List.set_cons_succ]
                  refine Out.anyR_free (i := 3) (oi := { dst := some 56, op := Op.indexAddr 29 (Operand.tmp 54) (Operand.tmp 55), type := 0, pos := "board.go:100", after := #[{ on := 1, ground := Ground.data }, { on := 2, ground := Ground.data }], guard := none }) (v := .pointer (some ⟨b, o + j * 2, none⟩)) rfl (by decide) (by kernel_rfl) (by kernel_rfl) (by kernel_rfl) (fun _ _ _ h => h) (Or.inl ⟨by rfl, by intro W' hSw; go_simp⟩) hS0 ?_
                  simp only [Act.put, List.setIfInBounds_toArray, List.set_cons_zero, List.set_cons_succ]
                  refine Out.anyR_take (i := 4) (oi := { dst := some 57, op := Op.load 28 (Operand.tmp 56), type := 28, pos := "board.go:100", after := #[{ on := 3, ground := Ground.data }], guard := none }) (v := .agg #[.int .i64 (p0 : Int), .bool t0]) rfl (by decide) (by kernel_rfl) (by kernel_rfl) (by kernel_rfl) (by kernel_rfl) (fun _ _ _ h => h) (Or.inl ⟨by rfl, by intro W' hSw; obtain ⟨hc0, hc1⟩ := HC.out W' (HbV.out.trans (hSw.mono HbV.out.size)); go_simp⟩) hS0 ?_
                  simp only [Act.put, List.setIfInBounds_toArray, List.set_cons_zero, List.set_cons_succ]
                  refine Out.anyR_take (i := 5) (oi := { dst := some 58, op := Op.load 28 (Operand.tmp 11), type := 28, pos := "board.go:100", after := #[], guard := none }) (v := .agg #[.int .i64 (p1 : Int), .bool t1]) rfl (by decide) (by kernel_rfl) (by kernel_rfl) (by kernel_rfl) (by kernel_rfl) (fun _ _ _ h => h) (Or.inl ⟨by rfl, by intro W' hSw; obtain ⟨hc0, hc1⟩ := two_cells ((hSw.block _ (lt_of_block HE.out)).trans HE.out); go_simp⟩) hS0 ?_
                  simp only [Act.put, List.setIfInBounds_toArray, List.set_cons_zero, List.set_cons_succ]
                  refine Out.anyR_one (i := 6) (by kernel_rfl) rfl (by rfl) ?_
                  intro K hK
                  have HKK := Lib.hid hK
                  clear hK
                  go_simp
                  have HX5 := Lib.hid ((HX4.out.next HbV.out).next hS0)
                  refine ⟨trivial, (callsIn_wide.2 (fits44 Y A k cap off lo hi _ M w.heap.size p0 p1 _ _ t0 t1 _ HX5.out.bx.blk HY.out rfl rfl (by split <;> omega) (by split <;> omega))).mono ?_⟩
                  rintro e V6 ⟨rfl, hb6⟩
                  have hb7 : Below V.heap.size V V6 := hS0.trans hb6
                  rw [HU.out]
                  refine HKK.out _ _ (fun e => absurd rfl e) ?_
                  clear HKK K
                  obtain ⟨fb, hfb⟩ : ∃ fb, fitsB ⟨ps, off, ⟨lo, hi⟩⟩ ⟨(p0 : Int), t0⟩ ⟨(p1 : Int), t1⟩ = fb := ⟨_, rfl⟩
                  rw [hfb] at Hfn Hfx ⊢
                  refine Out.anyR_free (i := 7) (oi := { dst := some 60, op := Op.unOp UnOp.not 4 (Operand.tmp 59), type := 4, pos := "board.go:100", after := #[{ on := 6, ground := Ground.data }], guard := none }) (v := .bool (!fb)) rfl (by decide) (by kernel_rfl) (by kernel_rfl) (by kernel_rfl) (fun _ _ _ h => h) (Or.inl ⟨by rfl, by intro W' hSw; go_simp⟩) hb7 ?_
                  simp only [Act.put, List.setIfInBounds_toArray, List.set_cons_zero, List.set_cons_succ]
                  refine Out.anyR_done (by kernel_rfl) ?_ _
                  have HX6 := Lib.hid ((HX4.out.next HbV.out).next hb7)
                  clear hfb hb6 hb7 hS0
                  cases fb with
                  | true =>
                    have Hf2 := Lib.hid (show fitAll ⟨ps, off, ⟨lo, hi⟩⟩ ss (j + 1) = true by rw [Hfn.out, Hfa.out]; rfl)
                    gi_wp2_with fail
                    go_roundw
                    case rel => exact ⟨j + 1, by omega, by go_num, Hf2.out, HX6.out⟩
                    case measure => simp [intOf]; omega
                  | false =>
                    have HR := Lib.hid (show ckJoin ⟨ps, off, ⟨lo, hi⟩⟩ ss = 18 from ckJoin_crack He.out (by have := Hl.out; have := Hm.out; simp only; omega) Hall.out HND.out (Hfx.out rfl))
                    gi_wp2_with fail
                    go_ret
                    exact ⟨ret_int HR.out.symm, HX6.out.bx.below⟩)
              · have hjk : j = k - 1 := by omega
                subst hjk
                have HR := Lib.hid (show ckJoin ⟨ps, off, ⟨lo, hi⟩⟩ ss = 0 from ckJoin_ok He.out (by have := Hl.out; have := Hm.out; simp only; omega) Hall.out HND.out (by have h1 := Hfa.out; have h2 := Hm.out; rw [h2]; exact h1))
                gi_wp2_with fail
                go_ret
                exact ⟨ret_int HR.out.symm, HX4.out.bx.below⟩)
  have HR := Lib.hid Hrest
  clear Hrest a1 a2
  refine Out.region_R (z := 10) (S := Kx w Y A n cap off lo hi (tabOf ⟨ps, off, ⟨lo, hi⟩⟩) M ps C n ss) (by kernel_rfl) ?_
  have hS0 : Kx w Y A n cap off lo hi (tabOf ⟨ps, off, ⟨lo, hi⟩⟩) M ps C n ss W0.drew := HX.out.next (drew_b W0 1)
  refine Out.anyR_free (i := 0) (oi := { dst := some 20, op := Op.move (Operand.tmp 1), type := 29, pos := "board.go:89", after := #[], guard := none }) (v := .slice C n cp) rfl (by decide) (by kernel_rfl) (by kernel_rfl) (by kernel_rfl) (fun _ _ _ h => h) (Or.inl ⟨by rfl, by intro W' hSw; go_simp⟩) hS0 ?_
  simp only [Act.put, List.setIfInBounds_toArray, List.set_cons_zero, List.set_cons_succ]
  refine Out.anyR_take (i := 2) (oi := { dst := some 22, op := Op.load 78 (Operand.tmp 2), type := 78, pos := "board.go:89", after := #[], guard := none }) (v := .agg Y) rfl (by decide) (by kernel_rfl) (by kernel_rfl) (by kernel_rfl) (by kernel_rfl) (fun _ _ _ h => h) (Or.inl ⟨by rfl, by intro W' hSw; have h78 := hSw.bx.c.2.2.2.2.2.2; go_simp⟩) hS0 ?_
  simp only [Act.put, List.setIfInBounds_toArray, List.set_cons_zero, List.set_cons_succ]
  refine Out.anyR_free (i := 3) (oi := { dst := some 23, op := Op.makeFunc (Fn.func 43) #[Operand.tmp 22] #[], type := 81, pos := "board.go:89", after := #[{ on := 2, ground := Ground.data }], guard := none }) (v := .func (.func 43) #[.agg Y] #[]) rfl (by decide) (by kernel_rfl) (by kernel_rfl) (by kernel_rfl) (fun _ _ _ h => h) (Or.inl ⟨by rfl, by intro W' hSw; go_simp⟩) hS0 ?_
  simp only [Act.put, List.setIfInBounds_toArray, List.set_cons_zero, List.set_cons_succ]
  obtain ⟨W1, hW1⟩ : ∃ W1, W0.drew = W1 := ⟨_, rfl⟩
  rw [hW1] at hS0 ⊢
  have HS0 := Lib.hid hS0
  clear hW1 hS0
  refine Out.anyR_two (i := 1) (j := 8) (by kernel_rfl) rfl rfl (by rfl) (by rfl) ?callFirst ?allocFirst
  case callFirst =>
    intro K hK
    have HKK := Lib.hid hK
    clear hK
    go_simp
    refine ⟨trivial, (callsIn_wide.2 (values68 C n cp W1)).mono ?_⟩
    rintro e V ⟨rfl, rfl⟩
    have hba := below_alloc_ W1 (.cells #[.slice C n cp] 29)
    have hkx : Kx w Y A n cap off lo hi (tabOf ⟨ps, off, ⟨lo, hi⟩⟩) M ps C n ss (W1.alloc (.cells #[.slice C n cp] 29)) := HS0.out.next hba
    refine HKK.out _ _ (fun _ _ => hkx) ?_
    clear HKK K
    refine Out.anyR_two (i := 4) (j := 8) (by kernel_rfl) rfl rfl (by rfl) (by rfl) ?callNext ?allocNext
    case callNext =>
      intro K hK
      have HKK := Lib.hid hK
      clear hK
      have hcB : (W1.alloc (.cells #[.slice C n cp] 29)).cell? ⟨W1.heap.size, 0, none⟩ = some (.slice C n cp) := by rw [cell_row (heap_alloc_new_ W1 (.cells #[.slice C n cp] 29))]; rfl
      go_simp
      refine ⟨trivial, (callsIn_wide.2 (first67 Y A n cap off lo hi _ M ps C n cp (W1.heap.size) ss (W1.alloc (.cells #[.slice C n cp] 29)) HY.out hkx.bx.pcs hcB hkx.st (by omega))).mono ?_⟩
      rintro e V4 ⟨⟨s, rfl⟩, hb4⟩
      clear hcB
      have hk4 := hkx.next hb4
      refine HKK.out _ _ (fun _ _ => hk4) ?_
      clear HKK K
      refine Out.anyR_free (i := 5) (oi := { dst := some 19, op := Op.move (Operand.tmp 24), type := 116, pos := "board.go:89", after := #[{ on := 4, ground := Ground.data }], guard := none }) (v := (.tuple #[.agg #[.int .i64 s.p, .bool s.turned], .bool (!allB ps ss)])) rfl (by decide) (by kernel_rfl) (by kernel_rfl) (by kernel_rfl) (fun _ _ _ h => h) (Or.inl ⟨by rfl, by intro W' hSw; go_simp⟩) hk4 ?_
      simp only [Act.put, List.setIfInBounds_toArray, List.set_cons_zero, List.set_cons_succ]
      refine Out.anyR_free (i := 6) (oi := { dst := some 25, op := Op.extract (Operand.tmp 19) 0, type := 28, pos := "board.go:89", after := #[{ on := 5, ground := Ground.data }], guard := none }) (v := .agg #[.int .i64 s.p, .bool s.turned]) rfl (by decide) (by kernel_rfl) (by kernel_rfl) (by kernel_rfl) (fun _ _ _ h => h) (Or.inl ⟨by rfl, by intro W' hSw; go_simp⟩) hk4 ?_
      simp only [Act.put, List.setIfInBounds_toArray, List.set_cons_zero, List.set_cons_succ]
      refine Out.anyR_free (i := 7) (oi := { dst := some 26, op := Op.extract (Operand.tmp 19) 1, type := 4, pos := "board.go:89", after := #[{ on := 5, ground := Ground.data }, { on := 9, ground := Ground.gcOnly Departure.lateStores }], guard := none }) (v := .bool (!allB ps ss)) rfl (by decide) (by kernel_rfl) (by kernel_rfl) (by kernel_rfl) (fun _ _ _ h => h) (Or.inl ⟨by rfl, by intro W' hSw; go_simp⟩) hk4 ?_
      simp only [Act.put, List.setIfInBounds_toArray, List.set_cons_zero, List.set_cons_succ]
      refine Out.anyR_one (i := 8) (by kernel_rfl) rfl (by rfl) ?_
      intro K hK
      have HKK := Lib.hid hK
      clear hK
      go_simp
      have hbx := below_alloc_ V4 (.cells #[.int .i64 0, .bool false] 28)
      have hk6 : Kx w Y A n cap off lo hi (tabOf ⟨ps, off, ⟨lo, hi⟩⟩) M ps C n ss (V4.alloc (.cells #[.int .i64 0, .bool false] 28)) := hk4.next hbx
      refine HKK.out _ _ (fun _ _ => hk6) ?_
      clear HKK K
      have hF : (V4.alloc (.cells #[.int .i64 0, .bool false] 28)).heap[V4.heap.size]? = some (.cells #[.int .i64 0, .bool false] 28 (0, 0)) := heap_alloc_new_ _ _
      have hle := hb4.size
      simp only [World.size_alloc] at hle
      have hbw : Below W1.heap.size W1 (V4.alloc (.cells #[.int .i64 0, .bool false] 28)) := (hba.trans (hb4.mono (by simp))).trans (hbx.mono (by omega))
      refine Out.anyR_one (i := 9) (by kernel_rfl) rfl (by rfl) ?_
      intro K hK
      have HKK := Lib.hid hK
      clear hK
      obtain ⟨c0, c1⟩ := two_cells hF
      have f0 : (V4.alloc (.cells #[.int .i64 0, .bool false] 28)).frozen? ⟨V4.heap.size, 0, none⟩ = false := frozen_row hF
      have f1 : (V4.alloc (.cells #[.int .i64 0, .bool false] 28)).frozen? ⟨V4.heap.size, 1, none⟩ = false := frozen_row hF
      go_simp
      clear c0 c1 f0 f1
      have hb5 : Below W1.heap.size W1 (V4.alloc (.cells #[.int .i64 s.p, .bool s.turned] 28)) := (hba.trans (hb4.mono (by simp <;> omega))).trans ((below_alloc_ _ _).mono (by omega))
      have hk5 := HS0.out.next hb5
      refine HKK.out _ _ (fun _ _ => hk5) ?_
      clear HKK K
      refine Out.anyR_one (i := 10) (by kernel_rfl) rfl (by rfl) ?_
      intro K hK
      have HKK := Lib.hid hK
      clear hK
      go_simp
      refine HKK.out _ _ (fun e => absurd rfl e) ?_
      refine Out.anyR_done (by kernel_rfl) ?_ _
      exact HR.out _ _ _ _ _ _ _ _ _ _ hk5
    case allocNext =>
      intro K hK
      have HKK := Lib.hid hK
      clear hK
      go_simp
      have hbx := below_alloc_ (W1.alloc (.cells #[.slice C n cp] 29)) (.cells #[.int .i64 0, .bool false] 28)
      have hF0 : ((W1.alloc (.cells #[.slice C n cp] 29)).alloc (.cells #[.int .i64 0, .bool false] 28)).heap[W1.heap.size + 1]? = some (.cells #[.int .i64 0, .bool false] 28 (0, 0)) := hal_new (by simp)
      have hB0 : ((W1.alloc (.cells #[.slice C n cp] 29)).alloc (.cells #[.int .i64 0, .bool false] 28)).heap[W1.heap.size]? = some (.cells #[.slice C n cp] 29 (0, 0)) := hal_old (heap_alloc_new_ _ _)
      have hkx0 := hkx
      clear hkx
      have hkx : Kx w Y A n cap off lo hi (tabOf ⟨ps, off, ⟨lo, hi⟩⟩) M ps C n ss ((W1.alloc (.cells #[.slice C n cp] 29)).alloc (.cells #[.int .i64 0, .bool false] 28)) := hkx0.next hbx
      refine HKK.out _ _ (fun _ _ => hkx) ?_
      clear HKK K
      refine Out.anyR_one (i := 4) (by kernel_rfl) rfl (by rfl) ?_
      intro K hK
      have HKK := Lib.hid hK
      clear hK
      have hcB : ((W1.alloc (.cells #[.slice C n cp] 29)).alloc (.cells #[.int .i64 0, .bool false] 28)).cell? ⟨W1.heap.size, 0, none⟩ = some (.slice C n cp) := by rw [cell_row hB0]; rfl
      go_simp
      refine ⟨trivial, (callsIn_wide.2 (first67 Y A n cap off lo hi _ M ps C n cp (W1.heap.size) ss ((W1.alloc (.cells #[.slice C n cp] 29)).alloc (.cells #[.int .i64 0, .bool false] 28)) HY.out hkx.bx.pcs hcB hkx.st (by omega))).mono ?_⟩
      rintro e V4 ⟨⟨s, rfl⟩, hb4⟩
      clear hcB
      have hk4 := hkx.next hb4
      refine HKK.out _ _ (fun _ _ => hk4) ?_
      clear HKK K
      refine Out.anyR_free (i := 5) (oi := { dst := some 19, op := Op.move (Operand.tmp 24), type := 116, pos := "board.go:89", after := #[{ on := 4, ground := Ground.data }], guard := none }) (v := (.tuple #[.agg #[.int .i64 s.p, .bool s.turned], .bool (!allB ps ss)])) rfl (by decide) (by kernel_rfl) (by kernel_rfl) (by kernel_rfl) (fun _ _ _ h => h) (Or.inl ⟨by rfl, by intro W' hSw; go_simp⟩) hk4 ?_
      simp only [Act.put, List.setIfInBounds_toArray, List.set_cons_zero, List.set_cons_succ]
      refine Out.anyR_free (i := 6) (oi := { dst := some 25, op := Op.extract (Operand.tmp 19) 0, type := 28, pos := "board.go:89", after := #[{ on := 5, ground := Ground.data }], guard := none }) (v := .agg #[.int .i64 s.p, .bool s.turned]) rfl (by decide) (by kernel_rfl) (by kernel_rfl) (by kernel_rfl) (fun _ _ _ h => h) (Or.inl ⟨by rfl, by intro W' hSw; go_simp⟩) hk4 ?_
      simp only [Act.put, List.setIfInBounds_toArray, List.set_cons_zero, List.set_cons_succ]
      refine Out.anyR_free (i := 7) (oi := { dst := some 26, op := Op.extract (Operand.tmp 19) 1, type := 4, pos := "board.go:89", after := #[{ on := 5, ground := Ground.data }, { on := 9, ground := Ground.gcOnly Departure.lateStores }], guard := none }) (v := .bool (!allB ps ss)) rfl (by decide) (by kernel_rfl) (by kernel_rfl) (by kernel_rfl) (fun _ _ _ h => h) (Or.inl ⟨by rfl, by intro W' hSw; go_simp⟩) hk4 ?_
      simp only [Act.put, List.setIfInBounds_toArray, List.set_cons_zero, List.set_cons_succ]
      have hF : V4.heap[W1.heap.size + 1]? = some (.cells #[.int .i64 0, .bool false] 28 (0, 0)) := (hb4.block _ (by simp)).trans hF0
      have hbw : Below W1.heap.size W1 V4 := (hba.trans (hbx.mono (by simp))).trans (hb4.mono (by simp <;> omega))
      refine Out.anyR_one (i := 9) (by kernel_rfl) rfl (by rfl) ?_
      intro K hK
      have HKK := Lib.hid hK
      clear hK
      obtain ⟨c0, c1⟩ := two_cells hF
      have f0 : (V4).frozen? ⟨W1.heap.size + 1, 0, none⟩ = false := frozen_row hF
      have f1 : (V4).frozen? ⟨W1.heap.size + 1, 1, none⟩ = false := frozen_row hF
      go_simp
      clear c0 c1 f0 f1
      have hb5 : Below W1.heap.size W1 (((V4).setCell ⟨W1.heap.size + 1, 0, none⟩ (.int .i64 s.p)).setCell ⟨W1.heap.size + 1, 1, none⟩ (.bool s.turned)) := (hbw.setCell (p := ⟨W1.heap.size + 1, 0, none⟩) (by simp <;> omega) _).setCell (p := ⟨W1.heap.size + 1, 1, none⟩) (by simp <;> omega) _
      have hk5 := HS0.out.next hb5
      refine HKK.out _ _ (fun _ _ => hk5) ?_
      clear HKK K
      refine Out.anyR_one (i := 10) (by kernel_rfl) rfl (by rfl) ?_
      intro K hK
      have HKK := Lib.hid hK
      clear hK
      go_simp
      refine HKK.out _ _ (fun e => absurd rfl e) ?_
      refine Out.anyR_done (by kernel_rfl) ?_ _
      exact HR.out _ _ _ _ _ _ _ _ _ _ hk5
  case allocFirst =>
    intro K hK
    have HKK := Lib.hid hK
    clear hK
    go_simp
    have hba := below_alloc_ W1 (.cells #[.int .i64 0, .bool false] 28)
    have hkx0 : Kx w Y A n cap off lo hi (tabOf ⟨ps, off, ⟨lo, hi⟩⟩) M ps C n ss (W1.alloc (.cells #[.int .i64 0, .bool false] 28)) := HS0.out.next hba
    refine HKK.out _ _ (fun _ _ => hkx0) ?_
    clear HKK K
    refine Out.anyR_one (i := 1) (by kernel_rfl) rfl (by rfl) ?_
    intro K hK
    have HKK := Lib.hid hK
    clear hK
    go_simp
    refine ⟨trivial, (callsIn_wide.2 (values68 C n cp (W1.alloc (.cells #[.int .i64 0, .bool false] 28)))).mono ?_⟩
    rintro e V ⟨rfl, rfl⟩
    have hbx := below_alloc_ (W1.alloc (.cells #[.int .i64 0, .bool false] 28)) (.cells #[.slice C n cp] 29)
    have hF0 : ((W1.alloc (.cells #[.int .i64 0, .bool false] 28)).alloc (.cells #[.slice C n cp] 29)).heap[W1.heap.size]? = some (.cells #[.int .i64 0, .bool false] 28 (0, 0)) := hal_old (heap_alloc_new_ _ _)
    have hB0 : ((W1.alloc (.cells #[.int .i64 0, .bool false] 28)).alloc (.cells #[.slice C n cp] 29)).heap[W1.heap.size + 1]? = some (.cells #[.slice C n cp] 29 (0, 0)) := hal_new (by simp)
    have hkx : Kx w Y A n cap off lo hi (tabOf ⟨ps, off, ⟨lo, hi⟩⟩) M ps C n ss ((W1.alloc (.cells #[.int .i64 0, .bool false] 28)).alloc (.cells #[.slice C n cp] 29)) := hkx0.next hbx
    refine HKK.out _ _ (fun _ _ => hkx) ?_
    clear HKK K
    refine Out.anyR_one (i := 4) (by kernel_rfl) rfl (by rfl) ?_
    intro K hK
    have HKK := Lib.hid hK
    clear hK
    have hcB : ((W1.alloc (.cells #[.int .i64 0, .bool false] 28)).alloc (.cells #[.slice C n cp] 29)).cell? ⟨W1.heap.size + 1, 0, none⟩ = some (.slice C n cp) := by rw [cell_row hB0]; rfl
    go_simp
    refine ⟨trivial, (callsIn_wide.2 (first67 Y A n cap off lo hi _ M ps C n cp (W1.heap.size + 1) ss ((W1.alloc (.cells #[.int .i64 0, .bool false] 28)).alloc (.cells #[.slice C n cp] 29)) HY.out hkx.bx.pcs hcB hkx.st (by omega))).mono ?_⟩
    rintro e V4 ⟨⟨s, rfl⟩, hb4⟩
    clear hcB
    have hk4 := hkx.next hb4
    refine HKK.out _ _ (fun _ _ => hk4) ?_
    clear HKK K
    refine Out.anyR_free (i := 5) (oi := { dst := some 19, op := Op.move (Operand.tmp 24), type := 116, pos := "board.go:89", after := #[{ on := 4, ground := Ground.data }], guard := none }) (v := (.tuple #[.agg #[.int .i64 s.p, .bool s.turned], .bool (!allB ps ss)])) rfl (by decide) (by kernel_rfl) (by kernel_rfl) (by kernel_rfl) (fun _ _ _ h => h) (Or.inl ⟨by rfl, by intro W' hSw; go_simp⟩) hk4 ?_
    simp only [Act.put, List.setIfInBounds_toArray, List.set_cons_zero, List.set_cons_succ]
    refine Out.anyR_free (i := 6) (oi := { dst := some 25, op := Op.extract (Operand.tmp 19) 0, type := 28, pos := "board.go:89", after := #[{ on := 5, ground := Ground.data }], guard := none }) (v := .agg #[.int .i64 s.p, .bool s.turned]) rfl (by decide) (by kernel_rfl) (by kernel_rfl) (by kernel_rfl) (fun _ _ _ h => h) (Or.inl ⟨by rfl, by intro W' hSw; go_simp⟩) hk4 ?_
    simp only [Act.put, List.setIfInBounds_toArray, List.set_cons_zero, List.set_cons_succ]
    refine Out.anyR_free (i := 7) (oi := { dst := some 26, op := Op.extract (Operand.tmp 19) 1, type := 4, pos := "board.go:89", after := #[{ on := 5, ground := Ground.data }, { on := 9, ground := Ground.gcOnly Departure.lateStores }], guard := none }) (v := .bool (!allB ps ss)) rfl (by decide) (by kernel_rfl) (by kernel_rfl) (by kernel_rfl) (fun _ _ _ h => h) (Or.inl ⟨by rfl, by intro W' hSw; go_simp⟩) hk4 ?_
    simp only [Act.put, List.setIfInBounds_toArray, List.set_cons_zero, List.set_cons_succ]
    have hF : V4.heap[W1.heap.size]? = some (.cells #[.int .i64 0, .bool false] 28 (0, 0)) := (hb4.block _ (by simp <;> omega)).trans hF0
    have hbw : Below W1.heap.size W1 V4 := (hba.trans (hbx.mono (by simp))).trans (hb4.mono (by simp <;> omega))
    refine Out.anyR_one (i := 9) (by kernel_rfl) rfl (by rfl) ?_
    intro K hK
    have HKK := Lib.hid hK
    clear hK
    obtain ⟨c0, c1⟩ := two_cells hF
    have f0 : (V4).frozen? ⟨W1.heap.size, 0, none⟩ = false := frozen_row hF
    have f1 : (V4).frozen? ⟨W1.heap.size, 1, none⟩ = false := frozen_row hF
    go_simp
    clear c0 c1 f0 f1
    have hb5 : Below W1.heap.size W1 (((V4).setCell ⟨W1.heap.size, 0, none⟩ (.int .i64 s.p)).setCell ⟨W1.heap.size, 1, none⟩ (.bool s.turned)) := (hbw.setCell (p := ⟨W1.heap.size, 0, none⟩) (by simp <;> omega) _).setCell (p := ⟨W1.heap.size, 1, none⟩) (by simp <;> omega) _
    have hk5 := HS0.out.next hb5
    refine HKK.out _ _ (fun _ _ => hk5) ?_
    clear HKK K
    refine Out.anyR_one (i := 10) (by kernel_rfl) rfl (by rfl) ?_
    intro K hK
    have HKK := Lib.hid hK
    clear hK
    go_simp
    refine HKK.out _ _ (fun e => absurd rfl e) ?_
    refine Out.anyR_done (by kernel_rfl) ?_ _
    exact HR.out _ _ _ _ _ _ _ _ _ _ hk5
end Go.Proofs.Ytfmcfalghbaanaa

namespace Go.Proofs.Ytfmcfalghbaanaa
set_option linter.unusedSimpArgs false
set_option linter.unusedVariables false
open Go.RowKit Go.Shelf
attribute [local go_sem] Oper.semAt_some
attribute [local go_sem ↓] exec_load78
attribute [local go_sem ↓] at_load78
attribute [local go_sem ↓] exec_store78
attribute [local go_sem ↓] at_store78

set_option maxRecDepth 100000 in
set_option maxHeartbeats 4000000 in
theorem checkJoin18 (A C : Option Addr) (n cap m cp : Nat) (off lo hi : Int) (ps : List Pc) (ss : List St) (w : World) (h : Pcs w A n ps) (hs : Sts w C m ss) (hn : n ≤ 9223372036854775807) (hm : m ≤ 9223372036854775807) (hcp : m ≤ cp) :
    Calls Try.prog 18 #[cyl A n cap off lo hi, .slice C m cp] w fun e w' => e = .returned (.int .i64 (ckJoin ⟨ps, off, ⟨lo, hi⟩⟩ ss)) ∧ Below w.heap.size w w' := by
  have X := Cx.new (cap := cap) (off := off) (lo := lo) (hi := hi) h
  have Hl := Lib.hid h.1
  have Hm := Lib.hid hs.1
  have Hs := Lib.hid hs
  have Hn := Lib.hid hn
  unfold cyl
  go_enter Try.func18, Try.ntmps18
  obtain ⟨c0, c1, c2, c3, l0⟩ := X.c
  go_wp2_with fail
  by_cases he : chkC ⟨ps, off, ⟨lo, hi⟩⟩ = 0
  · refine (lay42_ok A n cap off lo hi ps _ X.pcs Hn.out he).mono ?_
    rintro e w2 ⟨Y, M, rfl, hY, hM, hMl, hb⟩
    have X2 := (X.next hb).next (below_alloc_ _ (.cells Try.zeroCells78 78))
    have hv := chkC_facts he
    have hz : (w2.alloc (.cells Try.zeroCells78 78)).heap[w2.heap.size]? = some (.cells Try.zeroCells78 78 (0, 0)) := hal_new rfl
    have hst := run_st78 hz zero_size hY.size hY.one
    have hld := run_ld78 (setRow_same Y hz) hY.size
    have hk1 := keeps_setRow (w2.alloc (.cells Try.zeroCells78 78)) w2.heap.size Y
    have hws : w.heap.size ≤ w2.heap.size := Nat.le_trans X.below.size hb.size
    have hb4 : Below w.heap.size w ((w2.alloc (.cells Try.zeroCells78 78)).setRow w2.heap.size Y) := X2.below.trans (hk1.below X2.below.size (fun k hk e => by omega))
    obtain ⟨W4, hW4⟩ : ∃ W4, (w2.alloc (.cells Try.zeroCells78 78)).setRow w2.heap.size Y = W4 := ⟨_, rfl⟩
    rw [hW4] at hst hb4 hld
    have HY := Lib.hid hY
    have Hhe := Lib.hid he
    have Hp4 := Lib.hid (h.below hb4 (Nat.le_refl _))
    have Hs4 := Lib.hid (Hs.out.below hb4 (Nat.le_refl _))
    have Hb4 := Lib.hid hb4
    have Hv := Lib.hid hv
    clear c0 c1 c2 c3 l0 X X2 hb hs hY hM hMl h hv he hz hk1 hws hb4 hW4
    go_wp2_with fail
    by_cases hmn : m = n
    · subst hmn
      refine (check50_eq Y A C m cap cp off lo hi M ps ss _ HY.out Hp4.out Hs4.out (by have := Hv.out; have := Hl.out; omega) (by have := Hv.out; have := Hl.out; omega) hcp Hhe.out).mono ?_
      rintro e w5 ⟨rfl, hb5⟩
      have HF := Lib.hid (Hb4.out.trans (hb5.mono Hb4.out.size))
      obtain ⟨r, hr⟩ : ∃ r, ckJoin ⟨ps, off, ⟨lo, hi⟩⟩ ss = r := ⟨_, rfl⟩
      rw [hr]
      have Hr := Lib.hid hr
      clear hr hb5 hst hld
      go_wp2_with fail
      go_ret
      exact ⟨ret_int Hr.out.symm, HF.out⟩
    · have HR := Lib.hid (show ckJoin ⟨ps, off, ⟨lo, hi⟩⟩ ss = 15 from ckJoin_len Hhe.out (by have := Hm.out; have := Hl.out; simp only; omega))
      refine (check50_len Y A C n cap m cp off lo hi _ M ps ss _ HY.out Hp4.out Hs4.out hm (by have := Hv.out; have := Hl.out; omega) hmn).mono ?_
      rintro e w5 ⟨rfl, hb5⟩
      have HF := Lib.hid (Hb4.out.trans (hb5.mono Hb4.out.size))
      clear hb5 hst hld hmn
      go_wp2_with fail
      go_ret
      exact ⟨ret_int HR.out.symm, HF.out⟩
  · refine (lay42_bad A n cap off lo hi ps _ X.pcs Hn.out he).mono ?_
    rintro e w2 ⟨rfl, hb⟩
    have X2 := (X.next hb).next (below_alloc_ _ (.cells Try.zeroCells78 78))
    have hz : (w2.alloc (.cells Try.zeroCells78 78)).heap[w2.heap.size]? = some (.cells Try.zeroCells78 78 (0, 0)) := hal_new rfl
    have hst := run_st78 hz zero_size zero_size zero_one
    have d : (chkC ⟨ps, off, ⟨lo, hi⟩⟩ != 0) = true := by rw [bne_iff_ne]; exact he
    have HR := Lib.hid (show ckJoin ⟨ps, off, ⟨lo, hi⟩⟩ ss = chkC ⟨ps, off, ⟨lo, hi⟩⟩ from ckJoin_bad he)
    have HX2 := Lib.hid X2.below
    have HB := Lib.hid (show w.heap.size ≤ w2.heap.size from Nat.le_trans X.below.size hb.size)
    clear c0 c1 c2 c3 l0 X X2 hb hz he h hn hs
    go_wp2_with fail
    go_ret
    exact ⟨ret_int HR.out.symm, HX2.out.trans ((keeps_setRow _ _ _).below HX2.out.size (fun k hk e => by have := HB.out; omega))⟩
end Go.Proofs.Ytfmcfalghbaanaa
