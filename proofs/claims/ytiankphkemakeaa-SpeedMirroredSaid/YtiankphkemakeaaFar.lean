/- The contract of the document's Far. -/
import Derived.Test.YtiankphkemakeaaMat
import Derived.Test.YtiankphkemakeaaLawSheets
import Derived.StillTailTactics
import Derived.BigQuiet
namespace Go.Proofs.Ytiankphkemakeaa
set_option linter.unusedSimpArgs false
set_option linter.unusedVariables false
open Go.RowKit Go.Shelf

theorem Try.info25 : (Try.prog.info? 25).map (fun i => (i.zero, i.size, i.bytes)) = some (some (.slice none 0 0), 1, 24) := by kernel_rfl

/-- Far returns the table. -/
def RetM (w : World) (N : Nat) (d : Tab) (e : Ending) (w' : World) : Prop := ∃ G capG rb rc, e = .returned (.slice (some ⟨G, 0, none⟩) N capG) ∧ Mat w' w.heap.size N G rb rc d ∧ Below w.heap.size w w'

/-- A row is done: what the outer row gains. -/
theorem Built.snoc {W W1 W2 : World} {base N i : Nat} {A A2 : Option Addr} {cap cap2 g c : Nat} {rb rc : Nat → Nat} {cur : Array Value}
    (h : Built W base N i A cap rb rc) (hb : Below W.heap.size W W1) (hg : W.heap.size ≤ g) (hrow : W1.heap[g]? = some (.cells cur 2 (0, 0))) (hcur : ∀ k, k < N → cur[k]? = some (.int .i64 (tab0 i k)))
    (hbase : base ≤ W.heap.size)
    (hown : W2.ownsRow base 25 1 (.slice A2 (i + 1) cap2) (i + 1) ((List.range i).map (rowV N rb rc) ++ [.slice (some ⟨g, 0, none⟩) N c]))
    (hgr : W1.grownBy W2 (Value.slice A i cap).ownBlock) :
    Built W2 base N (i + 1) A2 cap2 (fun j => if j = i then g else rb j) (fun j => if j = i then c else rc j) := by
  have hne : ∀ j, j < i → (fun j => if j = i then g else rb j) j = rb j := fun j hj => by show (if j = i then g else rb j) = rb j; rw [if_neg (by omega)]
  -- the outer row's block is none of the rows' blocks, by its elements' type
  have hOwn : ∀ b, (Value.slice A i cap).ownBlock = some b → ∃ cs : Array Value, W.heap[b]? = some (.cells cs 25 (0, 0)) := fun b hb' => by
    obtain ⟨_, ho | ⟨g0, c0, cur0, e, _, hh, _⟩⟩ := h.own
    · obtain ⟨e, _⟩ := ho
      injection e with e1
      subst e1
      simp [Value.ownBlock] at hb'
    · injection e with e1
      subst e1
      simp [Value.ownBlock] at hb'
      subst hb'
      exact ⟨_, hh⟩
  have hkeep : ∀ b (cs : Array Value), W1.heap[b]? = some (Obj.cells cs 2 (0, 0)) → W2.heap[b]? = some (Obj.cells cs 2 (0, 0)) := fun b cs hc => by
    refine (hgr.block b (lt_of_block hc) (fun e => ?_)).trans hc
    obtain ⟨cs', hh⟩ := hOwn b e.symm
    have := hb.block b (lt_of_block hh)
    rw [this, hh] at hc
    simp at hc
  refine ⟨?_, fun j hj => ?_, fun j hj => ?_, fun j k hj hk e => ?_⟩
  · rw [List.range_succ, List.map_append]
    have e1 : (List.range i).map (rowV N (fun j => if j = i then g else rb j) (fun j => if j = i then c else rc j)) = (List.range i).map (rowV N rb rc) := by
      apply List.map_congr_left
      intro j hj
      have hj : j < i := by simpa using hj
      simp [rowV, show ¬ j = i by omega]
    rw [e1]
    simpa [rowV] using hown
  · by_cases e : j = i
    · simp [e]; omega
    · simp [e]; exact h.rlo j (by omega)
  · by_cases e : j = i
    · subst e
      exact ⟨cur, by simpa using hkeep g cur hrow, hcur⟩
    · obtain ⟨cs, h1, h2⟩ := h.rows j (by omega)
      exact ⟨cs, by simpa [e] using hkeep _ cs ((hb.block _ (lt_of_block h1)).trans h1), h2⟩
  · by_cases e1 : j = i <;> by_cases e2 : k = i
    · omega
    · exfalso
      obtain ⟨cs, h1, _⟩ := h.rows k (by omega)
      have := lt_of_block h1
      simp [e1, e2] at e
      omega
    · exfalso
      obtain ⟨cs, h1, _⟩ := h.rows j (by omega)
      have := lt_of_block h1
      simp [e1, e2] at e
      omega
    · simp [e1, e2] at e
      exact h.inj j k (by omega) (by omega) e

/-- A row of numbers that the call owns, with the number at its own place turned to 0. -/
theorem row_done {W : World} {base N i cap : Nat} {A : Option Addr} (hi : i < N) (h : W.ownsRow base 2 1 (.slice A N cap) N (iv (List.replicate N big))) :
    ∃ (g : Nat) (cur : Array Value), A = some ⟨g, 0, none⟩ ∧ base ≤ g ∧ W.heap[g]? = some (.cells cur 2 (0, 0)) ∧ cur[i]? = some (.int .i64 big) ∧ ∀ k, k < N → (cur.setIfInBounds i (.int .i64 0))[k]? = some (.int .i64 (tab0 i k)) := by
  obtain ⟨_, ho | ⟨g, c, cur, e, hb, hh, hc, hm, hs, ht⟩⟩ := h
  · omega
  · injection e with e1 e2 e3
    subst e1 e3
    have hk : ∀ k, k < N → cur[k]? = some (.int .i64 big) := fun k hk => by
      have h1 : (cur.toList.take (N * 1))[k]? = (iv (List.replicate N big))[k]? := by rw [ht]
      rw [List.getElem?_take, if_pos (by omega)] at h1
      rw [← Array.getElem?_toList, h1]
      simp [iv, hk]
    refine ⟨g, cur, rfl, hb, hh, hk i hi, fun k hkN => ?_⟩
    have hlt : i < cur.size := (Array.getElem?_eq_some_iff.1 (hk i hi)).1
    by_cases e : k = i
    · subst e
      simp [hlt, tab0]
    · rw [Array.getElem?_setIfInBounds_ne (fun hh => e hh.symm), hk k hkN]
      simp [tab0, show ¬ i = k from fun hh => e hh.symm]

theorem own_set2 {w : World} {base e s : Nat} {v : Value} {n : Nat} {xs : List Value} {b i : Nat} {x : Value} {cs : Array Value} (he : e ≠ 2) (h : w.ownsRow base e s v n xs) (hb : w.heap[b]? = some (.cells cs 2 (0, 0))) : (w.setCell ⟨b, i, none⟩ x).ownsRow base e s v n xs := by
  refine ⟨h.1, ?_⟩
  rcases h.2 with h0 | ⟨g, cap', cur, h1, h2, h3, h4⟩
  · exact .inl h0
  · exact .inr ⟨g, cap', cur, h1, h2, (heap_setCell_other _ _ _ _ (fun e' => by subst e'; rw [hb] at h3; injection h3 with h3; injection h3 with _ h3; exact he h3.symm)).trans h3, h4⟩
theorem min_if (x m : Int) : (if m < x then m else x) = min x m := by split <;> omega

theorem clamp_if (z s : Int) : (if -1099511627776 < if s < z then s else z then if s < z then s else z else -1099511627776) = max (-big) (min z s) := by
  have : big = 1099511627776 := rfl
  split <;> split <;> omega

theorem iv_snoc (N : Nat) (x : Int) : iv (List.replicate N x ++ [x]) = iv (List.replicate (N + 1) x) := by rw [List.replicate_succ']

set_option maxRecDepth 100000 in
set_option maxHeartbeats 4000000 in
theorem far46 (A : Option Addr) (n cap T : Nat) (rs : List R) (w : World) (h : Rules w A n rs) (he : chk T rs = 0) :
    Calls Try.prog 46 #[.agg #[.int .i64 (T : Int), .slice A n cap]] w (RetM w (T + 1) (farM T rs)) := by
  have hT : 1 ≤ T := by have := chk_ok he; omega
  have hT2 : T ≤ 20 := by have := chk_ok he; omega
  have hn60 : n ≤ 60 := by have := chk_ok he; rw [← h.1]; exact this.1
  have HG := Lib.hid (good_whole he)
  have HL := Lib.hid (show (whole T rs).length = n + 2 * T by rw [whole_len2, h.1])
  clear he
  have HB0 := Lib.hid (show Below w.heap.size w (w.alloc (.cells #[.int .i64 (T : Int), .slice A n cap] 24)) from (Below.refl _ _).alloc (Nat.le_refl _) _)
  have H0 := Lib.hid (h.below HB0.out (Nat.le_refl _))
  have C0 := Lib.hid (show (w.alloc (.cells #[.int .i64 (T : Int), .slice A n cap] 24)).cell? ⟨w.heap.size, 0, none⟩ = some (.int .i64 (T : Int)) by rw [cell_of_row _ _ 0 _ _ _ (heap_alloc_new _ _)]; rfl)
  have C1 := Lib.hid (show (w.alloc (.cells #[.int .i64 (T : Int), .slice A n cap] 24)).cell? ⟨w.heap.size, 1, none⟩ = some (.slice A n cap) by rw [cell_of_row _ _ 1 _ _ _ (heap_alloc_new _ _)]; rfl)
  have hsz : w.heap.size < (w.alloc (.cells #[.int .i64 (T : Int), .slice A n cap] 24)).heap.size := by simp
  clear h
  go_enter Try.func46, Try.ntmps46
  go_wp2_with fail
  obtain ⟨W0, hW0⟩ : ∃ W0, (w.alloc (.cells #[.int .i64 (T : Int), .slice A n cap] 24)) = W0 := ⟨_, rfl⟩
  rw [hW0] at HB0 H0 C0 C1 hsz ⊢
  clear hW0
  obtain ⟨N, hN⟩ : ∃ N, T + 1 = N := ⟨_, rfl⟩
  have e1 : (T : Int) + 1 = (N : Int) := by omega
  rw [hN]
  try rw [e1]
  clear e1
  have hN1 : 1 ≤ N := by omega
  have hN21 : N ≤ 21 := by omega
  go_loopw [4, 5] (fun v4 v5 wr => ∃ (i : Nat) (A4 : Option Addr) (cap4 : Nat) (rb rc : Nat → Nat), i ≤ N ∧ v5 = .int .i64 (i : Int) ∧ v4 = .slice A4 i cap4 ∧ Built wr W0.heap.size N i A4 cap4 rb rc ∧ Below W0.heap.size W0 wr) (fun _ v5 _ => N - (intOf v5).toNat)
  case atStart => exact ⟨0, none, 0, fun _ => 0, fun _ => 0, by omega, rfl, rfl, ⟨World.ownsRow_nil _ _ _ _, fun j hj => absurd hj (by omega), fun j hj => absurd hj (by omega), fun j _ hj => absurd hj (by omega)⟩, Below.refl _ _⟩
  case round =>
    obtain ⟨i, A4, cap4, rb, rc, hi, rfl, rfl, hbu, hB⟩ := hrel
    have Hbu := Lib.hid hbu
    have HB := Lib.hid hB
    have hz : W0.heap.size ≤ wr.heap.size := hB.size
    clear hbu hB
    by_cases hlt : i < N
    · have hlt2 : (i : Int) < (N : Int) := by omega
      obtain ⟨wo, rfl⟩ : ∃ wo : World, wo = wr := ⟨_, rfl⟩
      go_wp2_with fail
      go_loopw [6, 7] (fun v6 v7 w2 => ∃ (k : Nat) (A6 : Option Addr) (cap6 : Nat), k ≤ N ∧ v7 = .int .i64 (k : Int) ∧ v6 = .slice A6 k cap6 ∧ w2.ownsRow wo.heap.size 2 1 (.slice A6 k cap6) k (iv (List.replicate k big)) ∧ Below wo.heap.size wo w2) (fun _ v7 _ => N - (intOf v7).toNat)
      case atStart => exact ⟨0, none, 0, by omega, rfl, rfl, World.ownsRow_nil _ _ _ _, Below.refl _ _⟩
      case round =>
        obtain ⟨k, A6, cap6, hk, rfl, rfl, hown, hB2⟩ := hrel
        have Hown := Lib.hid hown
        have HB2 := Lib.hid hB2
        have hz2 : wo.heap.size ≤ wr.heap.size := hB2.size
        clear hown hB2
        by_cases hkl : k < N
        · have hkl2 : (k : Int) < (N : Int) := by omega
          go_wp2_with (at_builtin; refine wpList_append_ints rfl (.tmp 27) (.tmp 28) 25 2 rfl Try.underlying25 Try.info2 wo.heap.size _ k (List.replicate k big) rfl (own_below Hown.out ((Below.refl _ _).alloc (Nat.le_refl _) _) (Nat.le_refl _)) (some ⟨wr.heap.size, 0, none⟩) 1 1 [big] rfl (ints_one (by rw [cell_of_row _ _ 0 _ _ _ (heap_alloc_new _ _)]; rfl)) (by omega) (by simp; omega) ?_; intro A7 cap7 w3 hown3 hb3)
          rw [iv_snoc] at hown3
          have Hown3 := Lib.hid hown3
          have HB3 := Lib.hid ((HB2.out.alloc hz2 _).trans hb3)
          clear hown3 hb3
          go_roundw
          case rel => exact ⟨k + 1, A7, cap7, by omega, by go_num, rfl, Hown3.out, HB3.out⟩
          case measure => simp [intOf]; omega
        · obtain rfl : k = N := by omega
          obtain ⟨g, cur, rfl, hg, hrow, hci, hcur⟩ := row_done hlt Hown.out
          have Hrow := Lib.hid hrow
          have Hcur := Lib.hid hcur
          have ci : wr.cell? ⟨g, i, none⟩ = some (.int .i64 big) := by rw [cell_of_row _ _ i _ _ _ hrow]; exact hci
          have fi : wr.frozen? ⟨g, i, none⟩ = false := frozen_of_row _ _ i _ _ hrow
          have hi0 : (0 : Int) ≤ (i : Int) := by omega
          clear hrow hcur hci
          obtain ⟨W3, hW3⟩ : ∃ W3, wr.setCell ⟨g, i, none⟩ (.int .i64 0) = W3 := ⟨_, rfl⟩
          have Hr3 := Lib.hid (show W3.heap[g]? = some (.cells (cur.setIfInBounds i (.int .i64 0)) 2 (0, 0)) by rw [← hW3]; exact heap_setCell_same _ _ i _ _ _ Hrow.out)
          have HB3 := Lib.hid (show Below wo.heap.size wo W3 by rw [← hW3]; exact HB2.out.setCell hg _)
          have hz3 : wo.heap.size ≤ W3.heap.size := HB3.out.size
          have hW3' := Lib.hid hW3
          clear hW3
          have HBA := Lib.hid (show Below wo.heap.size wo (W3.alloc (.cells #[.slice (some ⟨g, 0, none⟩) k cap6] 25)) from HB3.out.alloc hz3 _)
          have hWA := hW3'.out
          have Hlast := Lib.hid (show (W3.alloc (.cells #[.slice (some ⟨g, 0, none⟩) k cap6] 25)).heap[wr.heap.size]? = some (.cells #[.slice (some ⟨g, 0, none⟩) k cap6] 25 (0, 0)) from heap_last (by rw [← hWA]; simp))
          have HrA := Lib.hid (show (W3.alloc (.cells #[.slice (some ⟨g, 0, none⟩) k cap6] 25)).heap[g]? = some (.cells (cur.setIfInBounds i (.int .i64 0)) 2 (0, 0)) from (heap_alloc_old _ _ _ (lt_of_block Hr3.out)).trans Hr3.out)
          have hwzA : W0.heap.size ≤ (W3.alloc (.cells #[.slice (some ⟨g, 0, none⟩) k cap6] 25)).heap.size := by have := HBA.out.size; omega
          clear hWA
          obtain ⟨WA, hWA⟩ : ∃ WA, W3.alloc (.cells #[.slice (some ⟨g, 0, none⟩) k cap6] 25) = WA := ⟨_, rfl⟩
          rw [hWA] at HBA Hlast HrA hwzA
          have HWA := Lib.hid (show (wr.setCell ⟨g, i, none⟩ (.int .i64 0)).alloc (.cells #[.slice (some ⟨g, 0, none⟩) k cap6] 25) = WA by rw [hW3'.out]; exact hWA)
          clear hWA
          obtain ⟨i25, hi25, hz0, hz1, hz2⟩ := info_parts Try.info25
          have HownA := Lib.hid (show ((wr.setCell ⟨g, i, none⟩ (.int .i64 0)).alloc (.cells #[.slice (some ⟨g, 0, none⟩) k cap6] 25)).ownsRow W0.heap.size 25 1 (.slice A4 i cap4) i ((List.range i).map (rowV k rb rc)) by rw [HWA.out]; exact own_below Hbu.out.own HBA.out (Nat.le_refl _))
          have Hnews := Lib.hid (show ∀ (j : Nat) (u : Value), [Value.slice (some ⟨g, 0, none⟩) k cap6][j]? = some u → ((wr.setCell ⟨g, i, none⟩ (.int .i64 0)).alloc (.cells #[.slice (some ⟨g, 0, none⟩) k cap6] 25)).cell? ((⟨wr.heap.size, 0, none⟩ : Addr).add j) = some u by
            intro j u hj
            have hj0 : j = 0 := by
              rcases j with _ | j
              · rfl
              · simp at hj
            subst hj0
            have hu : u = .slice (some ⟨g, 0, none⟩) k cap6 := by simpa using hj.symm
            subst hu
            rw [HWA.out]
            show WA.cell? ⟨wr.heap.size, 0 + 0, none⟩ = _
            rw [cell_of_row _ _ _ _ _ _ Hlast.out]
            rfl)
          have H1c := Lib.hid (show ∀ u ∈ [Value.slice (some ⟨g, 0, none⟩) k cap6], u.oneCell' = true by simp [Value.oneCell'])
          have H63 := Lib.hid (show i + 1 ≤ maxLen by unfold maxLen; omega)
          have Hwz := Lib.hid (show W0.heap.size ≤ ((wr.setCell ⟨g, i, none⟩ (.int .i64 0)).alloc (.cells #[.slice (some ⟨g, 0, none⟩) k cap6] 25)).heap.size by rw [HWA.out]; exact hwzA)
          have Hby := Lib.hid (show (i + 1) * 24 ≤ 140737488355328 by omega)
          go_wp2_with (at_builtin; refine wpList_append_own _ rfl (.tmp 33) (.tmp 35) 60 rfl W0.heap.size 25 i25 (.slice none 0 0) 1 24 Try.underlying60 hi25 hz0 hz1 hz2 rfl (by decide) _ i _ rfl HownA.out ⟨wr.heap.size, 0, none⟩ 1 1 [.slice (some ⟨g, 0, none⟩) k cap6] rfl rfl Hnews.out H1c.out H63.out Hby.out Hwz.out ?_; intro v5 w5 hown5 hgr5 _)
          rw [HWA.out] at hgr5
          obtain ⟨A5, cap5, rfl⟩ := own_form hown5
          have hnb := Hbu.out.snoc HBA.out hg HrA.out Hcur.out (by omega) hown5 hgr5
          have hB5 : Below W0.heap.size W0 w5 := by
            refine (HB.out.trans (HBA.out.mono (by have := HB.out.size; omega))).trans (below_grown hgr5 (fun r e => (Hbu.out.own.lt r e).1) (by have := HBA.out.size; have := HB.out.size; omega))
          have Hnb := Lib.hid hnb
          have HB5 := Lib.hid hB5
          clear hnb hB5 hown5 hgr5
          go_roundw
          case rel => exact ⟨i + 1, A5, cap5, _, _, by omega, by go_num, rfl, Hnb.out, HB5.out⟩
          case measure => simp [intOf]; omega
    · obtain rfl : i = N := by omega
      obtain ⟨G, rfl, hmat⟩ := Hbu.out.mat hN1
      have HM := Lib.hid hmat
      have c0 : wr.cell? ⟨w.heap.size, 0, none⟩ = some (.int .i64 (T : Int)) := ((bcell HB.out).1 _ _ hsz).trans C0.out
      have c1 : wr.cell? ⟨w.heap.size, 1, none⟩ = some (.slice A n cap) := ((bcell HB.out).1 _ _ hsz).trans C1.out
      have H1 := Lib.hid (H0.out.below HB.out (Nat.le_refl _))
      clear hmat Hbu
      go_wp2_with fail
      refine (all54 A n cap T rs _ H1.out (by omega) (by omega)).mono ?_
      rintro e w2 ⟨A8, cap8, rfl, hown8, hb2⟩
      have HM2 := Lib.hid (HM.out.below hb2)
      have HR2 := Lib.hid (own_base hown8 (Nat.zero_le _))
      have HB2 := Lib.hid (HB0.out.trans ((HB.out.trans (hb2.mono hz)).mono (by omega)))
      clear hown8 hb2 c0 c1 HM H1 HB
      go_wp2_with fail
      obtain ⟨ws, hws⟩ : ∃ ws, whole T rs = ws := ⟨_, rfl⟩
      have Hws := Lib.hid hws
      rw [hws] at HG HL HR2
      clear hws
      obtain ⟨L, hL⟩ : ∃ L, n + 2 * T = L := ⟨_, rfl⟩
      rw [hL] at HL HR2 ⊢
      have hL100 : L ≤ 100 := by omega
      clear hL
      go_loopw [9] (fun v9 w3 => ∃ k : Nat, k ≤ L ∧ v9 = .int .i64 (k : Int) ∧ Mat w3 W0.heap.size i G rb rc ((ws.take k).foldl tabR tab0) ∧ w3.ownsRow 0 68 3 (.slice A8 L cap8) L (flat ws) ∧ Below w.heap.size w w3) (fun v9 _ => L - (intOf v9).toNat)
      case atStart => exact ⟨0, Nat.zero_le _, rfl, HM2.out, HR2.out, HB2.out⟩
      case round =>
        obtain ⟨k, hk, rfl, hm3, hr3, hb3⟩ := hrel
        have HM3 := Lib.hid hm3
        have HR3 := Lib.hid hr3
        have HB3 := Lib.hid hb3
        clear hm3 hr3 hb3
        by_cases hkl : k < L
        · have hkl2 : (k : Int) < ((L : Nat) : Int) := by omega
          obtain ⟨b8, o8, rfl, hc⟩ := (Rules.of_own HR3.out).2 (by omega)
          obtain ⟨c0, c1, c2⟩ := hc k hkl
          have hmem : rAt ws k ∈ ws := by rw [rAt_eq ws k (by rw [HL.out]; exact hkl)]; exact List.getElem_mem _
          have hfit := HG.out.fit _ hmem
          obtain ⟨f, hf⟩ := Int.eq_ofNat_of_zero_le (show 0 ≤ rf ws k from hfit.1)
          obtain ⟨t, ht⟩ := Int.eq_ofNat_of_zero_le (show 0 ≤ rt ws k from hfit.2.2.1)
          have hfN : f < i := by have := hfit.2.1; change rf ws k ≤ T at this; omega
          have htN : t < i := by have := hfit.2.2.2.1; change rt ws k ≤ T at this; omega
          obtain ⟨m, hm⟩ : ∃ m, rm ws k = m := ⟨_, rfl⟩
          have hd : (ws.take (k + 1)).foldl tabR tab0 = upd ((ws.take k).foldl tabR tab0) f t (min ((ws.take k).foldl tabR tab0 f t) m) := by
            rw [List.take_succ_eq_append_getElem (by rw [HL.out]; exact hkl), List.foldl_append, ← rAt_eq ws k (by rw [HL.out]; exact hkl)]
            show tabR _ (rAt ws k) = _
            unfold tabR
            rw [show (rAt ws k).f.toNat = f by show (rf ws k).toNat = f; rw [hf]; simp, show (rAt ws k).t.toNat = t by show (rt ws k).toNat = t; rw [ht]; simp, show (rAt ws k).m = m from hm]
          rw [hf] at c0
          rw [ht] at c1
          rw [hm] at c2
          have Hd := Lib.hid hd
          have hmB : -100000 ≤ m ∧ m ≤ 100000 := by rw [← hm]; exact hfit.2.2.2.2.2
          obtain ⟨hm0, hm1⟩ := hmB
          clear hd hf ht hm hc hmem hfit
          have hk0 : (0 : Int) ≤ (k : Int) := by omega
          have hf0 : (0 : Int) ≤ (f : Int) := by omega
          have hf1 : (f : Int) < (i : Int) := by omega
          have ht0 : (0 : Int) ≤ (t : Int) := by omega
          have ht1 : (t : Int) < (i : Int) := by omega
          have HBd := Lib.hid (bd_foldl (ws.take k) tab0 bd_tab0 (fun r hr => by have := (HG.out.fit r (List.mem_of_mem_take hr)).2.2.2.2.2.1; have : big = 1099511627776 := rfl; omega))
          go_wp2_with fail
          have HMA := Lib.hid (HM3.out.below (below_alloc_ wr (.cells #[.int .i64 (f : Int), .int .i64 (t : Int), .int .i64 m] 68)))
          have oF := HMA.out.cellO hfN
          have eF := HMA.out.cellI hfN htN
          have zF := HMA.out.fz hfN t
          have r0 : (wr.alloc (.cells #[.int .i64 (f : Int), .int .i64 (t : Int), .int .i64 m] 68)).cell? ⟨wr.heap.size, 0, none⟩ = some (.int .i64 (f : Int)) := by rw [cell_of_row _ _ 0 _ _ _ (heap_alloc_new _ _)]; rfl
          have r1 : (wr.alloc (.cells #[.int .i64 (f : Int), .int .i64 (t : Int), .int .i64 m] 68)).cell? ⟨wr.heap.size, 1, none⟩ = some (.int .i64 (t : Int)) := by rw [cell_of_row _ _ 1 _ _ _ (heap_alloc_new _ _)]; rfl
          have r2 : (wr.alloc (.cells #[.int .i64 (f : Int), .int .i64 (t : Int), .int .i64 m] 68)).cell? ⟨wr.heap.size, 2, none⟩ = some (.int .i64 m) := by rw [cell_of_row _ _ 2 _ _ _ (heap_alloc_new _ _)]; rfl
          have HBA := Lib.hid (show Below w.heap.size w (wr.alloc (.cells #[.int .i64 (f : Int), .int .i64 (t : Int), .int .i64 m] 68)) from HB3.out.alloc HB3.out.size _)
          have HRA := Lib.hid (own_below HR3.out (below_alloc_ wr (.cells #[.int .i64 (f : Int), .int .i64 (t : Int), .int .i64 m] 68)) (Nat.le_refl _))
          have hbdF := HBd.out f t
          obtain ⟨D, hD⟩ : ∃ D, (ws.take k).foldl tabR tab0 = D := ⟨_, rfl⟩
          rw [hD] at Hd eF HMA hbdF
          obtain ⟨x, hx⟩ : ∃ x, D f t = x := ⟨_, rfl⟩
          rw [hx] at Hd eF hbdF
          obtain ⟨hx0, hx1⟩ := hbdF
          unfold big at hx0 hx1
          have HD := Lib.hid hD
          have HX := Lib.hid hx
          obtain ⟨WA, hWA⟩ : ∃ WA, wr.alloc (.cells #[.int .i64 (f : Int), .int .i64 (t : Int), .int .i64 m] 68) = WA := ⟨_, rfl⟩
          rw [hWA] at oF eF zF r0 r1 r2 HBA HRA HMA ⊢
          obtain ⟨BA, hBA⟩ : ∃ BA, wr.heap.size = BA := ⟨_, rfl⟩
          rw [hBA] at r0 r1 r2 ⊢
          clear hD hx HM3 HR3 HB3 hWA hBA c0 c1 c2
          go_still_tail 19, (by kernel_rfl)
          go_wp2_with fail
          go_roundw
          case rel =>
            rw [min_if]
            obtain ⟨cs, hcs, _⟩ := HMA.out.rows f hfN
            refine ⟨k + 1, by omega, by go_num, ?_, ?_, ?_⟩
            · rw [Hd.out]; exact (HMA.out.set hfN htN _).drew
            · exact own_set2 (i := t) (by decide) HRA.out hcs
            · exact below_drewN (HBA.out.setCell (by have := HMA.out.rlo f hfN; show w.heap.size ≤ rb f; omega) _) 1
          case measure => simp [intOf]; omega
        · obtain rfl : k = L := by omega
          have HM4 := Lib.hid (show Mat wr W0.heap.size i G rb rc (tabRs ws) by have := HM3.out; rw [List.take_of_length_le (by rw [HL.out]; exact Nat.le_refl _)] at this; exact this)
          have HBt := Lib.hid (show Bd (tabRs ws) from bd_foldl ws tab0 bd_tab0 (fun r hr => by have := (HG.out.fit r hr).2.2.2.2.2.1; have : big = 1099511627776 := rfl; omega))
          have hkl2 : ¬ ((k : Int) < ((k : Nat) : Int)) := by omega
          clear HM3 HR3 HM2 HR2
          go_wp2_with fail
          go_loopw [11] (fun v11 w4 => ∃ m : Nat, m ≤ i ∧ v11 = .int .i64 (m : Int) ∧ Mat w4 W0.heap.size i G rb rc (stg i (tabRs ws) m) ∧ Below w.heap.size w w4) (fun v11 _ => i - (intOf v11).toNat)
          case atStart => exact ⟨0, Nat.zero_le _, rfl, HM4.out, HB3.out⟩
          case round =>
            obtain ⟨m, hm, rfl, hm4, hb4⟩ := hrel
            have HM5 := Lib.hid hm4
            have HB5 := Lib.hid hb4
            clear hm4 hb4
            by_cases hml : m < i
            · have hml2 : (m : Int) < (i : Int) := by omega
              obtain ⟨D0, hD0⟩ : ∃ D0, stg i (tabRs ws) m = D0 := ⟨_, rfl⟩
              have HBd0 := Lib.hid (show Bd D0 by rw [← hD0]; exact HBt.out.stg i m)
              have HD0 := Lib.hid hD0
              rw [hD0] at HM5
              clear hD0
              obtain ⟨wo5, rfl⟩ : ∃ wo5 : World, wo5 = wr := ⟨_, rfl⟩
              go_wp2_with fail
              go_loopw [12] (fun v12 w5 => ∃ a : Nat, a ≤ i ∧ v12 = .int .i64 (a : Int) ∧ Mat w5 W0.heap.size i G rb rc (rows i m D0 a) ∧ Below w.heap.size w w5) (fun v12 _ => i - (intOf v12).toNat)
              case atStart => exact ⟨0, Nat.zero_le _, rfl, HM5.out, HB5.out⟩
              case round =>
                obtain ⟨a, ha, rfl, hm6, hb6⟩ := hrel
                have HM6 := Lib.hid hm6
                have HB6 := Lib.hid hb6
                clear hm6 hb6
                by_cases hal : a < i
                · have hal2 : (a : Int) < (i : Int) := by omega
                  obtain ⟨D1, hD1⟩ : ∃ D1, rows i m D0 a = D1 := ⟨_, rfl⟩
                  have HBd1 := Lib.hid (show Bd D1 by rw [← hD1]; exact HBd0.out.rows i m a)
                  have HD1 := Lib.hid hD1
                  rw [hD1] at HM6
                  clear hD1
                  obtain ⟨wo6, rfl⟩ : ∃ wo6 : World, wo6 = wr := ⟨_, rfl⟩
                  go_wp2_with fail
                  go_loopw [13] (fun v13 w6 => ∃ b : Nat, b ≤ i ∧ v13 = .int .i64 (b : Int) ∧ Mat w6 W0.heap.size i G rb rc (cols m a D1 b) ∧ Below w.heap.size w w6) (fun v13 _ => i - (intOf v13).toNat)
                  case atStart => exact ⟨0, Nat.zero_le _, rfl, HM6.out, HB6.out⟩
                  case round =>
                    obtain ⟨b, hb, rfl, hm7, hb7⟩ := hrel
                    have HM7 := Lib.hid hm7
                    have HB7 := Lib.hid hb7
                    clear hm7 hb7
                    by_cases hbl : b < i
                    · have hbl2 : (b : Int) < (i : Int) := by omega
                      obtain ⟨D, hD⟩ : ∃ D, cols m a D1 b = D := ⟨_, rfl⟩
                      have hBd : Bd D := by rw [← hD]; exact HBd1.out.cols m a b
                      have HD := Lib.hid hD
                      rw [hD] at HM7
                      clear hD
                      have hm0 : (0 : Int) ≤ (m : Int) := by omega
                      have ha0 : (0 : Int) ≤ (a : Int) := by omega
                      have hb0 : (0 : Int) ≤ (b : Int) := by omega
                      have oA := HM7.out.cellO hal
                      have oM := HM7.out.cellO hml
                      have eAM := HM7.out.cellI hal hml
                      have eMB := HM7.out.cellI hml hbl
                      have eAB := HM7.out.cellI hal hbl
                      have zAB := HM7.out.fz hal b
                      have bAM := hBd a m
                      have bMB := hBd m b
                      have bAB := hBd a b
                      obtain ⟨x, hx⟩ : ∃ x, D a m = x := ⟨_, rfl⟩
                      obtain ⟨y, hy⟩ : ∃ y, D m b = y := ⟨_, rfl⟩
                      obtain ⟨z, hz'⟩ : ∃ z, D a b = z := ⟨_, rfl⟩
                      have Hst := Lib.hid (show stp m a b D = if x < big ∧ y < big then upd D a b (max (-big) (min z (x + y))) else D by unfold stp; rw [hx, hy, hz'])
                      rw [hx] at eAM bAM
                      rw [hy] at eMB bMB
                      rw [hz'] at eAB bAB
                      unfold big at bAM bMB bAB
                      obtain ⟨bx0, bx1⟩ := bAM
                      obtain ⟨by0, by1⟩ := bMB
                      obtain ⟨bz0, bz1⟩ := bAB
                      clear hx hy hz' hBd
                      by_cases h1 : x < 1099511627776
                      · by_cases h2 : y < 1099511627776
                        · have h1d : decide (x < 1099511627776) = true := decide_eq_true h1
                          have h2d : decide (y < 1099511627776) = true := decide_eq_true h2
                          go_wp2_with fail
                          go_still_tail 29, (by kernel_rfl)
                          go_wp2_with fail
                          go_roundw
                          case rel =>
                            rw [clamp_if]
                            refine ⟨b + 1, by omega, by go_num, ?_, ?_⟩
                            · rw [cols, HD.out, Hst.out, if_pos ⟨h1, h2⟩]; exact (HM7.out.set hal hbl _).drew
                            · exact below_drewN (HB7.out.setCell (by have := HM7.out.rlo a hal; show w.heap.size ≤ rb a; omega) _) 1
                          case measure => simp [intOf]; omega
                        · have h1d : decide (x < 1099511627776) = true := decide_eq_true h1
                          have h2d : decide (y < 1099511627776) = false := decide_eq_false h2
                          go_wp2_with fail
                          go_roundw
                          case rel => exact ⟨b + 1, by omega, by go_num, by rw [cols, HD.out, Hst.out, if_neg (fun h => h2 h.2)]; exact HM7.out, HB7.out⟩
                          case measure => simp [intOf]; omega
                      · have h1d : decide (x < 1099511627776) = false := decide_eq_false h1
                        go_wp2_with fail
                        go_roundw
                        case rel => exact ⟨b + 1, by omega, by go_num, by rw [cols, HD.out, Hst.out, if_neg (fun h => h1 h.1)]; exact HM7.out, HB7.out⟩
                        case measure => simp [intOf]; omega
                    · obtain rfl : b = i := by omega
                      go_wp2_with fail
                      go_roundw
                      case rel => exact ⟨a + 1, by omega, by go_num, by rw [rows, HD1.out]; exact HM7.out, HB7.out⟩
                      case measure => simp [intOf]; omega
                · obtain rfl : a = i := by omega
                  go_wp2_with fail
                  go_roundw
                  case rel => exact ⟨m + 1, by omega, by go_num, by rw [stg, HD0.out]; exact HM6.out, HB6.out⟩
                  case measure => simp [intOf]; omega
            · obtain rfl : m = i := by omega
              go_wp2_with fail
              go_ret
              refine ⟨G, cap4, rb, rc, by rw [hN]; rfl, ?_, HB5.out⟩
              have hM := HM5.out
              unfold farM
              rw [Hws.out, hN]
              exact ⟨by have := hM.lo; omega, fun j hj => by have := hM.rlo j hj; omega, hM.outer, hM.rows, hM.inj⟩
end Go.Proofs.Ytiankphkemakeaa
