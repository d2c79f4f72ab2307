/- Stage 4: the grades of the words of a hearer, in the program. -/
import Derived.Test.YthdjbapidodlfaaCe
namespace Go.Proofs.Ythdjbapidodlfaa
set_option linter.unusedSimpArgs false
set_option linter.unusedVariables false
open Go.RowKit Go.Shelf
attribute [local go_sem ↓] exec_app at_app
attribute [local go_sem] Oper.semAt_some

theorem Out.opR_of {n i : Nat} {P : Program} {ops : Array Oper} {Q : Exit → Act → World → Prop} {K : Act → World → Prop} {a : Act} {w : World} {o : Oper} (ho : ops[i]? = some o) (hw : Region.wanted o (yielded ops a.tmps) = true) (h : o.wpIn Fence.wide n P a w K Q) : Out.opR n P ops Q i K a w := by
  unfold Out.opR wpOpIn
  simp only [ho, hw, if_true]
  exact h
/-- Two may come up. -/
theorem Out.anyR_two {n z i j : Nat} {P : Program} {ops : Array Oper} {Q : Exit → Act → World → Prop} {md : Region.Mode} {S : World → Prop} {fuel : Nat} {listed : Array Bool} {a : Act} {w : World} {oi oj : Oper} (hr : Region.ready md ops listed = [i, j])
    (hi : ops[i]? = some oi) (hj : ops[j]? = some oj) (hwi : Region.wanted oi (yielded ops a.tmps) = true) (hwj : Region.wanted oj (yielded ops a.tmps) = true)
    (h1 : ∀ K : Act → World → Prop, (∀ a w, (i ≠ z → listed.getD z false = false → S w) → Out.anyR n P md ops Q S z fuel (listed.setIfInBounds i true) a w → K a w) → oi.wpIn Fence.wide n P a w K Q)
    (h2 : ∀ K : Act → World → Prop, (∀ a w, (j ≠ z → listed.getD z false = false → S w) → Out.anyR n P md ops Q S z fuel (listed.setIfInBounds j true) a w → K a w) → oj.wpIn Fence.wide n P a w K Q) : Out.anyR n P md ops Q S z (fuel + 1) listed a w := by
  refine ⟨fun h0 => (by rw [hr] at h0; cases h0), fun k hk => ?_⟩
  rw [hr] at hk
  simp only [List.mem_cons, List.mem_nil_iff, or_false] at hk
  rcases hk with rfl | rfl
  · exact Out.opR_of hi hwi (h1 _ (fun a w hS hA => ⟨hS, hA⟩))
  · exact Out.opR_of hj hwj (h2 _ (fun a w hS hA => ⟨hS, hA⟩))
theorem info2_ : (Try.prog.info? 2).map (fun i => (i.zero, i.size, i.bytes)) = some (some (.int .i64 0), 1, 8) := by kernel_rfl
theorem make129 (n : Nat) (hn : n ≤ 1000) (W : World) : (Instr.makeSlice 129 (.int .i64 (n : Int)) (.int .i64 (n : Int))).run Try.prog W = .ok (.slice (some ⟨W.heap.size, 0, none⟩) n n) (W.alloc (.cells (flatI (List.replicate n 0)).toArray 2)) := by
  obtain ⟨i, hi, hz, hs, hb⟩ := info_parts info2_
  have h := run_makeSlice (P := Try.prog) W 129 2 i _ Try.underlying129 hi hz .i64 .i64 (n : Int) (n : Int) (by omega) (by omega) (by rw [hs]; omega) (by rw [hb]; omega) (by omega)
  simp only [Int.toNat_natCast, hs, Nat.mul_one] at h
  rw [h]
  have e : madeCells (Value.int IntKind.i64 0).cells n = (flatI (List.replicate n 0)).toArray := by
    apply Array.ext'
    have : (Value.int IntKind.i64 0).cells = #[Value.int IntKind.i64 0] := rfl
    rw [this, toList_madeCells_one]
    simp [flatI]
  rw [e]
/-- Of each word of a hearer, how many longest passages have a match with its index. -/
def smF (nm : List Int) (L : List (List Int)) (m h : Nat) (s : List Int) (x : List Int) : List Int := s.set (iAt x h).toNat (iAt s (iAt x h).toNat + shS nm L m x)
def smK (nm : List Int) (L : List (List Int)) (m h : Nat) (pre : List (List Int)) : List Int := pre.foldl (smF nm L m h) (List.replicate (lAt L h).length 0)
theorem smK_snoc (nm : List Int) (L : List (List Int)) (m h : Nat) (pre : List (List Int)) (x : List Int) : smK nm L m h (pre ++ [x]) = smF nm L m h (smK nm L m h pre) x := by simp [smK, List.foldl_append]
theorem smK_len (nm : List Int) (L : List (List Int)) (m h : Nat) (pre : List (List Int)) : (smK nm L m h pre).length = (lAt L h).length := by
  have : ∀ (l : List (List Int)) (s : List Int), (l.foldl (smF nm L m h) s).length = s.length := by
    intro l
    induction l with
    | nil => intro s; rfl
    | cons a t ih => intro s; rw [List.foldl_cons, ih]; simp [smF]
  unfold smK
  rw [this, List.length_replicate]
theorem iAt_rep (n j : Nat) : iAt (List.replicate n (0 : Int)) j = 0 := by
  unfold iAt
  rcases Nat.lt_or_ge j n with h | h
  · simp [List.getD, h]
  · simp [List.getD, List.getElem?_eq_none (show (List.replicate n (0 : Int)).length ≤ j by simpa using h)]
theorem smK_bnd {nm : List Int} {L : List (List Int)} {m h : Nat} (hL : LV L m) (hh : h < m) : ∀ pre : List (List Int), (∀ x ∈ pre, x ∈ mtS nm L) → ∀ j, 0 ≤ iAt (smK nm L m h pre) j ∧ iAt (smK nm L m h pre) j ≤ (pre.length : Int) * 1000000000000 := by
  intro pre
  obtain ⟨n, hn⟩ : ∃ n, pre.length = n := ⟨_, rfl⟩
  induction n generalizing pre with
  | zero =>
    intro _ j
    rw [List.length_eq_zero_iff.1 hn]
    have : smK nm L m h [] = List.replicate (lAt L h).length 0 := rfl
    rw [this, iAt_rep]
    exact ⟨Int.le_refl _, by simp⟩
  | succ n ih =>
    intro hp j
    rcases List.eq_nil_or_concat pre with rfl | ⟨p, x, rfl⟩
    · simp at hn
    · rw [List.concat_eq_append] at hn hp ⊢
      have hx := hp x (by simp)
      have hpn : p.length = n := by rw [List.length_append] at hn; simpa using hn
      have ih2 := ih p hpn (fun y hy => hp y (by simp [hy]))
      have hb := shS_bnd (nm := nm) hL hx
      have ha := all_nn (nm := nm) hL
      have hr := ((mem_mtS hL x).1 hx).rng h hh
      rw [smK_snoc, List.length_append]
      unfold smF
      rw [iAt_set9 _ (by rw [smK_len]; omega)]
      have h1 := ih2 j
      have h2 := ih2 (iAt x h).toNat
      have e : (((p.length + [x].length : Nat) : Int)) * 1000000000000 = (p.length : Int) * 1000000000000 + 1000000000000 := by simp; omega
      rw [e]
      split <;> omega
/-- The grade of a word. -/
def grV (al s : Int) : Int := if s = 0 then 0 else if s = al then 2 else 1
def grS (nm : List Int) (L : List (List Int)) (m h : Nat) : List Int := (smK nm L m h (mtS nm L)).map (grV (allK (mtS nm L) m).2)
/-- What the rounds keep. -/
structure GdI (G : Nat) (V : World) (s : List Int) (W : World) : Prop where
  row : W.heap[G]? = some (.cells (flatI s).toArray 2 (0, 0))
  keep : Keeps (fun k => V.heap.size ≤ k ∨ k = G) V W
theorem GdI.abides {G : Nat} {V : World} (hG : G < V.heap.size) (s : List Int) : AbO V.heap.size (fun _ W => GdI G V s W) := by
  intro O W1 W2 h hK
  exact ⟨(hK.block _ (lt_of_block h.row) (by omega)).trans h.row, h.keep.trans (hK.mono (fun k _ e => .inl e.1))⟩
theorem row_cell {W : World} {G : Nat} {s : List Int} {t : TypeId} (h : W.heap[G]? = some (.cells (flatI s).toArray t (0, 0))) {j : Nat} (hj : j < s.length) : W.cell? ⟨G, j, none⟩ = some (.int .i64 (iAt s j)) := by
  rw [cell_row h, List.getElem?_toArray, iAt_eq hj]
  simp [flatI, hj]
theorem row_put {W : World} {G : Nat} {s : List Int} {t : TypeId} (h : W.heap[G]? = some (.cells (flatI s).toArray t (0, 0))) (j : Nat) (v : Int) : (W.setCell ⟨G, j, none⟩ (.int .i64 v)).heap[G]? = some (.cells (flatI (s.set j v)).toArray t (0, 0)) := by
  rw [set_same _ _ h]
  simp [flatI, List.map_set]
set_option maxRecDepth 100000 in
set_option maxHeartbeats 32000000 in
theorem grades69 (B D : Nat) (A : Option Addr) (n cap : Nat) (nm : List Int) (M : Nat) (A2 : Option Addr) (m cap2 : Nat) (L : List (List Int)) (Vp Cf Cb Bt Me Me2 : Nat) (Ms Ms2 : Nat → Nat) (nn nn2 : Nat) (h : Nat) (w : World) (hBo : Bo w B D A n cap nm M A2 m cap2 L) (hL : LV L m) (hV : Vw w Vp Cf Cb B Bt Me Me2 Ms Ms2 nn nn2 nm L m) (hh : h < m) :
    Calls Try.prog 69 #[.pointer (some ⟨Vp, 0, none⟩), .int .i64 (h : Int)] w fun e w' => ∃ C c, e = .returned (.slice C (lAt L h).length c) ∧ (lAt L h).length ≤ c ∧ Ints w' C (lAt L h).length (grS nm L m h) ∧ Below w.heap.size w w' := by
  have HB := Lib.hid hBo
  have HL := Lib.hid hL
  have HV := Lib.hid hV
  have hm4 := hL.hi
  have k1 : Keeps (fun _ => False) w ((w.alloc (.cells #[.pointer (some ⟨Vp, 0, none⟩)] 98)).alloc (.cells #[.int .i64 (h : Int)] 3)) := (keep_alloc _ _ _).trans (keep_alloc _ _ _)
  have e1 : ((w.alloc (.cells #[.pointer (some ⟨Vp, 0, none⟩)] 98)).alloc (.cells #[.int .i64 (h : Int)] 3)).heap[w.heap.size]? = some (.cells #[.pointer (some ⟨Vp, 0, none⟩)] 98 (0, 0)) := hal_old (heap_alloc_new_ _ _)
  have e3 : ((w.alloc (.cells #[.pointer (some ⟨Vp, 0, none⟩)] 98)).alloc (.cells #[.int .i64 (h : Int)] 3)).heap[w.heap.size + 1]? = some (.cells #[.int .i64 (h : Int)] 3 (0, 0)) := hal_new (by simp)
  have K1 := Lib.hid k1.new
  have E1 := Lib.hid e1
  have E3 := Lib.hid e3
  clear hBo hL hV k1 e1 e3
  refine (callsIn_wide (n := 5)).1 ?_
  refine callsIn_of_wp_marks Try.func69 rfl trivial ?_ rfl
  simp only [Try.ntmps69, List.size_toArray, List.length_cons, List.length_nil, Nat.reduceAdd, Nat.reduceSub, Array.replicate_succ, Array.replicate_zero, List.push_toArray, List.append_toArray, List.nil_append, List.cons_append]
  gi_wp2_with fail
  obtain ⟨V1, hV1⟩ : ∃ V1, (w.alloc (.cells #[.pointer (some ⟨Vp, 0, none⟩)] 98)).alloc (.cells #[.int .i64 (h : Int)] 3) = V1 := ⟨_, rfl⟩
  obtain ⟨T2, hT2⟩ : ∃ T2, w.heap.size = T2 := ⟨_, rfl⟩
  have k1 := K1.out
  have e1 := E1.out
  have e3 := E3.out
  rw [hV1] at k1 e1 e3 ⊢
  rw [hT2] at e1 e3 ⊢
  have HT2 := Lib.hid hT2
  replace K1 := Lib.hid k1
  replace E1 := Lib.hid e1
  replace E3 := Lib.hid e3
  have hv := HV.out.below k1 (Nat.le_refl _)
  have hb := HB.out.below k1 (Nat.le_refl _)
  have g2 : V1.cell? ⟨T2, 0, none⟩ = some (.pointer (some ⟨Vp, 0, none⟩)) := by rw [cell_row e1]; rfl
  have g3 : V1.cell? ⟨T2 + 1, 0, none⟩ = some (.int .i64 (h : Int)) := by rw [cell_row e3]; rfl
  have v0 := hv.c0
  have b0 := Cht.c0 hv.fwd
  have b1 := hb.c1
  obtain ⟨bl, ol, hA2, hcl⟩ := hb.lns.2 (by omega)
  obtain ⟨Ch, ch, l0, -, -⟩ := hcl h hh
  subst hA2
  have hl8 := HL.out.le8 h hh
  obtain ⟨ll, hll⟩ : ∃ ll, (lAt L h).length = ll := ⟨_, rfl⟩
  have HLl := Lib.hid hll
  rw [hll] at l0 hl8
  have i0 : (0 : Int) ≤ (h : Int) := by omega
  have i1 : (h : Int) < (m : Int) := by omega
  clear hV1 hT2 k1 e1 e3 hv hb hcl hll
  rename_i K0 hK0
  have Hrest : ∀ (G T5 : Nat) (V9 : World), V9.heap[G]? = some (.cells (flatI (List.replicate ll 0)).toArray 2 (0, 0)) → V9.heap[T5]? = some (.cells #[.slice (some ⟨G, 0, none⟩) ll ll] 129 (0, 0)) → Below V1.heap.size V1 V9 → V1.heap.size ≤ G → V1.heap.size ≤ T5 → G ≠ T5 →
      K0 { tmps := #[.pointer (some ⟨Vp, 0, none⟩), .int .i64 (h : Int), .pointer (some ⟨T2, 0, none⟩), .pointer (some ⟨T2 + 1, 0, none⟩), .slice none 0 0, .pointer (some ⟨T5, 0, none⟩), undef, undef, undef, undef, .pointer (some ⟨Vp, 0, none⟩), .pointer (some ⟨Vp, 0, none⟩), .pointer (some ⟨Vp, 0, none⟩), .pointer (some ⟨Cf, 0, none⟩), .pointer (some ⟨Cf, 0, none⟩), .pointer (some ⟨Cf, 0, none⟩), .pointer (some ⟨B, 0, none⟩), .pointer (some ⟨B, 0, none⟩), .pointer (some ⟨B, 1, none⟩), .slice (some ⟨bl, ol, none⟩) m cap2, .int .i64 (h : Int), .pointer (some ⟨bl, ol + h, none⟩), .slice Ch ll ch, .int .i64 (ll : Int), .slice (some ⟨G, 0, none⟩) ll ll, undef, undef, undef, undef, undef, undef, undef, undef, undef, undef, undef, undef, undef, undef, undef, undef, undef, undef, undef, undef, undef, undef, undef, undef, undef, undef, undef, undef, undef, undef, undef, undef, undef, undef, undef, undef, undef, undef, undef, undef, undef, undef, undef, undef, undef, undef, undef, undef, undef, undef], defers := [] } V9 := by
    intro G T5 V9 hG hT hb9 hG1 hT1 hne
    refine hK0 _ _ ?_
    clear hK0
    have h2 := (hb9.block _ (lt_of_block E1.out)).trans E1.out
    have h3 := (hb9.block _ (lt_of_block E3.out)).trans E3.out
    have hbw := K1.out.trans (hb9.mono K1.out.size)
    have hv := HV.out.below hbw (Nat.le_refl _)
    replace v0 := hv.c0
    replace b0 := Cht.c0 hv.fwd
    replace g2 : V9.cell? ⟨T2, 0, none⟩ = some (.pointer (some ⟨Vp, 0, none⟩)) := by rw [cell_row h2]; rfl
    have Hg := Lib.hid hG
    have Ht := Lib.hid hT
    have HE1 := Lib.hid h2
    have HE3 := Lib.hid h3
    have HBw := Lib.hid hbw
    have HNe := Lib.hid (show V1.heap.size ≤ G ∧ V1.heap.size ≤ T5 ∧ G ≠ T5 ∧ T2 + 1 < V1.heap.size from ⟨hG1, hT1, hne, lt_of_block E3.out⟩)
    clear hG hT hb9 hG1 hT1 hne h2 h3 hbw hv g3 b1 l0
    gi_wp2_with fail
    refine ⟨trivial, (callsIn_wide.2 (matches55 B V9)).mono ?_⟩
    rintro en w3 ⟨P1, rfl, cP, hP1, hP2, hb3⟩
    have hseq := matches74 HL.out w w3 HB.out (HBw.out.trans (hb3.mono HBw.out.size)) P1 cP
    have Hseq := Lib.hid hseq
    have ET := Lib.hid ((hb3.block _ (lt_of_block Ht.out)).trans Ht.out)
    have EG := Lib.hid ((hb3.block _ (lt_of_block Hg.out)).trans Hg.out)
    have EV := Lib.hid ((hb3.block _ (lt_of_block HE1.out)).trans HE1.out)
    have EH := Lib.hid ((hb3.block _ (lt_of_block HE3.out)).trans HE3.out)
    have HGl := Lib.hid (lt_of_block Hg.out)
    replace HBw := Lib.hid (HBw.out.trans (hb3.mono HBw.out.size))
    have HP1 := Lib.hid (show V9.heap.size ≤ P1 ∧ P1 < w3.heap.size ∧ V9.heap.size ≤ w3.heap.size from ⟨hP1, hP2, hb3.size⟩)
    clear hseq cP hP1 hP2 hb3 Ht Hg HE1 HE3 v0 b0 g2
    gi_wp2_with fail
    have hGl : G < w3.heap.size := lt_of_block EG.out
    refine wpIn_rangeO (gf := 74) (lb := #[.pointer (some ⟨P1, 0, none⟩)]) rfl (enters_of Try.func74 (by kernel_rfl) rfl) Hseq.out (fun k h => by have := HP1.out; have := HT2.out; have := HNe.out; rcases h with h | h <;> omega) (fun _ => rfl) (fun k => k = G) (fun k hk => by
        have := HP1.out
        have := HT2.out
        have := HNe.out
        have := HGl.out
        exact ⟨by omega, by rintro (e | e) <;> omega⟩)
      (fun pre _ W => GdI G w3 (smK nm L m h pre) W) (fun _ _ _ _ => False) (fun pre => GdI.abides hGl _) (fun _ _ _ _ _ h _ => h.elim) ⟨by have := EG.out; rw [← HLl.out] at this; exact this, Keeps.refl _ _⟩ ?round ?done ?stop
    case stop => intro D c pre x post W O _ _ _ _ _ h _; exact h.elim
    case round =>
      intro l pre x post W O hxs hl1 hl2 hr hO hI mm
      have Hby := Lib.hid (heap_alloc_new_ W (.cells #[.int .i64 (iAt x 0), .int .i64 (iAt x 1), .int .i64 (iAt x 2), .int .i64 (iAt x 3)] 79))
      have Hxs := Lib.hid hxs
      unfold plA
      clear hxs hr hI hO hGl
      gi_wp2_with fail
      refine ⟨keep_alloc _ _ _, ?_⟩
      intro W2 hB2 hI2
      have FT := (hB2.keeps.block _ (by simp) (by omega)).trans Hby.out
      obtain ⟨U, hU⟩ : ∃ U, W.heap.size = U := ⟨_, rfl⟩
      rw [hU] at FT ⊢
      have HU := Lib.hid (show w3.heap.size ≤ U from by omega)
      have hk2 := hI2.keep
      have hxm : x ∈ mtS nm L := by rw [Hxs.out]; simp
      have hrg := ((mem_mtS HL.out x).1 hxm).rng h hh
      have hwp := mtS_wpl (nm := nm) HL.out x hxm
      obtain ⟨q, hq⟩ : ∃ q : Nat, iAt x h = (q : Int) := ⟨(iAt x h).toNat, by omega⟩
      have hbnd := smK_bnd (nm := nm) HL.out hh pre (fun y hy => by rw [Hxs.out]; simp [hy]) q
      have hpl : pre.length ≤ 4096 := by
        have h := (mtS_len (nm := nm) HL.out).1
        rw [Hxs.out] at h
        simp at h; omega
      have hsb := shS_bnd (nm := nm) HL.out hxm
      have hal := all_nn (nm := nm) HL.out
      have hsl := smK_len nm L m h pre
      rw [HLl.out] at hsl hrg
      rw [hq] at hrg
      have hql : q < ll := by omega
      have Hsn := Lib.hid (show smK nm L m h (pre ++ [x]) = (smK nm L m h pre).set q (iAt (smK nm L m h pre) q + shS nm L m x) by rw [smK_snoc]; unfold smF; rw [hq, Int.toNat_natCast])
      have hbw2 : Below w.heap.size w W2 := HBw.out.trans (hk2.below HBw.out.size (fun k hk e => by have := HBw.out.size; have := HT2.out; have := HNe.out; omega))
      have hV2 := HV.out.below hbw2 (Nat.le_refl _)
      have HB2 := Lib.hid (HB.out.below hbw2 (Nat.le_refl _))
      have HV2 := Lib.hid hV2
      have hltw := lt_of_block EV.out
      have hlth := lt_of_block EH.out
      have hltt := lt_of_block ET.out
      have h9 := (hk2.block _ hltw (by have := HNe.out; show ¬ (_ ∨ _); omega)).trans EV.out
      have h10 := (hk2.block _ hlth (by have := HNe.out; show ¬ (_ ∨ _); omega)).trans EH.out
      have h11 := (hk2.block _ hltt (by have := HNe.out; show ¬ (_ ∨ _); omega)).trans ET.out
      have t2 : W2.cell? ⟨T2, 0, none⟩ = some (.pointer (some ⟨Vp, 0, none⟩)) := by rw [cell_row h9]; rfl
      have t3 : W2.cell? ⟨T2 + 1, 0, none⟩ = some (.int .i64 (h : Int)) := by rw [cell_row h10]; rfl
      have t5 : W2.cell? ⟨T5, 0, none⟩ = some (.slice (some ⟨G, 0, none⟩) ll ll) := by rw [cell_row h11]; rfl
      have y0 := row_cell hI2.row (j := q) (by rw [hsl]; exact hql)
      have x0 : W2.cell? ⟨U, 0, none⟩ = some (.int .i64 (iAt x 0)) := by rw [cell_row FT]; rfl
      have x1 : W2.cell? ⟨U, 1, none⟩ = some (.int .i64 (iAt x 1)) := by rw [cell_row FT]; rfl
      have x2 : W2.cell? ⟨U, 2, none⟩ = some (.int .i64 (iAt x 2)) := by rw [cell_row FT]; rfl
      have x3 : W2.cell? ⟨U, 3, none⟩ = some (.int .i64 (iAt x 3)) := by rw [cell_row FT]; rfl
      have xh : W2.cell? ⟨U, h, none⟩ = some (.int .i64 (q : Int)) := by
        rw [← hq]
        have hr : RowP W2 U x := ⟨hwp.len, by rw [flat4 hwp.len]; exact FT⟩
        exact hr.cell (by omega)
      obtain ⟨s, hs⟩ : ∃ s, smK nm L m h pre = s := ⟨_, rfl⟩
      obtain ⟨ov, hov⟩ : ∃ ov, iAt s q = ov := ⟨_, rfl⟩
      obtain ⟨sh, hsh⟩ : ∃ sh, shS nm L m x = sh := ⟨_, rfl⟩
      rw [hs] at hbnd Hsn y0 hsl
      rw [hov] at hbnd Hsn y0
      rw [hsh] at Hsn hsb
      have HI2 := Lib.hid (show GdI G w3 s W2 by rw [← hs]; exact hI2)
      have Hsh := Lib.hid hsh
      have HXm := Lib.hid hxm
      have p1 : 0 ≤ ov + sh := by omega
      have p2 : ov + sh ≤ 9223372036854775807 := by omega
      have j0 : (0 : Int) ≤ (q : Int) := by omega
      have j1 : (q : Int) < (ll : Int) := by omega
      have j2 : (h : Int) < 4 := by omega
      have HqL := Lib.hid hql
      have hS0 : Below W2.heap.size W2 W2.drew := drew_b _ 1
      clear hU hB2 hk2 hI2 FT Hby hbw2 hV2 h9 h10 h11 hxm hrg hwp hq hbnd hsb hal hs hov hsh hltw hlth hltt hpl hql
      gi_wp2_with fail
      refine region_R (z := 11) (S := fun V9 => Below W2.heap.size W2 V9) (by kernel_rfl) ?_
      refine anyR_take (i := 0) (oi := { dst := some 34, op := Go.Op.load 129 (Go.Operand.tmp 5), type := 129, pos := "chart.go:150", after := #[], guard := none }) (v := .slice (some ⟨G, 0, none⟩) ll ll) rfl (by decide) (by kernel_rfl) (by kernel_rfl) (by kernel_rfl) (by kernel_rfl) (fun _ _ _ h => h) (Or.inl ⟨by rfl, by intro V9 hSw; (try dsimp only at hSw); have q_t5 := (hSw.cell (lt_of_cell t5)).trans t5; go_simp⟩) hS0 ?_
      try simp only [Act.put, List.setIfInBounds_toArray, List.set_cons_zero, List.set_cons_succ]
      refine anyR_take (i := 1) (oi := { dst := some 35, op := Go.Op.load 3 (Go.Operand.tmp 3), type := 3, pos := "chart.go:150", after := #[], guard := none }) (v := .int .i64 (h : Int)) rfl (by decide) (by kernel_rfl) (by kernel_rfl) (by kernel_rfl) (by kernel_rfl) (fun _ _ _ h => h) (Or.inl ⟨by rfl, by intro V9 hSw; (try dsimp only at hSw); have q_t3 := (hSw.cell (lt_of_cell t3)).trans t3; go_simp⟩) hS0 ?_
      try simp only [Act.put, List.setIfInBounds_toArray, List.set_cons_zero, List.set_cons_succ]
      refine anyR_take (i := 2) (oi := { dst := some 36, op := Go.Op.indexAddr 79 (Go.Operand.tmp 6) (Go.Operand.tmp 35), type := 0, pos := "chart.go:150", after := #[{ on := 1, ground := Go.Ground.data }], guard := none }) (v := .pointer (some ⟨U, h, none⟩)) rfl (by decide) (by kernel_rfl) (by kernel_rfl) (by kernel_rfl) (by kernel_rfl) (fun _ _ _ h => h) (Or.inl ⟨by rfl, by intro V9 hSw; (try dsimp only at hSw); go_simp⟩) hS0 ?_
      try simp only [Act.put, List.setIfInBounds_toArray, List.set_cons_zero, List.set_cons_succ]
      refine anyR_take (i := 3) (oi := { dst := some 37, op := Go.Op.load 3 (Go.Operand.tmp 36), type := 3, pos := "chart.go:150", after := #[{ on := 2, ground := Go.Ground.data }], guard := none }) (v := .int .i64 (q : Int)) rfl (by decide) (by kernel_rfl) (by kernel_rfl) (by kernel_rfl) (by kernel_rfl) (fun _ _ _ h => h) (Or.inl ⟨by rfl, by intro V9 hSw; (try dsimp only at hSw); have q_xh := (hSw.cell (lt_of_cell xh)).trans xh; go_simp⟩) hS0 ?_
      try simp only [Act.put, List.setIfInBounds_toArray, List.set_cons_zero, List.set_cons_succ]
      refine anyR_take (i := 4) (oi := { dst := some 38, op := Go.Op.indexAddr 129 (Go.Operand.tmp 34) (Go.Operand.tmp 37), type := 0, pos := "chart.go:150", after := #[{ on := 0, ground := Go.Ground.data }, { on := 3, ground := Go.Ground.data }], guard := none }) (v := .pointer (some ⟨G, q, none⟩)) rfl (by decide) (by kernel_rfl) (by kernel_rfl) (by kernel_rfl) (by kernel_rfl) (fun _ _ _ h => h) (Or.inl ⟨by rfl, by intro V9 hSw; (try dsimp only at hSw); go_simp⟩) hS0 ?_
      try simp only [Act.put, List.setIfInBounds_toArray, List.set_cons_zero, List.set_cons_succ]
      refine anyR_take (i := 5) (oi := { dst := some 39, op := Go.Op.load 2 (Go.Operand.tmp 38), type := 2, pos := "chart.go:150", after := #[{ on := 4, ground := Go.Ground.data }], guard := none }) (v := .int .i64 ov) rfl (by decide) (by kernel_rfl) (by kernel_rfl) (by kernel_rfl) (by kernel_rfl) (fun _ _ _ h => h) (Or.inl ⟨by rfl, by intro V9 hSw; (try dsimp only at hSw); have q_y0 := (hSw.cell (lt_of_cell y0)).trans y0; go_simp⟩) hS0 ?_
      try simp only [Act.put, List.setIfInBounds_toArray, List.set_cons_zero, List.set_cons_succ]
      refine anyR_take (i := 6) (oi := { dst := some 40, op := Go.Op.load 98 (Go.Operand.tmp 2), type := 98, pos := "chart.go:150", after := #[], guard := none }) (v := .pointer (some ⟨Vp, 0, none⟩)) rfl (by decide) (by kernel_rfl) (by kernel_rfl) (by kernel_rfl) (by kernel_rfl) (fun _ _ _ h => h) (Or.inl ⟨by rfl, by intro V9 hSw; (try dsimp only at hSw); have q_t2 := (hSw.cell (lt_of_cell t2)).trans t2; go_simp⟩) hS0 ?_
      try simp only [Act.put, List.setIfInBounds_toArray, List.set_cons_zero, List.set_cons_succ]
      refine anyR_take (i := 7) (oi := { dst := some 41, op := Go.Op.load 79 (Go.Operand.tmp 6), type := 79, pos := "chart.go:150", after := #[], guard := none }) (v := .agg #[.int .i64 (iAt x 0), .int .i64 (iAt x 1), .int .i64 (iAt x 2), .int .i64 (iAt x 3)]) rfl (by decide) (by kernel_rfl) (by kernel_rfl) (by kernel_rfl) (by kernel_rfl) (fun _ _ _ h => h) (Or.inl ⟨by rfl, by intro V9 hSw; (try dsimp only at hSw); have q_x0 := (hSw.cell (lt_of_cell x0)).trans x0; have q_x1 := (hSw.cell (lt_of_cell x1)).trans x1; have q_x2 := (hSw.cell (lt_of_cell x2)).trans x2; have q_x3 := (hSw.cell (lt_of_cell x3)).trans x3; go_simp⟩) hS0 ?_
      try simp only [Act.put, List.setIfInBounds_toArray, List.set_cons_zero, List.set_cons_succ]
      obtain ⟨X0, hX0⟩ : ∃ X0, W2.drew = X0 := ⟨_, rfl⟩
      rw [hX0] at hS0 ⊢
      have HS0 := Lib.hid hS0
      clear hX0 hS0 t2 t3 t5 xh y0 x0 x1 x2 x3
      refine anyR_one (i := 8) (o := { dst := some 42, op := Go.Op.call { callee := Go.Callee.value (Go.Operand.func 86), args := #[Go.Operand.tmp 40, Go.Operand.tmp 41], argTypes := #[98, 79] }, type := 2, pos := "chart.go:150", after := #[{ on := 6, ground := Go.Ground.data }, { on := 7, ground := Go.Ground.data }], guard := none }) (by kernel_rfl) rfl (by rfl) ?_
      intro K hK
      have HKK := Lib.hid hK
      clear hK
      have key := shares86 B D A n cap nm M (some ⟨bl, ol, none⟩) m cap2 L Vp Cf Cb Bt Me Me2 Ms Ms2 nn nn2 x X0 (HB2.out.below HS0.out (Nat.le_refl _)) HL.out (HV2.out.below HS0.out (Nat.le_refl _)) HXm.out
      rw [Hsh.out] at key
      unfold plA at key
      have Key := Lib.hid key
      clear key
      go_simp
      refine ⟨trivial, wide_d, CallsIn.inRound l ((callsIn_wide.2 Key.out).mono ?_)⟩
      rintro en X1 ⟨rfl, hb1⟩
      have HS1 := Lib.hid (HS0.out.trans (hb1.mono HS0.out.size))
      refine HKK.out _ _ (fun _ _ => HS1.out) ?_
      clear HKK K hb1 Key
      try simp only [Act.put, List.setIfInBounds_toArray, List.set_cons_zero, List.set_cons_succ]
      refine anyR_free (i := 9) (oi := { dst := some 43, op := Go.Op.binOp Go.BinOp.add 2 (Go.Operand.tmp 39) (Go.Operand.tmp 42) 2, type := 2, pos := "chart.go:150", after := #[{ on := 5, ground := Go.Ground.data }, { on := 8, ground := Go.Ground.data }], guard := none }) (v := .int .i64 (ov + sh)) rfl (by decide) (by kernel_rfl) (by kernel_rfl) (by kernel_rfl) (fun _ _ _ h => h) (Or.inl ⟨by rfl, by intro V9 hSw; (try dsimp only at hSw); go_simp; exact IntWalk.i64_in _ (by omega)⟩) HS1.out ?_
      try simp only [Act.put, List.setIfInBounds_toArray, List.set_cons_zero, List.set_cons_succ]
      refine anyR_free (i := 10) (oi := { dst := some 44, op := Go.Op.indexAddr 129 (Go.Operand.tmp 34) (Go.Operand.tmp 37), type := 0, pos := "chart.go:150", after := #[{ on := 0, ground := Go.Ground.data }, { on := 3, ground := Go.Ground.data }, { on := 0, ground := Go.Ground.phase }, { on := 1, ground := Go.Ground.phase }, { on := 2, ground := Go.Ground.phase }, { on := 3, ground := Go.Ground.phase }, { on := 4, ground := Go.Ground.phase }, { on := 5, ground := Go.Ground.phase }, { on := 6, ground := Go.Ground.phase }, { on := 7, ground := Go.Ground.phase }, { on := 8, ground := Go.Ground.phase }, { on := 9, ground := Go.Ground.phase }], guard := none }) (v := .pointer (some ⟨G, q, none⟩)) rfl (by decide) (by kernel_rfl) (by kernel_rfl) (by kernel_rfl) (fun _ _ _ h => h) (Or.inl ⟨by rfl, by intro V9 hSw; (try dsimp only at hSw); go_simp⟩) HS1.out ?_
      try simp only [Act.put, List.setIfInBounds_toArray, List.set_cons_zero, List.set_cons_succ]
      have hrow := (HS1.out.block _ (lt_of_block HI2.out.row)).trans HI2.out.row
      have c5 := row_cell hrow (j := q) (by rw [hsl]; exact HqL.out)
      have f5 : X1.frozen? ⟨G, q, none⟩ = false := frozen_row hrow
      have Hp := Lib.hid (row_put hrow q (ov + sh))
      have Hk := Lib.hid (keeps_setCell X1 G q (.int .i64 (ov + sh)))
      clear hrow
      refine anyR_one (i := 11) (o := { dst := none, op := Go.Op.store 2 (Go.Operand.tmp 44) (Go.Operand.tmp 43), type := 0, pos := "chart.go:150", after := #[{ on := 10, ground := Go.Ground.data }, { on := 9, ground := Go.Ground.data }, { on := 8, ground := Go.Ground.chain }, { on := 0, ground := Go.Ground.phase }, { on := 1, ground := Go.Ground.phase }, { on := 2, ground := Go.Ground.phase }, { on := 3, ground := Go.Ground.phase }, { on := 4, ground := Go.Ground.phase }, { on := 5, ground := Go.Ground.phase }, { on := 6, ground := Go.Ground.phase }, { on := 7, ground := Go.Ground.phase }, { on := 8, ground := Go.Ground.phase }, { on := 9, ground := Go.Ground.phase }], guard := none }) (by kernel_rfl) rfl (by rfl) ?_
      intro K hK
      have HKK := Lib.hid hK
      clear hK
      gi_wp2_with fail
      refine HKK.out _ _ (fun h _ => absurd rfl h) ?_
      clear HKK K c5 f5
      try simp only [Act.put, List.setIfInBounds_toArray, List.set_cons_zero, List.set_cons_succ]
      refine anyR_done (by kernel_rfl) ?_ _
      gi_wp2_with fail
      have hk1 : Keeps (fun k => k = G) W2 (X1.setCell ⟨G, q, none⟩ (.int .i64 (ov + sh))) := (Keeps.of_new HS1.out).trans Hk.out
      refine ⟨O, Grow.refl _ _ _, hk1.mono (fun k _ e => .inl e), ?_⟩
      show GdI G w3 (smK nm L m h (pre ++ [x])) _
      rw [Hsn.out]
      exact ⟨Hp.out, HI2.out.keep.trans (hk1.mono (fun k _ e => .inr e))⟩
    case done =>
      intro D2 W9 O hD2 hDW hDO hO hI9 hKd
      have hk9 := hI9.keep
      obtain ⟨s, hs⟩ : ∃ s, smK nm L m h (mtS nm L) = s := ⟨_, rfl⟩
      have hrow9 := hI9.row
      rw [hs] at hrow9
      have hsl : s.length = ll := by rw [← hs, smK_len]; exact HLl.out
      have Hgr := Lib.hid (show grS nm L m h = s.map (grV (allK (mtS nm L) m).2) by unfold grS; rw [hs])
      have hbw2 : Below w.heap.size w W9 := HBw.out.trans (hk9.below HBw.out.size (fun k hk e => by have := HBw.out.size; have := HT2.out; have := HNe.out; omega))
      have hV2 := HV.out.below hbw2 (Nat.le_refl _)
      have v0 := hV2.c0
      obtain ⟨b6, b7⟩ := Cht.c6 hV2.fwd
      obtain ⟨al, hal⟩ : ∃ al, (allK (mtS nm L) m).2 = al := ⟨_, rfl⟩
      rw [hal] at b7 Hgr
      have hltw := lt_of_block EV.out
      have hltt := lt_of_block ET.out
      have h9 := (hk9.block _ hltw (by have := HNe.out; show ¬ (_ ∨ _); omega)).trans EV.out
      have h11 := (hk9.block _ hltt (by have := HNe.out; show ¬ (_ ∨ _); omega)).trans ET.out
      have t2 : W9.cell? ⟨T2, 0, none⟩ = some (.pointer (some ⟨Vp, 0, none⟩)) := by rw [cell_row h9]; rfl
      have t5 : W9.cell? ⟨T5, 0, none⟩ = some (.slice (some ⟨G, 0, none⟩) ll ll) := by rw [cell_row h11]; rfl
      have HRow := Lib.hid hrow9
      have HKd := Lib.hid hKd
      have HBf := Lib.hid hbw2
      have HDw := Lib.hid (show w.heap.size ≤ D2 from Nat.le_trans HBw.out.size hD2)
      have Hsl := Lib.hid hsl
      have HC := Lib.hid (show W9.cell? ⟨T2, 0, none⟩ = some (.pointer (some ⟨Vp, 0, none⟩)) ∧ W9.cell? ⟨Vp, 0, none⟩ = some (.pointer (some ⟨Cf, 0, none⟩)) ∧ W9.cell? ⟨Cf, 7, none⟩ = some (.int .i64 al) from ⟨t2, v0, b7⟩)
      clear hk9 hs hrow9 hbw2 hV2 b6 hal h9 h11 hI9 hKd hO hDO hD2 hDW hltw hltt hGl v0 t2 b7
      gi_wp2_with fail
      gi_loopw [7, 9, 47] (fun v x i wr => ∃ k : Nat, k ≤ ll ∧ i = .int .i64 (k : Int) ∧ Hid (wr.ownsRow 0 3 1 v k (flatI ((s.take k).map (grV al))) ∧ (∀ g, v.ownBlock = some g → W9.heap.size ≤ g) ∧ Below W9.heap.size W9 wr)) (fun v x i _ => ll - (intOf i).toNat)
      case atStart => exact ⟨0, Nat.zero_le _, rfl, Lib.hid ⟨⟨rfl, .inl ⟨rfl, rfl⟩⟩, fun g e => (by cases e), Below.refl _ _⟩⟩
      case round =>
        obtain ⟨k, hk, rfl, HI⟩ := hrel
        obtain ⟨wq, rfl⟩ : ∃ wq, wq = wr := ⟨_, rfl⟩
        by_cases hlt : k < ll
        · obtain ⟨ho, hob, hbl⟩ := HI.out
          obtain ⟨c2, c0, c7⟩ := HC.out
          replace c2 := (hbl.cell (lt_of_cell c2)).trans c2
          replace c0 := (hbl.cell (lt_of_cell c0)).trans c0
          replace c7 := (hbl.cell (lt_of_cell c7)).trans c7
          have y0 := row_cell ((hbl.block _ (lt_of_block HRow.out)).trans HRow.out) (j := k) (by rw [Hsl.out]; exact hlt)
          have htk : (s.take (k + 1)).map (grV al) = (s.take k).map (grV al) ++ [grV al (iAt s k)] := by
            rw [List.take_succ_eq_append_getElem (by rw [Hsl.out]; exact hlt), List.map_append, iAt_eq (by rw [Hsl.out]; exact hlt)]; rfl
          obtain ⟨sv, hsv⟩ : ∃ sv, iAt s k = sv := ⟨_, rfl⟩
          rw [hsv] at y0 htk
          obtain ⟨ys, hys⟩ : ∃ ys, (s.take k).map (grV al) = ys := ⟨_, rfl⟩
          rw [hys] at ho htk
          have key : ∀ g : Int, grV al sv = g → ∃ C c W', runA Try.prog 38 u7 (.slice (some ⟨wq.heap.size, 0, none⟩) 1 1) (wq.alloc (.cells #[.int .i64 g] 3)) = .ok (.value (.slice C (k + 1) c)) W' ∧ Hid (W'.ownsRow 0 3 1 (.slice C (k + 1) c) (k + 1) (flatI ((s.take (k + 1)).map (grV al))) ∧ (∀ g, (Value.slice C (k + 1) c).ownBlock = some g → W9.heap.size ≤ g) ∧ Below W9.heap.size W9 W') := fun g hg => by
            obtain ⟨C, c, W', r1, r2, r3, r4⟩ := app_int ho g (by omega)
            have hsz := hbl.size
            refine ⟨C, c, W', r1, Lib.hid ⟨by rw [htk, hg]; exact r2, fun g2 e => ?_, hbl.trans (r3.below hsz (fun q hq e => by have := hob q e; omega))⟩⟩
            rcases r4 g2 e with e | e
            · exact hob g2 e
            · omega
          have Key := Lib.hid key
          have i0 : (0 : Int) ≤ (k : Int) := by omega
          have i1 : (k : Int) < (ll : Int) := by omega
          clear ho hob hbl htk hsv hys key HI
          by_cases hz : sv = 0
          · subst hz
            obtain ⟨C, c, W', hrun, HN⟩ := Key.out 0 (by unfold grV; rw [if_pos rfl])
            clear Key
            gi_wp2_with fail
            try rw [hrun]
            try gi_wp2_with fail
            go_roundw
            case rel => exact ⟨k + 1, by omega, by go_num, HN⟩
            case measure => simp [intOf]; omega
          · have d1 : (sv == 0) = false := by rw [beq_eq_false_iff_ne]; exact hz
            by_cases hal : sv = al
            · subst hal
              obtain ⟨C, c, W', hrun, HN⟩ := Key.out 2 (by unfold grV; rw [if_neg hz, if_pos rfl])
              clear Key
              gi_wp2_with fail
              try rw [hrun]
              try gi_wp2_with fail
              go_roundw
              case rel => exact ⟨k + 1, by omega, by go_num, HN⟩
              case measure => simp [intOf]; omega
            · have d2 : (sv == al) = false := by rw [beq_eq_false_iff_ne]; exact hal
              obtain ⟨C, c, W', hrun, HN⟩ := Key.out 1 (by unfold grV; rw [if_neg hz, if_neg hal])
              clear Key
              gi_wp2_with fail
              try rw [hrun]
              try gi_wp2_with fail
              go_roundw
              case rel => exact ⟨k + 1, by omega, by go_num, HN⟩
              case measure => simp [intOf]; omega
        · obtain rfl : k = ll := by omega
          obtain ⟨ho, hob, hbl⟩ := HI.out
          rw [List.take_of_length_le (by rw [Hsl.out]; exact Nat.le_refl _), ← Hgr.out] at ho
          have hgl : (grS nm L m h).length = k := by rw [Hgr.out, List.length_map, Hsl.out]
          obtain ⟨C9, c9, rfl, hc9, hi9, hC9⟩ := ints_own hgl ho
          have HI9 := Lib.hid hi9
          have HObs := Lib.hid (show ∀ b o, C9 = some ⟨b, o, none⟩ → W9.heap.size ≤ b from fun b o e => hob b (hC9 b o e).1)
          have hlD := lt_of_block HKd.out
          have HKd2 := Lib.hid ((hbl.block _ hlD).trans HKd.out)
          have HDl := Lib.hid hlD
          have HBl := Lib.hid (HBf.out.trans (hbl.mono HBf.out.size))
          clear ho hob hbl hgl hi9 hC9 HI hlD
          gi_wp2_with fail
          refine ⟨by simp, .inl ⟨_, _, rfl, run_takeDeferred HKd2.out, ?_⟩⟩
          have hput : Keeps (fun j => j = D2) wq (wq.putObj D2 (.deferred none)) := Keeps.putObj _ _ _ rfl
          refine ⟨_, results_tmp rfl _ _ _, ?_⟩
          refine ⟨C9, c9, by rw [HLl.out]; rfl, by rw [HLl.out]; exact hc9, ?_, HBl.out.trans (hput.below HBl.out.size (fun q hq e => by have := HDw.out; have e : q = D2 := e; omega))⟩
          rw [HLl.out]
          exact HI9.out.keep hput (fun b o e e2 => by have := HObs.out b o e; have := HDl.out; have e2 : b = D2 := e2; omega)
  have HRest := Lib.hid Hrest
  clear Hrest hK0
  have hmk := fun W => make129 ll (by omega) W
  have hS0 : Below V1.heap.size V1 V1.drew := drew_b _ 1
  refine Code.wpIn_mono (Q := Exit.then K0 (fun _ _ _ => False)) (fun e a w h => by
    cases e with
    | normal => exact h
    | ret => exact h.elim
    | exit id => exact h.elim
    | goto l => exact h.elim
    | panic c => exact h.elim
    | outgrown => exact h.elim) ?_
  refine Out.region_R (z := 100) (S := fun V9 => Below V1.heap.size V1 V9) (by kernel_rfl) ?_
  refine Out.anyR_take (i := 0) (oi := { dst := some 10, op := Go.Op.load 98 (Go.Operand.tmp 2), type := 98, pos := "chart.go:148", after := #[], guard := none }) (v := .pointer (some ⟨Vp, 0, none⟩)) rfl (by decide) (by kernel_rfl) (by kernel_rfl) (by kernel_rfl) (by kernel_rfl) (fun _ _ _ h => h) (Or.inl ⟨by rfl, by intro V9 hSw; (try dsimp only at hSw); have q_g2 := (hSw.cell (lt_of_cell g2)).trans g2; go_simp⟩) hS0 ?_
  try simp only [Act.put, List.setIfInBounds_toArray, List.set_cons_zero, List.set_cons_succ]
  refine Out.anyR_take (i := 1) (oi := { dst := some 11, op := Go.Op.nilCheck (Go.Operand.tmp 10), type := 0, pos := "chart.go:148", after := #[{ on := 0, ground := Go.Ground.data }], guard := none }) (v := .pointer (some ⟨Vp, 0, none⟩)) rfl (by decide) (by kernel_rfl) (by kernel_rfl) (by kernel_rfl) (by kernel_rfl) (fun _ _ _ h => h) (Or.inl ⟨by rfl, by intro V9 hSw; (try dsimp only at hSw); go_simp⟩) hS0 ?_
  try simp only [Act.put, List.setIfInBounds_toArray, List.set_cons_zero, List.set_cons_succ]
  refine Out.anyR_take (i := 2) (oi := { dst := some 12, op := Go.Op.fieldAddr 124 (Go.Operand.tmp 11) 0, type := 0, pos := "chart.go:148", after := #[{ on := 1, ground := Go.Ground.data }], guard := none }) (v := .pointer (some ⟨Vp, 0, none⟩)) rfl (by decide) (by kernel_rfl) (by kernel_rfl) (by kernel_rfl) (by kernel_rfl) (fun _ _ _ h => h) (Or.inl ⟨by rfl, by intro V9 hSw; (try dsimp only at hSw); go_simp⟩) hS0 ?_
  try simp only [Act.put, List.setIfInBounds_toArray, List.set_cons_zero, List.set_cons_succ]
  refine Out.anyR_take (i := 3) (oi := { dst := some 13, op := Go.Op.load 86 (Go.Operand.tmp 12), type := 86, pos := "chart.go:148", after := #[{ on := 2, ground := Go.Ground.data }], guard := none }) (v := .pointer (some ⟨Cf, 0, none⟩)) rfl (by decide) (by kernel_rfl) (by kernel_rfl) (by kernel_rfl) (by kernel_rfl) (fun _ _ _ h => h) (Or.inl ⟨by rfl, by intro V9 hSw; (try dsimp only at hSw); have q_v0 := (hSw.cell (lt_of_cell v0)).trans v0; go_simp⟩) hS0 ?_
  try simp only [Act.put, List.setIfInBounds_toArray, List.set_cons_zero, List.set_cons_succ]
  refine Out.anyR_take (i := 4) (oi := { dst := some 14, op := Go.Op.nilCheck (Go.Operand.tmp 13), type := 0, pos := "chart.go:148", after := #[{ on := 3, ground := Go.Ground.data }], guard := none }) (v := .pointer (some ⟨Cf, 0, none⟩)) rfl (by decide) (by kernel_rfl) (by kernel_rfl) (by kernel_rfl) (by kernel_rfl) (fun _ _ _ h => h) (Or.inl ⟨by rfl, by intro V9 hSw; (try dsimp only at hSw); go_simp⟩) hS0 ?_
  try simp only [Act.put, List.setIfInBounds_toArray, List.set_cons_zero, List.set_cons_succ]
  refine Out.anyR_take (i := 5) (oi := { dst := some 15, op := Go.Op.fieldAddr 93 (Go.Operand.tmp 14) 0, type := 0, pos := "chart.go:148", after := #[{ on := 4, ground := Go.Ground.data }], guard := none }) (v := .pointer (some ⟨Cf, 0, none⟩)) rfl (by decide) (by kernel_rfl) (by kernel_rfl) (by kernel_rfl) (by kernel_rfl) (fun _ _ _ h => h) (Or.inl ⟨by rfl, by intro V9 hSw; (try dsimp only at hSw); go_simp⟩) hS0 ?_
  try simp only [Act.put, List.setIfInBounds_toArray, List.set_cons_zero, List.set_cons_succ]
  refine Out.anyR_take (i := 6) (oi := { dst := some 16, op := Go.Op.load 72 (Go.Operand.tmp 15), type := 72, pos := "chart.go:148", after := #[{ on := 5, ground := Go.Ground.data }], guard := none }) (v := .pointer (some ⟨B, 0, none⟩)) rfl (by decide) (by kernel_rfl) (by kernel_rfl) (by kernel_rfl) (by kernel_rfl) (fun _ _ _ h => h) (Or.inl ⟨by rfl, by intro V9 hSw; (try dsimp only at hSw); have q_b0 := (hSw.cell (lt_of_cell b0)).trans b0; go_simp⟩) hS0 ?_
  try simp only [Act.put, List.setIfInBounds_toArray, List.set_cons_zero, List.set_cons_succ]
  refine Out.anyR_take (i := 7) (oi := { dst := some 17, op := Go.Op.nilCheck (Go.Operand.tmp 16), type := 0, pos := "chart.go:148", after := #[{ on := 6, ground := Go.Ground.data }], guard := none }) (v := .pointer (some ⟨B, 0, none⟩)) rfl (by decide) (by kernel_rfl) (by kernel_rfl) (by kernel_rfl) (by kernel_rfl) (fun _ _ _ h => h) (Or.inl ⟨by rfl, by intro V9 hSw; (try dsimp only at hSw); go_simp⟩) hS0 ?_
  try simp only [Act.put, List.setIfInBounds_toArray, List.set_cons_zero, List.set_cons_succ]
  refine Out.anyR_take (i := 8) (oi := { dst := some 18, op := Go.Op.fieldAddr 112 (Go.Operand.tmp 17) 1, type := 0, pos := "chart.go:148", after := #[{ on := 7, ground := Go.Ground.data }], guard := none }) (v := .pointer (some ⟨B, 1, none⟩)) rfl (by decide) (by kernel_rfl) (by kernel_rfl) (by kernel_rfl) (by kernel_rfl) (fun _ _ _ h => h) (Or.inl ⟨by rfl, by intro V9 hSw; (try dsimp only at hSw); go_simp⟩) hS0 ?_
  try simp only [Act.put, List.setIfInBounds_toArray, List.set_cons_zero, List.set_cons_succ]
  refine Out.anyR_take (i := 9) (oi := { dst := some 19, op := Go.Op.load 25 (Go.Operand.tmp 18), type := 25, pos := "chart.go:148", after := #[{ on := 8, ground := Go.Ground.data }], guard := none }) (v := .slice (some ⟨bl, ol, none⟩) m cap2) rfl (by decide) (by kernel_rfl) (by kernel_rfl) (by kernel_rfl) (by kernel_rfl) (fun _ _ _ h => h) (Or.inl ⟨by rfl, by intro V9 hSw; (try dsimp only at hSw); have q_b1 := (hSw.cell (lt_of_cell b1)).trans b1; go_simp⟩) hS0 ?_
  try simp only [Act.put, List.setIfInBounds_toArray, List.set_cons_zero, List.set_cons_succ]
  refine Out.anyR_take (i := 10) (oi := { dst := some 20, op := Go.Op.load 3 (Go.Operand.tmp 3), type := 3, pos := "chart.go:148", after := #[], guard := none }) (v := .int .i64 (h : Int)) rfl (by decide) (by kernel_rfl) (by kernel_rfl) (by kernel_rfl) (by kernel_rfl) (fun _ _ _ h => h) (Or.inl ⟨by rfl, by intro V9 hSw; (try dsimp only at hSw); have q_g3 := (hSw.cell (lt_of_cell g3)).trans g3; go_simp⟩) hS0 ?_
  try simp only [Act.put, List.setIfInBounds_toArray, List.set_cons_zero, List.set_cons_succ]
  refine Out.anyR_take (i := 11) (oi := { dst := some 21, op := Go.Op.indexAddr 25 (Go.Operand.tmp 19) (Go.Operand.tmp 20), type := 0, pos := "chart.go:148", after := #[{ on := 9, ground := Go.Ground.data }, { on := 10, ground := Go.Ground.data }], guard := none }) (v := .pointer (some ⟨bl, ol + h, none⟩)) rfl (by decide) (by kernel_rfl) (by kernel_rfl) (by kernel_rfl) (by kernel_rfl) (fun _ _ _ h => h) (Or.inl ⟨by rfl, by intro V9 hSw; (try dsimp only at hSw); go_simp⟩) hS0 ?_
  try simp only [Act.put, List.setIfInBounds_toArray, List.set_cons_zero, List.set_cons_succ]
  refine Out.anyR_take (i := 12) (oi := { dst := some 22, op := Go.Op.load 38 (Go.Operand.tmp 21), type := 38, pos := "chart.go:148", after := #[{ on := 11, ground := Go.Ground.data }], guard := none }) (v := .slice Ch ll ch) rfl (by decide) (by kernel_rfl) (by kernel_rfl) (by kernel_rfl) (by kernel_rfl) (fun _ _ _ h => h) (Or.inl ⟨by rfl, by intro V9 hSw; (try dsimp only at hSw); have q_l0 := (hSw.cell (lt_of_cell l0)).trans l0; go_simp⟩) hS0 ?_
  try simp only [Act.put, List.setIfInBounds_toArray, List.set_cons_zero, List.set_cons_succ]
  refine Out.anyR_take (i := 13) (oi := { dst := some 23, op := Go.Op.call { callee := Go.Callee.builtin Go.Builtin.len, args := #[Go.Operand.tmp 22], argTypes := #[38] }, type := 3, pos := "chart.go:148", after := #[{ on := 12, ground := Go.Ground.data }], guard := none }) (v := .int .i64 (ll : Int)) rfl (by decide) (by kernel_rfl) (by kernel_rfl) (by kernel_rfl) (by kernel_rfl) (fun _ _ _ h => h) (Or.inl ⟨by rfl, by intro V9 hSw; (try dsimp only at hSw); go_simp⟩) hS0 ?_
  try simp only [Act.put, List.setIfInBounds_toArray, List.set_cons_zero, List.set_cons_succ]
  obtain ⟨X0, hX0⟩ : ∃ X0, V1.drew = X0 := ⟨_, rfl⟩
  rw [hX0] at hS0 ⊢
  have HS0 := Lib.hid hS0
  clear hX0 hS0 g2 g3 v0 b0 b1 l0
  refine Out.anyR_two (i := 14) (j := 15) (oi := { dst := some 24, op := Go.Op.makeSlice 129 (Go.Operand.tmp 23) (Go.Operand.tmp 23), type := 129, pos := "chart.go:148", after := #[{ on := 13, ground := Go.Ground.data }, { on := 13, ground := Go.Ground.data }], guard := none }) (oj := { dst := some 5, op := Go.Op.alloc 129, type := 0, pos := "chart.go:148", after := #[], guard := none }) (by kernel_rfl) rfl rfl (by rfl) (by rfl) ?makeFirst ?allocFirst
  case makeFirst =>
    intro K hK
    have HKK := Lib.hid hK
    clear hK
    gi_wp2_with fail
    have hb9 := below_alloc_ X0 (.cells (flatI (List.replicate ll 0)).toArray 2)
    have hr9 := heap_alloc_new_ X0 (.cells (flatI (List.replicate ll 0)).toArray 2)
    obtain ⟨X1, hW⟩ : ∃ W2, X0.alloc (.cells (flatI (List.replicate ll 0)).toArray 2) = W2 := ⟨_, rfl⟩
    obtain ⟨G, hG⟩ : ∃ G, X0.heap.size = G := ⟨_, rfl⟩
    have HGs := Lib.hid (show X0.heap.size = G from hG)
    rw [hW] at hb9 hr9 ⊢
    rw [hG] at hr9 ⊢
    have HS1 := Lib.hid (HS0.out.trans (hb9.mono HS0.out.size))
    have HG := Lib.hid hr9
    refine HKK.out _ _ (fun _ _ => HS1.out) ?_
    clear HKK K hb9 hr9 hW hG
    try simp only [Act.put, List.setIfInBounds_toArray, List.set_cons_zero, List.set_cons_succ]
    refine Out.anyR_one (i := 15) (o := { dst := some 5, op := Go.Op.alloc 129, type := 0, pos := "chart.go:148", after := #[], guard := none }) (by kernel_rfl) rfl (by rfl) ?_
    intro K hK
    have HKK := Lib.hid hK
    clear hK
    gi_wp2_with fail
    have hb9 := below_alloc_ X1 (.cells #[.slice none 0 0] 129)
    have hr9 := heap_alloc_new_ X1 (.cells #[.slice none 0 0] 129)
    obtain ⟨X2, hW⟩ : ∃ W2, X1.alloc (.cells #[.slice none 0 0] 129) = W2 := ⟨_, rfl⟩
    obtain ⟨T5, hT5⟩ : ∃ T5, X1.heap.size = T5 := ⟨_, rfl⟩
    have HTs := Lib.hid (show X1.heap.size = T5 from hT5)
    rw [hW] at hb9 hr9 ⊢
    rw [hT5] at hr9 ⊢
    have HS2 := Lib.hid (HS1.out.trans (hb9.mono HS1.out.size))
    have HT := Lib.hid hr9
    refine HKK.out _ _ (fun _ _ => HS2.out) ?_
    have HG2 := Lib.hid ((hb9.block _ (lt_of_block HG.out)).trans HG.out)
    have HTg := Lib.hid (show V1.heap.size ≤ G ∧ V1.heap.size ≤ T5 ∧ G ≠ T5 from ⟨by rw [← HGs.out]; exact HS0.out.size, by rw [← HTs.out]; exact HS1.out.size, by have := lt_of_block HG.out; have := HTs.out; omega⟩)
    clear HKK K hb9 hr9 hW hT5
    replace HG := HG2
    try simp only [Act.put, List.setIfInBounds_toArray, List.set_cons_zero, List.set_cons_succ]
    have hT := HT.out
    have c5 : X2.cell? ⟨T5, 0, none⟩ = some (.slice none 0 0) := by rw [cell_row hT]; rfl
    have f5 : X2.frozen? ⟨T5, 0, none⟩ = false := frozen_row hT
    have Hrow := Lib.hid (set_same 0 (.slice (some ⟨G, 0, none⟩) ll ll) hT)
    have HkS := Lib.hid (keeps_setCell X2 T5 0 (.slice (some ⟨G, 0, none⟩) ll ll))
    clear hT
    refine Out.anyR_one (i := 16) (o := { dst := none, op := Go.Op.store 129 (Go.Operand.tmp 5) (Go.Operand.tmp 24), type := 0, pos := "chart.go:148", after := #[{ on := 15, ground := Go.Ground.data }, { on := 14, ground := Go.Ground.data }, { on := 0, ground := Go.Ground.phase }, { on := 1, ground := Go.Ground.phase }, { on := 2, ground := Go.Ground.phase }, { on := 3, ground := Go.Ground.phase }, { on := 4, ground := Go.Ground.phase }, { on := 5, ground := Go.Ground.phase }, { on := 6, ground := Go.Ground.phase }, { on := 7, ground := Go.Ground.phase }, { on := 8, ground := Go.Ground.phase }, { on := 9, ground := Go.Ground.phase }, { on := 10, ground := Go.Ground.phase }, { on := 11, ground := Go.Ground.phase }, { on := 12, ground := Go.Ground.phase }, { on := 13, ground := Go.Ground.phase }, { on := 14, ground := Go.Ground.phase }, { on := 15, ground := Go.Ground.phase }], guard := none }) (by kernel_rfl) rfl (by rfl) ?_
    intro K hK
    have HKK := Lib.hid hK
    clear hK
    gi_wp2_with fail
    have hrow := Hrow.out
    have hkS := HkS.out
    obtain ⟨X3, hX3⟩ : ∃ X3, X2.setCell ⟨T5, 0, none⟩ (.slice (some ⟨G, 0, none⟩) ll ll) = X3 := ⟨_, rfl⟩
    rw [hX3] at hrow hkS ⊢
    have HS3 := Lib.hid (HS2.out.trans (hkS.below HS2.out.size (fun q hq e => by have e : q = T5 := e; have := HTg.out.2.1; omega)))
    have HG3 := Lib.hid ((hkS.block _ (lt_of_block HG.out) HTg.out.2.2).trans HG.out)
    refine HKK.out _ _ (fun _ _ => HS3.out) ?_
    clear HKK K c5 f5
    try simp only [Act.put, List.setIfInBounds_toArray, List.set_cons_zero, List.set_cons_succ]
    refine Out.anyR_done (by kernel_rfl) ?_ _
    exact HRest.out G T5 X3 HG3.out hrow HS3.out HTg.out.1 HTg.out.2.1 HTg.out.2.2
  case allocFirst =>
    intro K hK
    have HKK := Lib.hid hK
    clear hK
    gi_wp2_with fail
    have hb9 := below_alloc_ X0 (.cells #[.slice none 0 0] 129)
    have hr9 := heap_alloc_new_ X0 (.cells #[.slice none 0 0] 129)
    obtain ⟨X1, hW⟩ : ∃ W2, X0.alloc (.cells #[.slice none 0 0] 129) = W2 := ⟨_, rfl⟩
    obtain ⟨T5, hT5⟩ : ∃ T5, X0.heap.size = T5 := ⟨_, rfl⟩
    have HTs := Lib.hid (show X0.heap.size = T5 from hT5)
    rw [hW] at hb9 hr9 ⊢
    rw [hT5] at hr9 ⊢
    have HS1 := Lib.hid (HS0.out.trans (hb9.mono HS0.out.size))
    have HT := Lib.hid hr9
    refine HKK.out _ _ (fun _ _ => HS1.out) ?_
    clear HKK K hb9 hr9 hW hT5
    try simp only [Act.put, List.setIfInBounds_toArray, List.set_cons_zero, List.set_cons_succ]
    refine Out.anyR_one (i := 14) (o := { dst := some 24, op := Go.Op.makeSlice 129 (Go.Operand.tmp 23) (Go.Operand.tmp 23), type := 129, pos := "chart.go:148", after := #[{ on := 13, ground := Go.Ground.data }, { on := 13, ground := Go.Ground.data }], guard := none }) (by kernel_rfl) rfl (by rfl) ?_
    intro K hK
    have HKK := Lib.hid hK
    clear hK
    gi_wp2_with fail
    have hb9 := below_alloc_ X1 (.cells (flatI (List.replicate ll 0)).toArray 2)
    have hr9 := heap_alloc_new_ X1 (.cells (flatI (List.replicate ll 0)).toArray 2)
    obtain ⟨X2, hW⟩ : ∃ W2, X1.alloc (.cells (flatI (List.replicate ll 0)).toArray 2) = W2 := ⟨_, rfl⟩
    obtain ⟨G, hG⟩ : ∃ G, X1.heap.size = G := ⟨_, rfl⟩
    have HGs := Lib.hid (show X1.heap.size = G from hG)
    rw [hW] at hb9 hr9 ⊢
    rw [hG] at hr9 ⊢
    have HS2 := Lib.hid (HS1.out.trans (hb9.mono HS1.out.size))
    have HG := Lib.hid hr9
    refine HKK.out _ _ (fun _ _ => HS2.out) ?_
    have HT2' := Lib.hid ((hb9.block _ (lt_of_block HT.out)).trans HT.out)
    have HTg := Lib.hid (show V1.heap.size ≤ G ∧ V1.heap.size ≤ T5 ∧ G ≠ T5 from ⟨by rw [← HGs.out]; exact HS1.out.size, by rw [← HTs.out]; exact HS0.out.size, by have := lt_of_block HT.out; have := HGs.out; omega⟩)
    clear HKK K hb9 hr9 hW hG
    replace HT := HT2'
    try simp only [Act.put, List.setIfInBounds_toArray, List.set_cons_zero, List.set_cons_succ]
    have hT := HT.out
    have c5 : X2.cell? ⟨T5, 0, none⟩ = some (.slice none 0 0) := by rw [cell_row hT]; rfl
    have f5 : X2.frozen? ⟨T5, 0, none⟩ = false := frozen_row hT
    have Hrow := Lib.hid (set_same 0 (.slice (some ⟨G, 0, none⟩) ll ll) hT)
    have HkS := Lib.hid (keeps_setCell X2 T5 0 (.slice (some ⟨G, 0, none⟩) ll ll))
    clear hT
    refine Out.anyR_one (i := 16) (o := { dst := none, op := Go.Op.store 129 (Go.Operand.tmp 5) (Go.Operand.tmp 24), type := 0, pos := "chart.go:148", after := #[{ on := 15, ground := Go.Ground.data }, { on := 14, ground := Go.Ground.data }, { on := 0, ground := Go.Ground.phase }, { on := 1, ground := Go.Ground.phase }, { on := 2, ground := Go.Ground.phase }, { on := 3, ground := Go.Ground.phase }, { on := 4, ground := Go.Ground.phase }, { on := 5, ground := Go.Ground.phase }, { on := 6, ground := Go.Ground.phase }, { on := 7, ground := Go.Ground.phase }, { on := 8, ground := Go.Ground.phase }, { on := 9, ground := Go.Ground.phase }, { on := 10, ground := Go.Ground.phase }, { on := 11, ground := Go.Ground.phase }, { on := 12, ground := Go.Ground.phase }, { on := 13, ground := Go.Ground.phase }, { on := 14, ground := Go.Ground.phase }, { on := 15, ground := Go.Ground.phase }], guard := none }) (by kernel_rfl) rfl (by rfl) ?_
    intro K hK
    have HKK := Lib.hid hK
    clear hK
    gi_wp2_with fail
    have hrow := Hrow.out
    have hkS := HkS.out
    obtain ⟨X3, hX3⟩ : ∃ X3, X2.setCell ⟨T5, 0, none⟩ (.slice (some ⟨G, 0, none⟩) ll ll) = X3 := ⟨_, rfl⟩
    rw [hX3] at hrow hkS ⊢
    have HS3 := Lib.hid (HS2.out.trans (hkS.below HS2.out.size (fun q hq e => by have e : q = T5 := e; have := HTg.out.2.1; omega)))
    have HG3 := Lib.hid ((hkS.block _ (lt_of_block HG.out) HTg.out.2.2).trans HG.out)
    refine HKK.out _ _ (fun _ _ => HS3.out) ?_
    clear HKK K c5 f5
    try simp only [Act.put, List.setIfInBounds_toArray, List.set_cons_zero, List.set_cons_succ]
    refine Out.anyR_done (by kernel_rfl) ?_ _
    exact HRest.out G T5 X3 HG3.out hrow HS3.out HTg.out.1 HTg.out.2.1 HTg.out.2.2

end Go.Proofs.Ythdjbapidodlfaa
