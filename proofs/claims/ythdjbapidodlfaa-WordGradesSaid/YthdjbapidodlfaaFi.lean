/- Stage 4: the first one of the longest passages, in the program. -/
import Derived.Test.YthdjbapidodlfaaFp
namespace Go.Proofs.Ythdjbapidodlfaa
set_option linter.unusedSimpArgs false
set_option linter.unusedVariables false
open Go.RowKit Go.Shelf
attribute [local go_sem ↓] exec_app at_app
attribute [local go_sem] Oper.semAt_some

/-- The passage that grows. -/
def fstS (nm : List Int) (L : List (List Int)) (m : Nat) (pre : List (List Int)) : List (List Int) := pre.foldl (grd (bef m) (blv nm L m) (topK nm L m)) []
theorem fstS_snoc (nm : List Int) (L : List (List Int)) (m : Nat) (pre : List (List Int)) (x : List Int) : fstS nm L m (pre ++ [x]) = grd (bef m) (blv nm L m) (topK nm L m) (fstS nm L m pre) x := by simp [fstS, List.foldl_append]
theorem fstS_ok {nm : List Int} {L : List (List Int)} {m : Nat} (hL : LV L m) (pre : List (List Int)) : (∀ x ∈ pre, x ∈ mtS nm L) → (fstS nm L m pre).length ≤ topK nm L m ∧ ∀ x ∈ fstS nm L m pre, x ∈ mtS nm L := by
  obtain ⟨n, hn⟩ : ∃ n, pre.length = n := ⟨_, rfl⟩
  induction n generalizing pre with
  | zero => intro _; rw [List.length_eq_zero_iff.1 hn]; exact ⟨Nat.zero_le _, fun x hx => by simp [fstS] at hx⟩
  | succ n ih =>
    intro hp
    rcases List.eq_nil_or_concat pre with rfl | ⟨p, x, rfl⟩
    · simp at hn
    · rw [List.concat_eq_append] at hn hp ⊢
      have hx := hp x (by simp)
      obtain ⟨i1, i2⟩ := ih p (by rw [List.length_append] at hn; simpa using hn) (fun y hy => hp y (by simp [hy]))
      rw [fstS_snoc]
      unfold grd
      split
      · rename_i h
        have h1 := ((bS_lev (nm := nm) hL).one x hx).1
        refine ⟨by rw [List.length_append]; simp; omega, fun y hy => ?_⟩
        rcases List.mem_append.1 hy with h2 | h2
        · exact i2 y h2
        · rw [List.mem_singleton.1 h2]; exact hx
      · exact ⟨i1, i2⟩
/-- What the rounds keep. -/
structure FiI (T4 R K : Nat) (V : World) (g : List (List Int)) (W : World) : Prop where
  row : W.heap[T4]? = some (.cells #[.slice (some ⟨R, 0, none⟩) g.length K] 76 (0, 0))
  rm : Rm8 W R g
  keep : Keeps (fun k => V.heap.size ≤ k ∨ k = T4 ∨ k = R) V W
theorem FiI.abides {T4 R K : Nat} {V : World} (h4 : T4 < V.heap.size) (hR : R < V.heap.size) (g : List (List Int)) : AbO V.heap.size (fun _ W => FiI T4 R K V g W) := by
  intro O W1 W2 h hK
  exact ⟨(hK.block _ (lt_of_block h.row) (by omega)).trans h.row, h.rm.keep hK (by omega), h.keep.trans (hK.mono (fun k _ e => .inl e.1))⟩
theorem befB_take {a b : List Int} {m : Nat} : befB (a.take m) (b.take m) m = befB a b m := by
  have e : ∀ (l : List Int) i, i < m → iAt (l.take m) i = iAt l i := fun l i hi => by
    unfold iAt
    rw [List.getD_eq_getElem?_getD, List.getElem?_take_of_lt hi, ← List.getD_eq_getElem?_getD]
  apply bool_iff
  rw [befB_iff, befB_iff]
  constructor
  · intro h i hi; have := h i hi; rw [e a i hi, e b i hi] at this; exact this
  · intro h i hi; have := h i hi; rw [e a i hi, e b i hi]; exact this
theorem ext_last {g : List (List Int)} {m : Nat} {x : List Int} (hg : 0 < g.length) : ext (bef m) g x = befB (lAt g (g.length - 1)) x m := by
  unfold ext
  have h : g.getLast? = some (lAt g (g.length - 1)) := by
    rw [List.getLast?_eq_getElem?, lAt_eq (by omega)]
    exact List.getElem?_eq_getElem (by omega)
  rw [h]
  rfl
set_option maxRecDepth 100000 in
set_option maxHeartbeats 32000000 in
theorem first66 (B D : Nat) (A : Option Addr) (n cap : Nat) (nm : List Int) (M : Nat) (A2 : Option Addr) (m cap2 : Nat) (L : List (List Int)) (Vp Cf Cb Bt Me Me2 : Nat) (Ms Ms2 : Nat → Nat) (nn nn2 : Nat) (w : World) (hBo : Bo w B D A n cap nm M A2 m cap2 L) (hL : LV L m) (hV : Vw w Vp Cf Cb B Bt Me Me2 Ms Ms2 nn nn2 nm L m) :
    Calls Try.prog 66 #[.pointer (some ⟨Vp, 0, none⟩)] w fun e w' => ∃ R, e = .returned (.slice (some ⟨R, 0, none⟩) (fstS nm L m (mtS nm L)).length (topK nm L m)) ∧ (fstS nm L m (mtS nm L)).length ≤ topK nm L m ∧ Pls w' (some ⟨R, 0, none⟩) (fstS nm L m (mtS nm L)).length (fstS nm L m (mtS nm L)) ∧ Below w.heap.size w w' := by
  have HB := Lib.hid hBo
  have HL := Lib.hid hL
  have HV := Lib.hid hV
  have hal := all_nn (nm := nm) hL
  obtain ⟨K, hK⟩ : ∃ K, topK nm L m = K := ⟨_, rfl⟩
  have hKe : (allK (mtS nm L) m).1 = (K : Int) := by rw [← hK]; unfold topK; omega
  have hK8 : K ≤ 8 := by
    rw [← hK]
    rcases (top_ok (nm := nm) hL).2 with h | ⟨x, hx, h⟩
    · omega
    · rw [← h]
      have hlo := hL.lo
      have h1 := eS_pos (mtS_nodup (nm := nm) hL) (by omega) hL.hi (mtS_wpl (nm := nm) hL) hx
      have h2 := ((mem_mtS hL x).1 hx).rng 0 (by omega)
      have h3 := hL.le8 0 (by omega)
      unfold lv
      omega
  have HK := Lib.hid hK
  have HKe := Lib.hid hKe
  have hsl := fun W R => slice125 R K hK8 W
  have k1 : Keeps (fun _ => False) w ((w.alloc (.cells #[.pointer (some ⟨Vp, 0, none⟩)] 98)).alloc (.cells #[.int .i64 0, .int .i64 0, .int .i64 0, .int .i64 0, .int .i64 0, .int .i64 0, .int .i64 0, .int .i64 0, .int .i64 0, .int .i64 0, .int .i64 0, .int .i64 0, .int .i64 0, .int .i64 0, .int .i64 0, .int .i64 0, .int .i64 0, .int .i64 0, .int .i64 0, .int .i64 0, .int .i64 0, .int .i64 0, .int .i64 0, .int .i64 0, .int .i64 0, .int .i64 0, .int .i64 0, .int .i64 0, .int .i64 0, .int .i64 0, .int .i64 0, .int .i64 0] 125)) := (keep_alloc _ _ _).trans (keep_alloc _ _ _)
  have hv1 := hV.below k1.new (Nat.le_refl _)
  have v0 := hv1.c0
  obtain ⟨b6, b7⟩ := Cht.c6 hv1.fwd
  rw [hKe] at b6
  have e1 : ((w.alloc (.cells #[.pointer (some ⟨Vp, 0, none⟩)] 98)).alloc (.cells #[.int .i64 0, .int .i64 0, .int .i64 0, .int .i64 0, .int .i64 0, .int .i64 0, .int .i64 0, .int .i64 0, .int .i64 0, .int .i64 0, .int .i64 0, .int .i64 0, .int .i64 0, .int .i64 0, .int .i64 0, .int .i64 0, .int .i64 0, .int .i64 0, .int .i64 0, .int .i64 0, .int .i64 0, .int .i64 0, .int .i64 0, .int .i64 0, .int .i64 0, .int .i64 0, .int .i64 0, .int .i64 0, .int .i64 0, .int .i64 0, .int .i64 0, .int .i64 0] 125)).heap[w.heap.size]? = some (.cells #[.pointer (some ⟨Vp, 0, none⟩)] 98 (0, 0)) := hal_old (heap_alloc_new_ _ _)
  have e3 : ((w.alloc (.cells #[.pointer (some ⟨Vp, 0, none⟩)] 98)).alloc (.cells #[.int .i64 0, .int .i64 0, .int .i64 0, .int .i64 0, .int .i64 0, .int .i64 0, .int .i64 0, .int .i64 0, .int .i64 0, .int .i64 0, .int .i64 0, .int .i64 0, .int .i64 0, .int .i64 0, .int .i64 0, .int .i64 0, .int .i64 0, .int .i64 0, .int .i64 0, .int .i64 0, .int .i64 0, .int .i64 0, .int .i64 0, .int .i64 0, .int .i64 0, .int .i64 0, .int .i64 0, .int .i64 0, .int .i64 0, .int .i64 0, .int .i64 0, .int .i64 0] 125)).heap[w.heap.size + 1]? = some (.cells #[.int .i64 0, .int .i64 0, .int .i64 0, .int .i64 0, .int .i64 0, .int .i64 0, .int .i64 0, .int .i64 0, .int .i64 0, .int .i64 0, .int .i64 0, .int .i64 0, .int .i64 0, .int .i64 0, .int .i64 0, .int .i64 0, .int .i64 0, .int .i64 0, .int .i64 0, .int .i64 0, .int .i64 0, .int .i64 0, .int .i64 0, .int .i64 0, .int .i64 0, .int .i64 0, .int .i64 0, .int .i64 0, .int .i64 0, .int .i64 0, .int .i64 0, .int .i64 0] 125 (0, 0)) := hal_new (by simp)
  have g0 : ((w.alloc (.cells #[.pointer (some ⟨Vp, 0, none⟩)] 98)).alloc (.cells #[.int .i64 0, .int .i64 0, .int .i64 0, .int .i64 0, .int .i64 0, .int .i64 0, .int .i64 0, .int .i64 0, .int .i64 0, .int .i64 0, .int .i64 0, .int .i64 0, .int .i64 0, .int .i64 0, .int .i64 0, .int .i64 0, .int .i64 0, .int .i64 0, .int .i64 0, .int .i64 0, .int .i64 0, .int .i64 0, .int .i64 0, .int .i64 0, .int .i64 0, .int .i64 0, .int .i64 0, .int .i64 0, .int .i64 0, .int .i64 0, .int .i64 0, .int .i64 0] 125)).cell? ⟨w.heap.size, 0, none⟩ = some (.pointer (some ⟨Vp, 0, none⟩)) := by rw [cell_row e1]; rfl
  have k2 : Keeps (fun _ => False) w (((w.alloc (.cells #[.pointer (some ⟨Vp, 0, none⟩)] 98)).alloc (.cells #[.int .i64 0, .int .i64 0, .int .i64 0, .int .i64 0, .int .i64 0, .int .i64 0, .int .i64 0, .int .i64 0, .int .i64 0, .int .i64 0, .int .i64 0, .int .i64 0, .int .i64 0, .int .i64 0, .int .i64 0, .int .i64 0, .int .i64 0, .int .i64 0, .int .i64 0, .int .i64 0, .int .i64 0, .int .i64 0, .int .i64 0, .int .i64 0, .int .i64 0, .int .i64 0, .int .i64 0, .int .i64 0, .int .i64 0, .int .i64 0, .int .i64 0, .int .i64 0] 125)).alloc (.cells #[.slice (some ⟨w.heap.size + 1, 0, none⟩) 0 K] 76)) := k1.trans (keep_alloc _ _ _)
  have hv2 := hV.below k2.new (Nat.le_refl _)
  have v02 := hv2.c0
  have b02 := Cht.c0 hv2.fwd
  have f1 : (((w.alloc (.cells #[.pointer (some ⟨Vp, 0, none⟩)] 98)).alloc (.cells #[.int .i64 0, .int .i64 0, .int .i64 0, .int .i64 0, .int .i64 0, .int .i64 0, .int .i64 0, .int .i64 0, .int .i64 0, .int .i64 0, .int .i64 0, .int .i64 0, .int .i64 0, .int .i64 0, .int .i64 0, .int .i64 0, .int .i64 0, .int .i64 0, .int .i64 0, .int .i64 0, .int .i64 0, .int .i64 0, .int .i64 0, .int .i64 0, .int .i64 0, .int .i64 0, .int .i64 0, .int .i64 0, .int .i64 0, .int .i64 0, .int .i64 0, .int .i64 0] 125)).alloc (.cells #[.slice (some ⟨w.heap.size + 1, 0, none⟩) 0 K] 76)).heap[w.heap.size]? = some (.cells #[.pointer (some ⟨Vp, 0, none⟩)] 98 (0, 0)) := hal_old e1
  have g02 : (((w.alloc (.cells #[.pointer (some ⟨Vp, 0, none⟩)] 98)).alloc (.cells #[.int .i64 0, .int .i64 0, .int .i64 0, .int .i64 0, .int .i64 0, .int .i64 0, .int .i64 0, .int .i64 0, .int .i64 0, .int .i64 0, .int .i64 0, .int .i64 0, .int .i64 0, .int .i64 0, .int .i64 0, .int .i64 0, .int .i64 0, .int .i64 0, .int .i64 0, .int .i64 0, .int .i64 0, .int .i64 0, .int .i64 0, .int .i64 0, .int .i64 0, .int .i64 0, .int .i64 0, .int .i64 0, .int .i64 0, .int .i64 0, .int .i64 0, .int .i64 0] 125)).alloc (.cells #[.slice (some ⟨w.heap.size + 1, 0, none⟩) 0 K] 76)).cell? ⟨w.heap.size, 0, none⟩ = some (.pointer (some ⟨Vp, 0, none⟩)) := by rw [cell_row f1]; rfl
  have f3 : Rm8 (((w.alloc (.cells #[.pointer (some ⟨Vp, 0, none⟩)] 98)).alloc (.cells #[.int .i64 0, .int .i64 0, .int .i64 0, .int .i64 0, .int .i64 0, .int .i64 0, .int .i64 0, .int .i64 0, .int .i64 0, .int .i64 0, .int .i64 0, .int .i64 0, .int .i64 0, .int .i64 0, .int .i64 0, .int .i64 0, .int .i64 0, .int .i64 0, .int .i64 0, .int .i64 0, .int .i64 0, .int .i64 0, .int .i64 0, .int .i64 0, .int .i64 0, .int .i64 0, .int .i64 0, .int .i64 0, .int .i64 0, .int .i64 0, .int .i64 0, .int .i64 0] 125)).alloc (.cells #[.slice (some ⟨w.heap.size + 1, 0, none⟩) 0 K] 76)) (w.heap.size + 1) [] := ⟨_, hal_old e3, rfl⟩
  have f4 : (((w.alloc (.cells #[.pointer (some ⟨Vp, 0, none⟩)] 98)).alloc (.cells #[.int .i64 0, .int .i64 0, .int .i64 0, .int .i64 0, .int .i64 0, .int .i64 0, .int .i64 0, .int .i64 0, .int .i64 0, .int .i64 0, .int .i64 0, .int .i64 0, .int .i64 0, .int .i64 0, .int .i64 0, .int .i64 0, .int .i64 0, .int .i64 0, .int .i64 0, .int .i64 0, .int .i64 0, .int .i64 0, .int .i64 0, .int .i64 0, .int .i64 0, .int .i64 0, .int .i64 0, .int .i64 0, .int .i64 0, .int .i64 0, .int .i64 0, .int .i64 0] 125)).alloc (.cells #[.slice (some ⟨w.heap.size + 1, 0, none⟩) 0 K] 76)).heap[w.heap.size + 1 + 1]? = some (.cells #[.slice (some ⟨w.heap.size + 1, 0, none⟩) 0 K] 76 (0, 0)) := hal_new (by simp)
  have K2 := Lib.hid k2.new
  have F1 := Lib.hid f1
  have F3 := Lib.hid f3
  have F4 := Lib.hid f4
  clear hBo hL hV hal b7 hK hKe k1 hv1 e1 e3 k2 hv2 f1 f3 f4
  refine (callsIn_wide (n := 5)).1 ?_
  refine callsIn_of_wp_marks Try.func66 rfl trivial ?_ rfl
  simp only [Try.ntmps66, List.size_toArray, List.length_cons, List.length_nil, Nat.reduceAdd, Nat.reduceSub, Array.replicate_succ, Array.replicate_zero, List.push_toArray, List.append_toArray, List.nil_append, List.cons_append]
  gi_wp2_with fail
  obtain ⟨V9, hV9⟩ : ∃ V9, (((w.alloc (.cells #[.pointer (some ⟨Vp, 0, none⟩)] 98)).alloc (.cells #[.int .i64 0, .int .i64 0, .int .i64 0, .int .i64 0, .int .i64 0, .int .i64 0, .int .i64 0, .int .i64 0, .int .i64 0, .int .i64 0, .int .i64 0, .int .i64 0, .int .i64 0, .int .i64 0, .int .i64 0, .int .i64 0, .int .i64 0, .int .i64 0, .int .i64 0, .int .i64 0, .int .i64 0, .int .i64 0, .int .i64 0, .int .i64 0, .int .i64 0, .int .i64 0, .int .i64 0, .int .i64 0, .int .i64 0, .int .i64 0, .int .i64 0, .int .i64 0] 125)).alloc (.cells #[.slice (some ⟨w.heap.size + 1, 0, none⟩) 0 K] 76)) = V9 := ⟨_, rfl⟩
  obtain ⟨T1, hT1⟩ : ∃ T1, w.heap.size = T1 := ⟨_, rfl⟩
  have k2 := K2.out
  have f1 := F1.out
  have f3 := F3.out
  have f4 := F4.out
  rw [hV9] at k2 f1 f3 f4 ⊢
  rw [hT1] at f1 f3 f4 ⊢
  have HT1 := Lib.hid hT1
  replace K2 := Lib.hid k2
  replace F1 := Lib.hid f1
  replace F3 := Lib.hid f3
  replace F4 := Lib.hid f4
  clear hV9 hT1 k2 f1 f3 f4 g0 g02 v0 v02 b6 b02
  refine ⟨trivial, (callsIn_wide.2 (matches55 B V9)).mono ?_⟩
  rintro en w3 ⟨P1, rfl, cP, hP1, hP2, hb3⟩
  obtain ⟨R, hR⟩ : ∃ R, T1 + 1 = R := ⟨_, rfl⟩
  obtain ⟨T4, hT4⟩ : ∃ T4, R + 1 = T4 := ⟨_, rfl⟩
  have f3 := F3.out
  have f4 := F4.out
  rw [hR] at f3 f4 ⊢
  rw [hT4] at f4 ⊢
  have hseq := matches74 HL.out w w3 HB.out (K2.out.trans (hb3.mono K2.out.size)) P1 cP
  have Hseq := Lib.hid hseq
  have hlt4 := lt_of_block f4
  have ET := Lib.hid ((hb3.block _ hlt4).trans f4)
  have ER := Lib.hid (f3.keep (Keeps.of_new hb3 (Mut := fun _ => False)) (fun e => e))
  have EV := Lib.hid ((hb3.block _ (lt_of_block F1.out)).trans F1.out)
  have HBw := Lib.hid (K2.out.trans (hb3.mono K2.out.size))
  have HP1 := Lib.hid (show V9.heap.size ≤ P1 ∧ P1 < w3.heap.size ∧ V9.heap.size ≤ w3.heap.size ∧ w.heap.size = T1 ∧ T1 + 1 = R ∧ R + 1 = T4 ∧ T4 < V9.heap.size from ⟨hP1, hP2, hb3.size, HT1.out, hR, hT4, hlt4⟩)
  clear hseq cP hP1 hP2 hb3 K2 F1 F3 F4 hR hT4 f3 f4 hlt4
  gi_wp2_with fail
  have hTl : T4 < w3.heap.size := lt_of_block ET.out
  have hRl : R < w3.heap.size := by have := HP1.out; omega
  refine wpIn_rangeO (gf := 74) (lb := #[.pointer (some ⟨P1, 0, none⟩)]) rfl (enters_of Try.func74 (by kernel_rfl) rfl) Hseq.out (fun k h => by have := HP1.out; rcases h with h | h <;> omega) (fun _ => rfl) (fun k => k = T4 ∨ k = R) (fun k hk => by
      have := HP1.out
      exact ⟨by rcases hk with e | e <;> omega, by rintro (e | e) <;> rcases hk with e2 | e2 <;> omega⟩)
    (fun pre _ W => FiI T4 R K w3 (fstS nm L m pre) W) (fun _ _ _ _ => False) (fun pre => FiI.abides hTl hRl _) (fun _ _ _ _ _ h _ => h.elim) ⟨ET.out, ER.out, Keeps.refl _ _⟩ ?round ?done ?stop
  case stop => intro D c pre x post W O _ _ _ _ _ h _; exact h.elim
  case round =>
    intro l pre x post W O hxs hl1 hl2 hr hO hI mm
    have Hby := Lib.hid (heap_alloc_new_ W (.cells #[.int .i64 (iAt x 0), .int .i64 (iAt x 1), .int .i64 (iAt x 2), .int .i64 (iAt x 3)] 79))
    have Hxs := Lib.hid hxs
    unfold plA
    clear hxs hr hI hO hTl hRl
    gi_wp2_with fail
    refine ⟨keep_alloc _ _ _, ?_⟩
    intro W2 hB2 hI2
    have FT := (hB2.keeps.block _ (by simp) (by omega)).trans Hby.out
    obtain ⟨U, hU⟩ : ∃ U, W.heap.size = U := ⟨_, rfl⟩
    rw [hU] at FT ⊢
    have HU := Lib.hid (show w3.heap.size ≤ U from by omega)
    have hk2 := hI2.keep
    have hxm : x ∈ mtS nm L := by rw [Hxs.out]; simp
    have hwp := mtS_wpl (nm := nm) HL.out x hxm
    obtain ⟨hgl, hgm⟩ := fstS_ok (nm := nm) HL.out pre (fun y hy => by rw [Hxs.out]; simp [hy])
    rw [HK.out] at hgl
    have Hgs := Lib.hid (fstS_snoc nm L m pre x)
    have hbp := bS_pos (nm := nm) HL.out hxm
    have hbw2 : Below w.heap.size w W2 := HBw.out.trans (hk2.below HBw.out.size (fun k hk e => by have := HBw.out.size; have := HP1.out; rcases e with e | e | e <;> omega))
    have hV2 := HV.out.below hbw2 (Nat.le_refl _)
    have HB2 := Lib.hid (HB.out.below hbw2 (Nat.le_refl _))
    have HV2 := Lib.hid hV2
    have h9 := (hk2.block _ (lt_of_block EV.out) (by have := lt_of_block EV.out; have := HP1.out; show ¬ (_ ∨ _ ∨ _); omega)).trans EV.out
    have t1 : W2.cell? ⟨T1, 0, none⟩ = some (.pointer (some ⟨Vp, 0, none⟩)) := by rw [cell_row h9]; rfl
    have v0 := hV2.c0
    obtain ⟨b6, b7⟩ := Cht.c6 hV2.fwd
    rw [HKe.out] at b6
    have b0 := Cht.c0 hV2.fwd
    have d1 := HB2.out.c1
    have x0 : W2.cell? ⟨U, 0, none⟩ = some (.int .i64 (iAt x 0)) := by rw [cell_row FT]; rfl
    have x1 : W2.cell? ⟨U, 1, none⟩ = some (.int .i64 (iAt x 1)) := by rw [cell_row FT]; rfl
    have x2 : W2.cell? ⟨U, 2, none⟩ = some (.int .i64 (iAt x 2)) := by rw [cell_row FT]; rfl
    have x3 : W2.cell? ⟨U, 3, none⟩ = some (.int .i64 (iAt x 3)) := by rw [cell_row FT]; rfl
    obtain ⟨g, hg⟩ : ∃ g, fstS nm L m pre = g := ⟨_, rfl⟩
    rw [hg] at hgl hgm Hgs
    have HI2 := Lib.hid (show FiI T4 R K w3 g W2 by rw [← hg]; exact hI2)
    obtain ⟨gn, hgn⟩ : ∃ gn, g.length = gn := ⟨_, rfl⟩
    have t4 : W2.cell? ⟨T4, 0, none⟩ = some (.slice (some ⟨R, 0, none⟩) gn K) := by rw [cell_row HI2.out.row, ← hgn]; rfl
    rw [hgn] at hgl
    have Hgn := Lib.hid hgn
    obtain ⟨bb, hbb⟩ : ∃ bb, bS nm L m x = bb := ⟨_, rfl⟩
    rw [hbb] at hbp
    obtain ⟨hb1, hb2, hb3, hb4⟩ := hbp
    have Hbb := Lib.hid hbb
    have Hblv := Lib.hid (show blv nm L m x = bb.1.toNat by unfold blv; rw [hbb])
    have HXm := Lib.hid hxm
    have HGm := Lib.hid hgm
    have HWp := Lib.hid hwp
    have HRow := Lib.hid (show RowP W2 U x from ⟨hwp.len, by rw [flat4 hwp.len]; exact FT⟩)
    have hS0 : Below W2.heap.size W2 W2.drew := drew_b _ 1
    clear hU hB2 hk2 hI2 FT Hby hbw2 hV2 h9 hxm hg hgn hbb hgm b7 hwp
    gi_wp2_with fail
    have hm4 := HL.out.hi
    by_cases hc : bb.1 = (K : Int) - (gn : Int)
    · skip
      have Hc := Lib.hid hc
      clear hc
      refine region_R (z := 100) (S := fun V9 => Below W2.heap.size W2 V9) (by kernel_rfl) ?_
      refine anyR_take (i := 0) (oi := { dst := some 27, op := Go.Op.load 98 (Go.Operand.tmp 1), type := 98, pos := "chart.go:124", after := #[], guard := none }) (v := .pointer (some ⟨Vp, 0, none⟩)) rfl (by decide) (by kernel_rfl) (by kernel_rfl) (by kernel_rfl) (by kernel_rfl) (fun _ _ _ h => h) (Or.inl ⟨by rfl, by intro V9 hSw; (try dsimp only at hSw); have q_t1 := (hSw.cell (lt_of_cell t1)).trans t1; go_simp⟩) hS0 ?_
      try simp only [Act.put, List.setIfInBounds_toArray, List.set_cons_zero, List.set_cons_succ]
      refine anyR_take (i := 1) (oi := { dst := some 28, op := Go.Op.load 79 (Go.Operand.tmp 5), type := 79, pos := "chart.go:124", after := #[], guard := none }) (v := .agg #[.int .i64 (iAt x 0), .int .i64 (iAt x 1), .int .i64 (iAt x 2), .int .i64 (iAt x 3)]) rfl (by decide) (by kernel_rfl) (by kernel_rfl) (by kernel_rfl) (by kernel_rfl) (fun _ _ _ h => h) (Or.inl ⟨by rfl, by intro V9 hSw; (try dsimp only at hSw); have q_x0 := (hSw.cell (lt_of_cell x0)).trans x0; have q_x1 := (hSw.cell (lt_of_cell x1)).trans x1; have q_x2 := (hSw.cell (lt_of_cell x2)).trans x2; have q_x3 := (hSw.cell (lt_of_cell x3)).trans x3; go_simp⟩) hS0 ?_
      try simp only [Act.put, List.setIfInBounds_toArray, List.set_cons_zero, List.set_cons_succ]
      refine anyR_take (i := 4) (oi := { dst := some 31, op := Go.Op.load 98 (Go.Operand.tmp 1), type := 98, pos := "chart.go:124", after := #[], guard := none }) (v := .pointer (some ⟨Vp, 0, none⟩)) rfl (by decide) (by kernel_rfl) (by kernel_rfl) (by kernel_rfl) (by kernel_rfl) (fun _ _ _ h => h) (Or.inl ⟨by rfl, by intro V9 hSw; (try dsimp only at hSw); have q_t1 := (hSw.cell (lt_of_cell t1)).trans t1; go_simp⟩) hS0 ?_
      try simp only [Act.put, List.setIfInBounds_toArray, List.set_cons_zero, List.set_cons_succ]
      refine anyR_take (i := 5) (oi := { dst := some 32, op := Go.Op.nilCheck (Go.Operand.tmp 31), type := 0, pos := "chart.go:124", after := #[{ on := 4, ground := Go.Ground.data }], guard := none }) (v := .pointer (some ⟨Vp, 0, none⟩)) rfl (by decide) (by kernel_rfl) (by kernel_rfl) (by kernel_rfl) (by kernel_rfl) (fun _ _ _ h => h) (Or.inl ⟨by rfl, by intro V9 hSw; (try dsimp only at hSw); go_simp⟩) hS0 ?_
      try simp only [Act.put, List.setIfInBounds_toArray, List.set_cons_zero, List.set_cons_succ]
      refine anyR_take (i := 6) (oi := { dst := some 33, op := Go.Op.fieldAddr 124 (Go.Operand.tmp 32) 0, type := 0, pos := "chart.go:124", after := #[{ on := 5, ground := Go.Ground.data }], guard := none }) (v := .pointer (some ⟨Vp, 0, none⟩)) rfl (by decide) (by kernel_rfl) (by kernel_rfl) (by kernel_rfl) (by kernel_rfl) (fun _ _ _ h => h) (Or.inl ⟨by rfl, by intro V9 hSw; (try dsimp only at hSw); go_simp⟩) hS0 ?_
      try simp only [Act.put, List.setIfInBounds_toArray, List.set_cons_zero, List.set_cons_succ]
      refine anyR_take (i := 7) (oi := { dst := some 34, op := Go.Op.load 86 (Go.Operand.tmp 33), type := 86, pos := "chart.go:124", after := #[{ on := 6, ground := Go.Ground.data }], guard := none }) (v := .pointer (some ⟨Cf, 0, none⟩)) rfl (by decide) (by kernel_rfl) (by kernel_rfl) (by kernel_rfl) (by kernel_rfl) (fun _ _ _ h => h) (Or.inl ⟨by rfl, by intro V9 hSw; (try dsimp only at hSw); have q_v0 := (hSw.cell (lt_of_cell v0)).trans v0; go_simp⟩) hS0 ?_
      try simp only [Act.put, List.setIfInBounds_toArray, List.set_cons_zero, List.set_cons_succ]
      refine anyR_take (i := 8) (oi := { dst := some 35, op := Go.Op.nilCheck (Go.Operand.tmp 34), type := 0, pos := "chart.go:124", after := #[{ on := 7, ground := Go.Ground.data }], guard := none }) (v := .pointer (some ⟨Cf, 0, none⟩)) rfl (by decide) (by kernel_rfl) (by kernel_rfl) (by kernel_rfl) (by kernel_rfl) (fun _ _ _ h => h) (Or.inl ⟨by rfl, by intro V9 hSw; (try dsimp only at hSw); go_simp⟩) hS0 ?_
      try simp only [Act.put, List.setIfInBounds_toArray, List.set_cons_zero, List.set_cons_succ]
      refine anyR_take (i := 9) (oi := { dst := some 36, op := Go.Op.fieldAddr 93 (Go.Operand.tmp 35) 3, type := 0, pos := "chart.go:124", after := #[{ on := 8, ground := Go.Ground.data }], guard := none }) (v := .pointer (some ⟨Cf, 6, none⟩)) rfl (by decide) (by kernel_rfl) (by kernel_rfl) (by kernel_rfl) (by kernel_rfl) (fun _ _ _ h => h) (Or.inl ⟨by rfl, by intro V9 hSw; (try dsimp only at hSw); go_simp⟩) hS0 ?_
      try simp only [Act.put, List.setIfInBounds_toArray, List.set_cons_zero, List.set_cons_succ]
      refine anyR_take (i := 10) (oi := { dst := some 37, op := Go.Op.fieldAddr 91 (Go.Operand.tmp 36) 0, type := 0, pos := "chart.go:124", after := #[{ on := 9, ground := Go.Ground.data }], guard := none }) (v := .pointer (some ⟨Cf, 6, none⟩)) rfl (by decide) (by kernel_rfl) (by kernel_rfl) (by kernel_rfl) (by kernel_rfl) (fun _ _ _ h => h) (Or.inl ⟨by rfl, by intro V9 hSw; (try dsimp only at hSw); go_simp⟩) hS0 ?_
      try simp only [Act.put, List.setIfInBounds_toArray, List.set_cons_zero, List.set_cons_succ]
      refine anyR_take (i := 11) (oi := { dst := some 38, op := Go.Op.load 3 (Go.Operand.tmp 37), type := 3, pos := "chart.go:124", after := #[{ on := 10, ground := Go.Ground.data }], guard := none }) (v := .int .i64 (K : Int)) rfl (by decide) (by kernel_rfl) (by kernel_rfl) (by kernel_rfl) (by kernel_rfl) (fun _ _ _ h => h) (Or.inl ⟨by rfl, by intro V9 hSw; (try dsimp only at hSw); have q_b6 := (hSw.cell (lt_of_cell b6)).trans b6; go_simp⟩) hS0 ?_
      try simp only [Act.put, List.setIfInBounds_toArray, List.set_cons_zero, List.set_cons_succ]
      refine anyR_take (i := 12) (oi := { dst := some 39, op := Go.Op.move (Go.Operand.tmp 6), type := 3, pos := "chart.go:124", after := #[], guard := none }) (v := .int .i64 (gn : Int)) rfl (by decide) (by kernel_rfl) (by kernel_rfl) (by kernel_rfl) (by kernel_rfl) (fun _ _ _ h => h) (Or.inl ⟨by rfl, by intro V9 hSw; (try dsimp only at hSw); go_simp⟩) hS0 ?_
      try simp only [Act.put, List.setIfInBounds_toArray, List.set_cons_zero, List.set_cons_succ]
      refine anyR_take (i := 13) (oi := { dst := some 40, op := Go.Op.binOp Go.BinOp.sub 3 (Go.Operand.tmp 38) (Go.Operand.tmp 39) 3, type := 3, pos := "chart.go:124", after := #[{ on := 11, ground := Go.Ground.data }, { on := 12, ground := Go.Ground.data }], guard := none }) (v := .int .i64 ((K : Int) - (gn : Int))) rfl (by decide) (by kernel_rfl) (by kernel_rfl) (by kernel_rfl) (by kernel_rfl) (fun _ _ _ h => h) (Or.inl ⟨by rfl, by intro V9 hSw; (try dsimp only at hSw); go_simp; exact IntWalk.i64_in _ (by omega)⟩) hS0 ?_
      try simp only [Act.put, List.setIfInBounds_toArray, List.set_cons_zero, List.set_cons_succ]
      obtain ⟨X0, hX0⟩ : ∃ X0, W2.drew = X0 := ⟨_, rfl⟩
      rw [hX0] at hS0 ⊢
      have HS0 := Lib.hid hS0
      clear hX0 hS0
      refine anyR_one (i := 2) (o := { dst := some 29, op := Go.Op.call { callee := Go.Callee.value (Go.Operand.func 84), args := #[Go.Operand.tmp 27, Go.Operand.tmp 28], argTypes := #[98, 79] }, type := 91, pos := "chart.go:124", after := #[{ on := 0, ground := Go.Ground.data }, { on := 1, ground := Go.Ground.data }], guard := none }) (by kernel_rfl) rfl (by rfl) ?_
      intro Kk hK
      have HKK := Lib.hid hK
      clear hK
      have key := begins84 B D A n cap nm M A2 m cap2 L Vp Cf Cb Bt Me Me2 Ms Ms2 nn nn2 x X0 (HB2.out.below HS0.out (Nat.le_refl _)) HL.out (HV2.out.below HS0.out (Nat.le_refl _)) HXm.out
      rw [Hbb.out] at key
      unfold plA at key
      have Key := Lib.hid key
      clear key
      go_simp
      refine ⟨trivial, wide_d, CallsIn.inRound l ((callsIn_wide.2 Key.out).mono ?_)⟩
      rintro en X1 ⟨rfl, hb9⟩
      have HS1 := Lib.hid (HS0.out.trans (hb9.mono HS0.out.size))
      unfold knV
      refine HKK.out _ _ (fun _ _ => HS1.out) ?_
      clear HKK Kk hb9 Key
      try simp only [Act.put, List.setIfInBounds_toArray, List.set_cons_zero, List.set_cons_succ]
      refine anyR_take (i := 3) (oi := { dst := some 30, op := Go.Op.field 91 (Go.Operand.tmp 29) 0, type := 3, pos := "chart.go:124", after := #[{ on := 2, ground := Go.Ground.data }], guard := none }) (v := .int .i64 bb.1) rfl (by decide) (by kernel_rfl) (by kernel_rfl) (by kernel_rfl) (by kernel_rfl) (fun _ _ _ h => h) (Or.inl ⟨by rfl, by intro V9 hSw; (try dsimp only at hSw); have hfd := field91 bb.1 bb.2 V9; go_simp⟩) HS1.out ?_
      try simp only [Act.put, List.setIfInBounds_toArray, List.set_cons_zero, List.set_cons_succ]
      refine anyR_take (i := 14) (oi := { dst := some 41, op := Go.Op.binOp Go.BinOp.neq 3 (Go.Operand.tmp 30) (Go.Operand.tmp 40) 3, type := 4, pos := "chart.go:124", after := #[{ on := 3, ground := Go.Ground.data }, { on := 13, ground := Go.Ground.data }], guard := none }) (v := .bool false) rfl (by decide) (by kernel_rfl) (by kernel_rfl) (by kernel_rfl) (by kernel_rfl) (fun _ _ _ h => h) (Or.inl ⟨by rfl, by intro V9 hSw; (try dsimp only at hSw); have hc9 := Hc.out; go_simp⟩) HS1.out ?_
      try simp only [Act.put, List.setIfInBounds_toArray, List.set_cons_zero, List.set_cons_succ]
      refine anyR_done (by kernel_rfl) ?_ _
      replace t1 := (HS1.out.cell (lt_of_cell t1)).trans t1
      replace v0 := (HS1.out.cell (lt_of_cell v0)).trans v0
      replace b0 := (HS1.out.cell (lt_of_cell b0)).trans b0
      replace d1 := (HS1.out.cell (lt_of_cell d1)).trans d1
      replace x0 := (HS1.out.cell (lt_of_cell x0)).trans x0
      replace x1 := (HS1.out.cell (lt_of_cell x1)).trans x1
      replace x2 := (HS1.out.cell (lt_of_cell x2)).trans x2
      replace x3 := (HS1.out.cell (lt_of_cell x3)).trans x3
      replace t4 := (HS1.out.cell (lt_of_cell t4)).trans t4
      clear b6
      gi_wp2_with fail
      by_cases hg0 : gn = 0
      · skip
        have d0 : ((gn : Int) == 0) = true := by rw [beq_iff_eq]; omega
        have HEx := Lib.hid (show ext (bef m) g x = true by
          have : g = [] := List.length_eq_zero_iff.1 (by rw [Hgn.out]; exact hg0)
          rw [this]; rfl)
        have HG0 := Lib.hid hg0
        clear hg0
        have hS1 : Below X1.heap.size X1 X1.drew := drew_b _ 1
        refine region_R (z := 100) (S := fun V9 => Below X1.heap.size X1 V9) (by kernel_rfl) ?_
        refine anyR_take (i := 0) (oi := { dst := some 42, op := Go.Op.move (Go.Operand.tmp 6), type := 3, pos := "chart.go:127", after := #[], guard := none }) (v := .int .i64 (gn : Int)) rfl (by decide) (by kernel_rfl) (by kernel_rfl) (by kernel_rfl) (by kernel_rfl) (fun _ _ _ h => h) (Or.inl ⟨by rfl, by intro V9 hSw; (try dsimp only at hSw); go_simp⟩) hS1 ?_
        try simp only [Act.put, List.setIfInBounds_toArray, List.set_cons_zero, List.set_cons_succ]
        refine anyR_take (i := 1) (oi := { dst := some 43, op := Go.Op.binOp Go.BinOp.eql 3 (Go.Operand.tmp 42) (Go.Operand.const (Go.Value.int Go.IntKind.i64 0)) 3, type := 4, pos := "chart.go:127", after := #[{ on := 0, ground := Go.Ground.data }], guard := none }) (v := .bool true) rfl (by decide) (by kernel_rfl) (by kernel_rfl) (by kernel_rfl) (by kernel_rfl) (fun _ _ _ h => h) (Or.inl ⟨by rfl, by intro V9 hSw; (try dsimp only at hSw); go_simp⟩) hS1 ?_
        try simp only [Act.put, List.setIfInBounds_toArray, List.set_cons_zero, List.set_cons_succ]
        refine anyR_take (i := 2) (oi := { dst := some 44, op := Go.Op.move (Go.Operand.tmp 43), type := 4, pos := "chart.go:127", after := #[{ on := 1, ground := Go.Ground.data }], guard := none }) (v := .bool true) rfl (by decide) (by kernel_rfl) (by kernel_rfl) (by kernel_rfl) (by kernel_rfl) (fun _ _ _ h => h) (Or.inl ⟨by rfl, by intro V9 hSw; (try dsimp only at hSw); go_simp⟩) hS1 ?_
        try simp only [Act.put, List.setIfInBounds_toArray, List.set_cons_zero, List.set_cons_succ]
        refine anyR_take (i := 3) (oi := { dst := some 45, op := Go.Op.load 76 (Go.Operand.tmp 4), type := 76, pos := "chart.go:127", after := #[{ on := 2, ground := Go.Ground.guard }], guard := some (2, false) }) (v := undef) rfl (by decide) (by kernel_rfl) (by kernel_rfl) (by kernel_rfl) (by kernel_rfl) (fun _ _ _ h => h) (Or.inr ⟨by rfl, rfl⟩) hS1 ?_
        try simp only [Act.put, List.setIfInBounds_toArray, List.set_cons_zero, List.set_cons_succ]
        refine anyR_take (i := 4) (oi := { dst := some 46, op := Go.Op.move (Go.Operand.tmp 6), type := 3, pos := "chart.go:127", after := #[{ on := 2, ground := Go.Ground.guard }], guard := some (2, false) }) (v := undef) rfl (by decide) (by kernel_rfl) (by kernel_rfl) (by kernel_rfl) (by kernel_rfl) (fun _ _ _ h => h) (Or.inr ⟨by rfl, rfl⟩) hS1 ?_
        try simp only [Act.put, List.setIfInBounds_toArray, List.set_cons_zero, List.set_cons_succ]
        refine anyR_take (i := 5) (oi := { dst := some 47, op := Go.Op.binOp Go.BinOp.sub 3 (Go.Operand.tmp 46) (Go.Operand.const (Go.Value.int Go.IntKind.i64 1)) 3, type := 3, pos := "chart.go:127", after := #[{ on := 4, ground := Go.Ground.data }, { on := 2, ground := Go.Ground.guard }], guard := some (2, false) }) (v := undef) rfl (by decide) (by kernel_rfl) (by kernel_rfl) (by kernel_rfl) (by kernel_rfl) (fun _ _ _ h => h) (Or.inr ⟨by rfl, rfl⟩) hS1 ?_
        try simp only [Act.put, List.setIfInBounds_toArray, List.set_cons_zero, List.set_cons_succ]
        refine anyR_take (i := 6) (oi := { dst := some 48, op := Go.Op.indexAddr 76 (Go.Operand.tmp 45) (Go.Operand.tmp 47), type := 0, pos := "chart.go:127", after := #[{ on := 3, ground := Go.Ground.data }, { on := 5, ground := Go.Ground.data }, { on := 2, ground := Go.Ground.guard }], guard := some (2, false) }) (v := undef) rfl (by decide) (by kernel_rfl) (by kernel_rfl) (by kernel_rfl) (by kernel_rfl) (fun _ _ _ h => h) (Or.inr ⟨by rfl, rfl⟩) hS1 ?_
        try simp only [Act.put, List.setIfInBounds_toArray, List.set_cons_zero, List.set_cons_succ]
        refine anyR_take (i := 7) (oi := { dst := some 49, op := Go.Op.load 98 (Go.Operand.tmp 1), type := 98, pos := "chart.go:127", after := #[{ on := 2, ground := Go.Ground.guard }], guard := some (2, false) }) (v := undef) rfl (by decide) (by kernel_rfl) (by kernel_rfl) (by kernel_rfl) (by kernel_rfl) (fun _ _ _ h => h) (Or.inr ⟨by rfl, rfl⟩) hS1 ?_
        try simp only [Act.put, List.setIfInBounds_toArray, List.set_cons_zero, List.set_cons_succ]
        refine anyR_take (i := 8) (oi := { dst := some 50, op := Go.Op.nilCheck (Go.Operand.tmp 49), type := 0, pos := "chart.go:127", after := #[{ on := 7, ground := Go.Ground.data }, { on := 2, ground := Go.Ground.guard }], guard := some (2, false) }) (v := undef) rfl (by decide) (by kernel_rfl) (by kernel_rfl) (by kernel_rfl) (by kernel_rfl) (fun _ _ _ h => h) (Or.inr ⟨by rfl, rfl⟩) hS1 ?_
        try simp only [Act.put, List.setIfInBounds_toArray, List.set_cons_zero, List.set_cons_succ]
        refine anyR_take (i := 9) (oi := { dst := some 51, op := Go.Op.fieldAddr 124 (Go.Operand.tmp 50) 0, type := 0, pos := "chart.go:127", after := #[{ on := 8, ground := Go.Ground.data }, { on := 2, ground := Go.Ground.guard }], guard := some (2, false) }) (v := undef) rfl (by decide) (by kernel_rfl) (by kernel_rfl) (by kernel_rfl) (by kernel_rfl) (fun _ _ _ h => h) (Or.inr ⟨by rfl, rfl⟩) hS1 ?_
        try simp only [Act.put, List.setIfInBounds_toArray, List.set_cons_zero, List.set_cons_succ]
        refine anyR_take (i := 10) (oi := { dst := some 52, op := Go.Op.load 86 (Go.Operand.tmp 51), type := 86, pos := "chart.go:127", after := #[{ on := 9, ground := Go.Ground.data }, { on := 2, ground := Go.Ground.guard }], guard := some (2, false) }) (v := undef) rfl (by decide) (by kernel_rfl) (by kernel_rfl) (by kernel_rfl) (by kernel_rfl) (fun _ _ _ h => h) (Or.inr ⟨by rfl, rfl⟩) hS1 ?_
        try simp only [Act.put, List.setIfInBounds_toArray, List.set_cons_zero, List.set_cons_succ]
        refine anyR_take (i := 11) (oi := { dst := some 53, op := Go.Op.nilCheck (Go.Operand.tmp 52), type := 0, pos := "chart.go:127", after := #[{ on := 10, ground := Go.Ground.data }, { on := 2, ground := Go.Ground.guard }], guard := some (2, false) }) (v := undef) rfl (by decide) (by kernel_rfl) (by kernel_rfl) (by kernel_rfl) (by kernel_rfl) (fun _ _ _ h => h) (Or.inr ⟨by rfl, rfl⟩) hS1 ?_
        try simp only [Act.put, List.setIfInBounds_toArray, List.set_cons_zero, List.set_cons_succ]
        refine anyR_take (i := 12) (oi := { dst := some 54, op := Go.Op.fieldAddr 93 (Go.Operand.tmp 53) 0, type := 0, pos := "chart.go:127", after := #[{ on := 11, ground := Go.Ground.data }, { on := 2, ground := Go.Ground.guard }], guard := some (2, false) }) (v := undef) rfl (by decide) (by kernel_rfl) (by kernel_rfl) (by kernel_rfl) (by kernel_rfl) (fun _ _ _ h => h) (Or.inr ⟨by rfl, rfl⟩) hS1 ?_
        try simp only [Act.put, List.setIfInBounds_toArray, List.set_cons_zero, List.set_cons_succ]
        refine anyR_take (i := 13) (oi := { dst := some 55, op := Go.Op.load 72 (Go.Operand.tmp 54), type := 72, pos := "chart.go:127", after := #[{ on := 12, ground := Go.Ground.data }, { on := 2, ground := Go.Ground.guard }], guard := some (2, false) }) (v := undef) rfl (by decide) (by kernel_rfl) (by kernel_rfl) (by kernel_rfl) (by kernel_rfl) (fun _ _ _ h => h) (Or.inr ⟨by rfl, rfl⟩) hS1 ?_
        try simp only [Act.put, List.setIfInBounds_toArray, List.set_cons_zero, List.set_cons_succ]
        refine anyR_take (i := 14) (oi := { dst := some 56, op := Go.Op.nilCheck (Go.Operand.tmp 55), type := 0, pos := "chart.go:127", after := #[{ on := 13, ground := Go.Ground.data }, { on := 2, ground := Go.Ground.guard }], guard := some (2, false) }) (v := undef) rfl (by decide) (by kernel_rfl) (by kernel_rfl) (by kernel_rfl) (by kernel_rfl) (fun _ _ _ h => h) (Or.inr ⟨by rfl, rfl⟩) hS1 ?_
        try simp only [Act.put, List.setIfInBounds_toArray, List.set_cons_zero, List.set_cons_succ]
        refine anyR_take (i := 15) (oi := { dst := some 57, op := Go.Op.fieldAddr 112 (Go.Operand.tmp 56) 1, type := 0, pos := "chart.go:127", after := #[{ on := 14, ground := Go.Ground.data }, { on := 2, ground := Go.Ground.guard }], guard := some (2, false) }) (v := undef) rfl (by decide) (by kernel_rfl) (by kernel_rfl) (by kernel_rfl) (by kernel_rfl) (fun _ _ _ h => h) (Or.inr ⟨by rfl, rfl⟩) hS1 ?_
        try simp only [Act.put, List.setIfInBounds_toArray, List.set_cons_zero, List.set_cons_succ]
        refine anyR_take (i := 16) (oi := { dst := some 58, op := Go.Op.load 25 (Go.Operand.tmp 57), type := 25, pos := "chart.go:127", after := #[{ on := 15, ground := Go.Ground.data }, { on := 2, ground := Go.Ground.guard }], guard := some (2, false) }) (v := undef) rfl (by decide) (by kernel_rfl) (by kernel_rfl) (by kernel_rfl) (by kernel_rfl) (fun _ _ _ h => h) (Or.inr ⟨by rfl, rfl⟩) hS1 ?_
        try simp only [Act.put, List.setIfInBounds_toArray, List.set_cons_zero, List.set_cons_succ]
        refine anyR_take (i := 17) (oi := { dst := some 59, op := Go.Op.call { callee := Go.Callee.builtin Go.Builtin.len, args := #[Go.Operand.tmp 58], argTypes := #[25] }, type := 3, pos := "chart.go:127", after := #[{ on := 16, ground := Go.Ground.data }, { on := 2, ground := Go.Ground.guard }], guard := some (2, false) }) (v := undef) rfl (by decide) (by kernel_rfl) (by kernel_rfl) (by kernel_rfl) (by kernel_rfl) (fun _ _ _ h => h) (Or.inr ⟨by rfl, rfl⟩) hS1 ?_
        try simp only [Act.put, List.setIfInBounds_toArray, List.set_cons_zero, List.set_cons_succ]
        refine anyR_take (i := 18) (oi := { dst := some 60, op := Go.Op.slice 79 (Go.Operand.tmp 48) none (some (Go.Operand.tmp 59)) none, type := 38, pos := "chart.go:127", after := #[{ on := 6, ground := Go.Ground.data }, { on := 17, ground := Go.Ground.data }, { on := 2, ground := Go.Ground.guard }], guard := some (2, false) }) (v := undef) rfl (by decide) (by kernel_rfl) (by kernel_rfl) (by kernel_rfl) (by kernel_rfl) (fun _ _ _ h => h) (Or.inr ⟨by rfl, rfl⟩) hS1 ?_
        try simp only [Act.put, List.setIfInBounds_toArray, List.set_cons_zero, List.set_cons_succ]
        refine anyR_take (i := 19) (oi := { dst := some 61, op := Go.Op.load 98 (Go.Operand.tmp 1), type := 98, pos := "chart.go:127", after := #[{ on := 2, ground := Go.Ground.guard }], guard := some (2, false) }) (v := undef) rfl (by decide) (by kernel_rfl) (by kernel_rfl) (by kernel_rfl) (by kernel_rfl) (fun _ _ _ h => h) (Or.inr ⟨by rfl, rfl⟩) hS1 ?_
        try simp only [Act.put, List.setIfInBounds_toArray, List.set_cons_zero, List.set_cons_succ]
        refine anyR_take (i := 20) (oi := { dst := some 62, op := Go.Op.nilCheck (Go.Operand.tmp 61), type := 0, pos := "chart.go:127", after := #[{ on := 19, ground := Go.Ground.data }, { on := 2, ground := Go.Ground.guard }], guard := some (2, false) }) (v := undef) rfl (by decide) (by kernel_rfl) (by kernel_rfl) (by kernel_rfl) (by kernel_rfl) (fun _ _ _ h => h) (Or.inr ⟨by rfl, rfl⟩) hS1 ?_
        try simp only [Act.put, List.setIfInBounds_toArray, List.set_cons_zero, List.set_cons_succ]
        refine anyR_take (i := 21) (oi := { dst := some 63, op := Go.Op.fieldAddr 124 (Go.Operand.tmp 62) 0, type := 0, pos := "chart.go:127", after := #[{ on := 20, ground := Go.Ground.data }, { on := 2, ground := Go.Ground.guard }], guard := some (2, false) }) (v := undef) rfl (by decide) (by kernel_rfl) (by kernel_rfl) (by kernel_rfl) (by kernel_rfl) (fun _ _ _ h => h) (Or.inr ⟨by rfl, rfl⟩) hS1 ?_
        try simp only [Act.put, List.setIfInBounds_toArray, List.set_cons_zero, List.set_cons_succ]
        refine anyR_take (i := 22) (oi := { dst := some 64, op := Go.Op.load 86 (Go.Operand.tmp 63), type := 86, pos := "chart.go:127", after := #[{ on := 21, ground := Go.Ground.data }, { on := 2, ground := Go.Ground.guard }], guard := some (2, false) }) (v := undef) rfl (by decide) (by kernel_rfl) (by kernel_rfl) (by kernel_rfl) (by kernel_rfl) (fun _ _ _ h => h) (Or.inr ⟨by rfl, rfl⟩) hS1 ?_
        try simp only [Act.put, List.setIfInBounds_toArray, List.set_cons_zero, List.set_cons_succ]
        refine anyR_take (i := 23) (oi := { dst := some 65, op := Go.Op.nilCheck (Go.Operand.tmp 64), type := 0, pos := "chart.go:127", after := #[{ on := 22, ground := Go.Ground.data }, { on := 2, ground := Go.Ground.guard }], guard := some (2, false) }) (v := undef) rfl (by decide) (by kernel_rfl) (by kernel_rfl) (by kernel_rfl) (by kernel_rfl) (fun _ _ _ h => h) (Or.inr ⟨by rfl, rfl⟩) hS1 ?_
        try simp only [Act.put, List.setIfInBounds_toArray, List.set_cons_zero, List.set_cons_succ]
        refine anyR_take (i := 24) (oi := { dst := some 66, op := Go.Op.fieldAddr 93 (Go.Operand.tmp 65) 0, type := 0, pos := "chart.go:127", after := #[{ on := 23, ground := Go.Ground.data }, { on := 2, ground := Go.Ground.guard }], guard := some (2, false) }) (v := undef) rfl (by decide) (by kernel_rfl) (by kernel_rfl) (by kernel_rfl) (by kernel_rfl) (fun _ _ _ h => h) (Or.inr ⟨by rfl, rfl⟩) hS1 ?_
        try simp only [Act.put, List.setIfInBounds_toArray, List.set_cons_zero, List.set_cons_succ]
        refine anyR_take (i := 25) (oi := { dst := some 67, op := Go.Op.load 72 (Go.Operand.tmp 66), type := 72, pos := "chart.go:127", after := #[{ on := 24, ground := Go.Ground.data }, { on := 2, ground := Go.Ground.guard }], guard := some (2, false) }) (v := undef) rfl (by decide) (by kernel_rfl) (by kernel_rfl) (by kernel_rfl) (by kernel_rfl) (fun _ _ _ h => h) (Or.inr ⟨by rfl, rfl⟩) hS1 ?_
        try simp only [Act.put, List.setIfInBounds_toArray, List.set_cons_zero, List.set_cons_succ]
        refine anyR_take (i := 26) (oi := { dst := some 68, op := Go.Op.nilCheck (Go.Operand.tmp 67), type := 0, pos := "chart.go:127", after := #[{ on := 25, ground := Go.Ground.data }, { on := 2, ground := Go.Ground.guard }], guard := some (2, false) }) (v := undef) rfl (by decide) (by kernel_rfl) (by kernel_rfl) (by kernel_rfl) (by kernel_rfl) (fun _ _ _ h => h) (Or.inr ⟨by rfl, rfl⟩) hS1 ?_
        try simp only [Act.put, List.setIfInBounds_toArray, List.set_cons_zero, List.set_cons_succ]
        refine anyR_take (i := 27) (oi := { dst := some 69, op := Go.Op.fieldAddr 112 (Go.Operand.tmp 68) 1, type := 0, pos := "chart.go:127", after := #[{ on := 26, ground := Go.Ground.data }, { on := 2, ground := Go.Ground.guard }], guard := some (2, false) }) (v := undef) rfl (by decide) (by kernel_rfl) (by kernel_rfl) (by kernel_rfl) (by kernel_rfl) (fun _ _ _ h => h) (Or.inr ⟨by rfl, rfl⟩) hS1 ?_
        try simp only [Act.put, List.setIfInBounds_toArray, List.set_cons_zero, List.set_cons_succ]
        refine anyR_take (i := 28) (oi := { dst := some 70, op := Go.Op.load 25 (Go.Operand.tmp 69), type := 25, pos := "chart.go:127", after := #[{ on := 27, ground := Go.Ground.data }, { on := 2, ground := Go.Ground.guard }], guard := some (2, false) }) (v := undef) rfl (by decide) (by kernel_rfl) (by kernel_rfl) (by kernel_rfl) (by kernel_rfl) (fun _ _ _ h => h) (Or.inr ⟨by rfl, rfl⟩) hS1 ?_
        try simp only [Act.put, List.setIfInBounds_toArray, List.set_cons_zero, List.set_cons_succ]
        refine anyR_take (i := 29) (oi := { dst := some 71, op := Go.Op.call { callee := Go.Callee.builtin Go.Builtin.len, args := #[Go.Operand.tmp 70], argTypes := #[25] }, type := 3, pos := "chart.go:127", after := #[{ on := 28, ground := Go.Ground.data }, { on := 2, ground := Go.Ground.guard }], guard := some (2, false) }) (v := undef) rfl (by decide) (by kernel_rfl) (by kernel_rfl) (by kernel_rfl) (by kernel_rfl) (fun _ _ _ h => h) (Or.inr ⟨by rfl, rfl⟩) hS1 ?_
        try simp only [Act.put, List.setIfInBounds_toArray, List.set_cons_zero, List.set_cons_succ]
        refine anyR_take (i := 30) (oi := { dst := some 72, op := Go.Op.slice 79 (Go.Operand.tmp 5) none (some (Go.Operand.tmp 71)) none, type := 38, pos := "chart.go:127", after := #[{ on := 29, ground := Go.Ground.data }, { on := 2, ground := Go.Ground.guard }], guard := some (2, false) }) (v := undef) rfl (by decide) (by kernel_rfl) (by kernel_rfl) (by kernel_rfl) (by kernel_rfl) (fun _ _ _ h => h) (Or.inr ⟨by rfl, rfl⟩) hS1 ?_
        try simp only [Act.put, List.setIfInBounds_toArray, List.set_cons_zero, List.set_cons_succ]
        refine anyR_take (i := 31) (oi := { dst := some 73, op := Go.Op.buildSlice 25 2 #[(0, Go.Operand.tmp 60), (1, Go.Operand.tmp 72)], type := 25, pos := "chart.go:127", after := #[{ on := 18, ground := Go.Ground.data }, { on := 30, ground := Go.Ground.data }, { on := 2, ground := Go.Ground.guard }], guard := some (2, false) }) (v := undef) rfl (by decide) (by kernel_rfl) (by kernel_rfl) (by kernel_rfl) (by kernel_rfl) (fun _ _ _ h => h) (Or.inr ⟨by rfl, rfl⟩) hS1 ?_
        try simp only [Act.put, List.setIfInBounds_toArray, List.set_cons_zero, List.set_cons_succ]
        refine anyR_take (i := 32) (oi := { dst := some 74, op := Go.Op.call { callee := Go.Callee.value (Go.Operand.func 85), args := #[Go.Operand.tmp 73], argTypes := #[25] }, type := 4, pos := "chart.go:127", after := #[{ on := 31, ground := Go.Ground.data }, { on := 2, ground := Go.Ground.chain }, { on := 2, ground := Go.Ground.guard }], guard := some (2, false) }) (v := undef) rfl (by decide) (by kernel_rfl) (by kernel_rfl) (by kernel_rfl) (by kernel_rfl) (fun _ _ _ h => h) (Or.inr ⟨by rfl, rfl⟩) hS1 ?_
        try simp only [Act.put, List.setIfInBounds_toArray, List.set_cons_zero, List.set_cons_succ]
        refine anyR_take (i := 33) (oi := { dst := some 75, op := Go.Op.pick (Go.Operand.tmp 44) (Go.Operand.const (Go.Value.bool true)) (Go.Operand.tmp 74), type := 4, pos := "chart.go:127", after := #[{ on := 2, ground := Go.Ground.data }, { on := 32, ground := Go.Ground.data }], guard := none }) (v := .bool true) rfl (by decide) (by kernel_rfl) (by kernel_rfl) (by kernel_rfl) (by kernel_rfl) (fun _ _ _ h => h) (Or.inl ⟨by rfl, by intro V9 hSw; (try dsimp only at hSw); go_simp⟩) hS1 ?_
        try simp only [Act.put, List.setIfInBounds_toArray, List.set_cons_zero, List.set_cons_succ]
        refine anyR_done (by kernel_rfl) ?_ _
        obtain ⟨XX, hXX⟩ : ∃ X0, X1.drew = X0 := ⟨_, rfl⟩
        rw [hXX] at hS1 ⊢
        have HSX := Lib.hid (HS1.out.trans (hS1.mono HS1.out.size))
        replace t4 := (hS1.cell (lt_of_cell t4)).trans t4
        replace x0 := (hS1.cell (lt_of_cell x0)).trans x0
        replace x1 := (hS1.cell (lt_of_cell x1)).trans x1
        replace x2 := (hS1.cell (lt_of_cell x2)).trans x2
        replace x3 := (hS1.cell (lt_of_cell x3)).trans x3
        clear hXX hS1 t1 v0 b0 d1
        have hrm1 := HI2.out.rm.keep (Keeps.of_new HSX.out (Mut := fun _ => False)) (fun e => e)
        have hk0 := keep_alloc (fun _ => False) XX (.cells #[.int .i64 (iAt x 0), .int .i64 (iAt x 1), .int .i64 (iAt x 2), .int .i64 (iAt x 3)] 79)
        obtain ⟨W3, hrun, hrm3, hkp3⟩ := (hrm1.keep hk0 (fun e => e)).put x hK8 (by rw [Hgn.out]; have := Hc.out; omega) (heap_alloc_new_ XX (.cells #[.int .i64 (iAt x 0), .int .i64 (iAt x 1), .int .i64 (iAt x 2), .int .i64 (iAt x 3)] 79))
        rw [Hgn.out] at hrun
        have hrow3 : W3.heap[T4]? = some (.cells #[.slice (some ⟨R, 0, none⟩) gn K] 76 (0, 0)) := by
          have h0 := HI2.out.row
          rw [Hgn.out] at h0
          have h1 := (HSX.out.block _ (lt_of_block h0)).trans h0
          exact (hkp3.block _ (by have := hk0.size; have := lt_of_block h1; omega) (by have := HP1.out; show ¬ _ = _; omega)).trans ((hk0.block _ (lt_of_block h1) (fun e => e)).trans h1)
        have c3 : W3.cell? ⟨T4, 0, none⟩ = some (.slice (some ⟨R, 0, none⟩) gn K) := by rw [cell_row hrow3]; rfl
        have f3 : W3.frozen? ⟨T4, 0, none⟩ = false := frozen_row hrow3
        have HTs := Lib.hid (set_same 0 (.slice (some ⟨R, 0, none⟩) (gn + 1) K) hrow3)
        have HKs := Lib.hid (keeps_setCell W3 T4 0 (.slice (some ⟨R, 0, none⟩) (gn + 1) K))
        have HKa := Lib.hid (show Keeps (fun k => k = T4 ∨ k = R) W2 W3 from ((Keeps.of_new HSX.out).trans hk0.none).trans (hkp3.mono (fun k _ e => .inr e)))
        have HRm := Lib.hid hrm3
        clear hrm1 hk0 hrm3 hkp3 hrow3
        gi_wp2_with fail
        try rw [hrun]
        try gi_wp2_with fail
        have hts := HTs.out
        have hks := HKs.out
        obtain ⟨XF, hXF⟩ : ∃ XF, W3.setCell ⟨T4, 0, none⟩ (.slice (some ⟨R, 0, none⟩) (gn + 1) K) = XF := ⟨_, rfl⟩
        rw [hXF] at hts hks ⊢
        clear hXF
        have hk1 : Keeps (fun k => k = T4 ∨ k = R) W2 XF := HKa.out.trans (hks.mono (fun k _ e => .inl e))
        refine ⟨O, Grow.refl _ _ _, hk1.mono (fun k _ e => .inl e), ?_⟩
        show FiI T4 R K w3 (fstS nm L m (pre ++ [x])) XF
        rw [Hgs.out, HK.out]
        unfold grd
        rw [if_pos ⟨by rw [Hblv.out, Hgn.out]; have := Hc.out; omega, HEx.out⟩]
        refine ⟨?_, HRm.out.keep hks (by have := HP1.out; show ¬ _ = _; omega), HI2.out.keep.trans (hk1.mono (fun k _ e => .inr e))⟩
        rw [List.length_append, Hgn.out]
        exact hts
      · skip
        have d0 : ((gn : Int) == 0) = false := by rw [beq_eq_false_iff_ne]; omega
        obtain ⟨q, hq⟩ : ∃ q : Nat, (gn : Int) - 1 = (q : Int) := ⟨gn - 1, by omega⟩
        have hql : q + 1 = gn := by omega
        have Hq := Lib.hid (show (gn : Int) - 1 = (q : Int) ∧ q + 1 = gn from ⟨hq, hql⟩)
        have j0 : (0 : Int) ≤ (q : Int) := by omega
        have j1 : (q : Int) < (gn : Int) := by omega
        have hex := ext_last (m := m) (x := x) (g := g) (by rw [Hgn.out]; omega)
        rw [Hgn.out, show gn - 1 = q by omega] at hex
        clear hq hql hg0
        cases hbf : befB (lAt g q) x m with
        | true =>
          have HBf := Lib.hid hbf
          have HEx := Lib.hid (show ext (bef m) g x = true by rw [hex, hbf])
          clear hbf hex
          have hS1 : Below X1.heap.size X1 X1.drew := drew_b _ 1
          refine region_R (z := 100) (S := fun V9 => Below X1.heap.size X1 V9) (by kernel_rfl) ?_
          refine anyR_take (i := 0) (oi := { dst := some 42, op := Go.Op.move (Go.Operand.tmp 6), type := 3, pos := "chart.go:127", after := #[], guard := none }) (v := .int .i64 (gn : Int)) rfl (by decide) (by kernel_rfl) (by kernel_rfl) (by kernel_rfl) (by kernel_rfl) (fun _ _ _ h => h) (Or.inl ⟨by rfl, by intro V9 hSw; (try dsimp only at hSw); go_simp⟩) hS1 ?_
          try simp only [Act.put, List.setIfInBounds_toArray, List.set_cons_zero, List.set_cons_succ]
          refine anyR_take (i := 1) (oi := { dst := some 43, op := Go.Op.binOp Go.BinOp.eql 3 (Go.Operand.tmp 42) (Go.Operand.const (Go.Value.int Go.IntKind.i64 0)) 3, type := 4, pos := "chart.go:127", after := #[{ on := 0, ground := Go.Ground.data }], guard := none }) (v := .bool false) rfl (by decide) (by kernel_rfl) (by kernel_rfl) (by kernel_rfl) (by kernel_rfl) (fun _ _ _ h => h) (Or.inl ⟨by rfl, by intro V9 hSw; (try dsimp only at hSw); go_simp⟩) hS1 ?_
          try simp only [Act.put, List.setIfInBounds_toArray, List.set_cons_zero, List.set_cons_succ]
          refine anyR_take (i := 2) (oi := { dst := some 44, op := Go.Op.move (Go.Operand.tmp 43), type := 4, pos := "chart.go:127", after := #[{ on := 1, ground := Go.Ground.data }], guard := none }) (v := .bool false) rfl (by decide) (by kernel_rfl) (by kernel_rfl) (by kernel_rfl) (by kernel_rfl) (fun _ _ _ h => h) (Or.inl ⟨by rfl, by intro V9 hSw; (try dsimp only at hSw); go_simp⟩) hS1 ?_
          try simp only [Act.put, List.setIfInBounds_toArray, List.set_cons_zero, List.set_cons_succ]
          refine anyR_take (i := 3) (oi := { dst := some 45, op := Go.Op.load 76 (Go.Operand.tmp 4), type := 76, pos := "chart.go:127", after := #[{ on := 2, ground := Go.Ground.guard }], guard := some (2, false) }) (v := .slice (some ⟨R, 0, none⟩) gn K) rfl (by decide) (by kernel_rfl) (by kernel_rfl) (by kernel_rfl) (by kernel_rfl) (fun _ _ _ h => h) (Or.inl ⟨by rfl, by intro V9 hSw; (try dsimp only at hSw); have q_t4 := (hSw.cell (lt_of_cell t4)).trans t4; go_simp⟩) hS1 ?_
          try simp only [Act.put, List.setIfInBounds_toArray, List.set_cons_zero, List.set_cons_succ]
          refine anyR_take (i := 4) (oi := { dst := some 46, op := Go.Op.move (Go.Operand.tmp 6), type := 3, pos := "chart.go:127", after := #[{ on := 2, ground := Go.Ground.guard }], guard := some (2, false) }) (v := .int .i64 (gn : Int)) rfl (by decide) (by kernel_rfl) (by kernel_rfl) (by kernel_rfl) (by kernel_rfl) (fun _ _ _ h => h) (Or.inl ⟨by rfl, by intro V9 hSw; (try dsimp only at hSw); go_simp⟩) hS1 ?_
          try simp only [Act.put, List.setIfInBounds_toArray, List.set_cons_zero, List.set_cons_succ]
          refine anyR_take (i := 5) (oi := { dst := some 47, op := Go.Op.binOp Go.BinOp.sub 3 (Go.Operand.tmp 46) (Go.Operand.const (Go.Value.int Go.IntKind.i64 1)) 3, type := 3, pos := "chart.go:127", after := #[{ on := 4, ground := Go.Ground.data }, { on := 2, ground := Go.Ground.guard }], guard := some (2, false) }) (v := .int .i64 (q : Int)) rfl (by decide) (by kernel_rfl) (by kernel_rfl) (by kernel_rfl) (by kernel_rfl) (fun _ _ _ h => h) (Or.inl ⟨by rfl, by intro V9 hSw; (try dsimp only at hSw); have hq9 := Hq.out.1; go_simp; exact IntWalk.i64_in _ (by omega)⟩) hS1 ?_
          try simp only [Act.put, List.setIfInBounds_toArray, List.set_cons_zero, List.set_cons_succ]
          refine anyR_take (i := 6) (oi := { dst := some 48, op := Go.Op.indexAddr 76 (Go.Operand.tmp 45) (Go.Operand.tmp 47), type := 0, pos := "chart.go:127", after := #[{ on := 3, ground := Go.Ground.data }, { on := 5, ground := Go.Ground.data }, { on := 2, ground := Go.Ground.guard }], guard := some (2, false) }) (v := .pointer (some ⟨R, q * 4, none⟩)) rfl (by decide) (by kernel_rfl) (by kernel_rfl) (by kernel_rfl) (by kernel_rfl) (fun _ _ _ h => h) (Or.inl ⟨by rfl, by intro V9 hSw; (try dsimp only at hSw); go_simp⟩) hS1 ?_
          try simp only [Act.put, List.setIfInBounds_toArray, List.set_cons_zero, List.set_cons_succ]
          refine anyR_take (i := 7) (oi := { dst := some 49, op := Go.Op.load 98 (Go.Operand.tmp 1), type := 98, pos := "chart.go:127", after := #[{ on := 2, ground := Go.Ground.guard }], guard := some (2, false) }) (v := .pointer (some ⟨Vp, 0, none⟩)) rfl (by decide) (by kernel_rfl) (by kernel_rfl) (by kernel_rfl) (by kernel_rfl) (fun _ _ _ h => h) (Or.inl ⟨by rfl, by intro V9 hSw; (try dsimp only at hSw); have q_t1 := (hSw.cell (lt_of_cell t1)).trans t1; go_simp⟩) hS1 ?_
          try simp only [Act.put, List.setIfInBounds_toArray, List.set_cons_zero, List.set_cons_succ]
          refine anyR_take (i := 8) (oi := { dst := some 50, op := Go.Op.nilCheck (Go.Operand.tmp 49), type := 0, pos := "chart.go:127", after := #[{ on := 7, ground := Go.Ground.data }, { on := 2, ground := Go.Ground.guard }], guard := some (2, false) }) (v := .pointer (some ⟨Vp, 0, none⟩)) rfl (by decide) (by kernel_rfl) (by kernel_rfl) (by kernel_rfl) (by kernel_rfl) (fun _ _ _ h => h) (Or.inl ⟨by rfl, by intro V9 hSw; (try dsimp only at hSw); go_simp⟩) hS1 ?_
          try simp only [Act.put, List.setIfInBounds_toArray, List.set_cons_zero, List.set_cons_succ]
          refine anyR_take (i := 9) (oi := { dst := some 51, op := Go.Op.fieldAddr 124 (Go.Operand.tmp 50) 0, type := 0, pos := "chart.go:127", after := #[{ on := 8, ground := Go.Ground.data }, { on := 2, ground := Go.Ground.guard }], guard := some (2, false) }) (v := .pointer (some ⟨Vp, 0, none⟩)) rfl (by decide) (by kernel_rfl) (by kernel_rfl) (by kernel_rfl) (by kernel_rfl) (fun _ _ _ h => h) (Or.inl ⟨by rfl, by intro V9 hSw; (try dsimp only at hSw); go_simp⟩) hS1 ?_
          try simp only [Act.put, List.setIfInBounds_toArray, List.set_cons_zero, List.set_cons_succ]
          refine anyR_take (i := 10) (oi := { dst := some 52, op := Go.Op.load 86 (Go.Operand.tmp 51), type := 86, pos := "chart.go:127", after := #[{ on := 9, ground := Go.Ground.data }, { on := 2, ground := Go.Ground.guard }], guard := some (2, false) }) (v := .pointer (some ⟨Cf, 0, none⟩)) rfl (by decide) (by kernel_rfl) (by kernel_rfl) (by kernel_rfl) (by kernel_rfl) (fun _ _ _ h => h) (Or.inl ⟨by rfl, by intro V9 hSw; (try dsimp only at hSw); have q_v0 := (hSw.cell (lt_of_cell v0)).trans v0; go_simp⟩) hS1 ?_
          try simp only [Act.put, List.setIfInBounds_toArray, List.set_cons_zero, List.set_cons_succ]
          refine anyR_take (i := 11) (oi := { dst := some 53, op := Go.Op.nilCheck (Go.Operand.tmp 52), type := 0, pos := "chart.go:127", after := #[{ on := 10, ground := Go.Ground.data }, { on := 2, ground := Go.Ground.guard }], guard := some (2, false) }) (v := .pointer (some ⟨Cf, 0, none⟩)) rfl (by decide) (by kernel_rfl) (by kernel_rfl) (by kernel_rfl) (by kernel_rfl) (fun _ _ _ h => h) (Or.inl ⟨by rfl, by intro V9 hSw; (try dsimp only at hSw); go_simp⟩) hS1 ?_
          try simp only [Act.put, List.setIfInBounds_toArray, List.set_cons_zero, List.set_cons_succ]
          refine anyR_take (i := 12) (oi := { dst := some 54, op := Go.Op.fieldAddr 93 (Go.Operand.tmp 53) 0, type := 0, pos := "chart.go:127", after := #[{ on := 11, ground := Go.Ground.data }, { on := 2, ground := Go.Ground.guard }], guard := some (2, false) }) (v := .pointer (some ⟨Cf, 0, none⟩)) rfl (by decide) (by kernel_rfl) (by kernel_rfl) (by kernel_rfl) (by kernel_rfl) (fun _ _ _ h => h) (Or.inl ⟨by rfl, by intro V9 hSw; (try dsimp only at hSw); go_simp⟩) hS1 ?_
          try simp only [Act.put, List.setIfInBounds_toArray, List.set_cons_zero, List.set_cons_succ]
          refine anyR_take (i := 13) (oi := { dst := some 55, op := Go.Op.load 72 (Go.Operand.tmp 54), type := 72, pos := "chart.go:127", after := #[{ on := 12, ground := Go.Ground.data }, { on := 2, ground := Go.Ground.guard }], guard := some (2, false) }) (v := .pointer (some ⟨B, 0, none⟩)) rfl (by decide) (by kernel_rfl) (by kernel_rfl) (by kernel_rfl) (by kernel_rfl) (fun _ _ _ h => h) (Or.inl ⟨by rfl, by intro V9 hSw; (try dsimp only at hSw); have q_b0 := (hSw.cell (lt_of_cell b0)).trans b0; go_simp⟩) hS1 ?_
          try simp only [Act.put, List.setIfInBounds_toArray, List.set_cons_zero, List.set_cons_succ]
          refine anyR_take (i := 14) (oi := { dst := some 56, op := Go.Op.nilCheck (Go.Operand.tmp 55), type := 0, pos := "chart.go:127", after := #[{ on := 13, ground := Go.Ground.data }, { on := 2, ground := Go.Ground.guard }], guard := some (2, false) }) (v := .pointer (some ⟨B, 0, none⟩)) rfl (by decide) (by kernel_rfl) (by kernel_rfl) (by kernel_rfl) (by kernel_rfl) (fun _ _ _ h => h) (Or.inl ⟨by rfl, by intro V9 hSw; (try dsimp only at hSw); go_simp⟩) hS1 ?_
          try simp only [Act.put, List.setIfInBounds_toArray, List.set_cons_zero, List.set_cons_succ]
          refine anyR_take (i := 15) (oi := { dst := some 57, op := Go.Op.fieldAddr 112 (Go.Operand.tmp 56) 1, type := 0, pos := "chart.go:127", after := #[{ on := 14, ground := Go.Ground.data }, { on := 2, ground := Go.Ground.guard }], guard := some (2, false) }) (v := .pointer (some ⟨B, 1, none⟩)) rfl (by decide) (by kernel_rfl) (by kernel_rfl) (by kernel_rfl) (by kernel_rfl) (fun _ _ _ h => h) (Or.inl ⟨by rfl, by intro V9 hSw; (try dsimp only at hSw); go_simp⟩) hS1 ?_
          try simp only [Act.put, List.setIfInBounds_toArray, List.set_cons_zero, List.set_cons_succ]
          refine anyR_take (i := 16) (oi := { dst := some 58, op := Go.Op.load 25 (Go.Operand.tmp 57), type := 25, pos := "chart.go:127", after := #[{ on := 15, ground := Go.Ground.data }, { on := 2, ground := Go.Ground.guard }], guard := some (2, false) }) (v := .slice A2 m cap2) rfl (by decide) (by kernel_rfl) (by kernel_rfl) (by kernel_rfl) (by kernel_rfl) (fun _ _ _ h => h) (Or.inl ⟨by rfl, by intro V9 hSw; (try dsimp only at hSw); have q_d1 := (hSw.cell (lt_of_cell d1)).trans d1; go_simp⟩) hS1 ?_
          try simp only [Act.put, List.setIfInBounds_toArray, List.set_cons_zero, List.set_cons_succ]
          refine anyR_take (i := 17) (oi := { dst := some 59, op := Go.Op.call { callee := Go.Callee.builtin Go.Builtin.len, args := #[Go.Operand.tmp 58], argTypes := #[25] }, type := 3, pos := "chart.go:127", after := #[{ on := 16, ground := Go.Ground.data }, { on := 2, ground := Go.Ground.guard }], guard := some (2, false) }) (v := .int .i64 (m : Int)) rfl (by decide) (by kernel_rfl) (by kernel_rfl) (by kernel_rfl) (by kernel_rfl) (fun _ _ _ h => h) (Or.inl ⟨by rfl, by intro V9 hSw; (try dsimp only at hSw); go_simp⟩) hS1 ?_
          try simp only [Act.put, List.setIfInBounds_toArray, List.set_cons_zero, List.set_cons_succ]
          refine anyR_take (i := 18) (oi := { dst := some 60, op := Go.Op.slice 79 (Go.Operand.tmp 48) none (some (Go.Operand.tmp 59)) none, type := 38, pos := "chart.go:127", after := #[{ on := 6, ground := Go.Ground.data }, { on := 17, ground := Go.Ground.data }, { on := 2, ground := Go.Ground.guard }], guard := some (2, false) }) (v := .slice (some ⟨R, q * 4, none⟩) m 4) rfl (by decide) (by kernel_rfl) (by kernel_rfl) (by kernel_rfl) (by kernel_rfl) (fun _ _ _ h => h) (Or.inl ⟨by rfl, by intro V9 hSw; (try dsimp only at hSw); have hs9 := slice79m R (q * 4) m hm4 V9; go_simp⟩) hS1 ?_
          try simp only [Act.put, List.setIfInBounds_toArray, List.set_cons_zero, List.set_cons_succ]
          refine anyR_take (i := 19) (oi := { dst := some 61, op := Go.Op.load 98 (Go.Operand.tmp 1), type := 98, pos := "chart.go:127", after := #[{ on := 2, ground := Go.Ground.guard }], guard := some (2, false) }) (v := .pointer (some ⟨Vp, 0, none⟩)) rfl (by decide) (by kernel_rfl) (by kernel_rfl) (by kernel_rfl) (by kernel_rfl) (fun _ _ _ h => h) (Or.inl ⟨by rfl, by intro V9 hSw; (try dsimp only at hSw); have q_t1 := (hSw.cell (lt_of_cell t1)).trans t1; go_simp⟩) hS1 ?_
          try simp only [Act.put, List.setIfInBounds_toArray, List.set_cons_zero, List.set_cons_succ]
          refine anyR_take (i := 20) (oi := { dst := some 62, op := Go.Op.nilCheck (Go.Operand.tmp 61), type := 0, pos := "chart.go:127", after := #[{ on := 19, ground := Go.Ground.data }, { on := 2, ground := Go.Ground.guard }], guard := some (2, false) }) (v := .pointer (some ⟨Vp, 0, none⟩)) rfl (by decide) (by kernel_rfl) (by kernel_rfl) (by kernel_rfl) (by kernel_rfl) (fun _ _ _ h => h) (Or.inl ⟨by rfl, by intro V9 hSw; (try dsimp only at hSw); go_simp⟩) hS1 ?_
          try simp only [Act.put, List.setIfInBounds_toArray, List.set_cons_zero, List.set_cons_succ]
          refine anyR_take (i := 21) (oi := { dst := some 63, op := Go.Op.fieldAddr 124 (Go.Operand.tmp 62) 0, type := 0, pos := "chart.go:127", after := #[{ on := 20, ground := Go.Ground.data }, { on := 2, ground := Go.Ground.guard }], guard := some (2, false) }) (v := .pointer (some ⟨Vp, 0, none⟩)) rfl (by decide) (by kernel_rfl) (by kernel_rfl) (by kernel_rfl) (by kernel_rfl) (fun _ _ _ h => h) (Or.inl ⟨by rfl, by intro V9 hSw; (try dsimp only at hSw); go_simp⟩) hS1 ?_
          try simp only [Act.put, List.setIfInBounds_toArray, List.set_cons_zero, List.set_cons_succ]
          refine anyR_take (i := 22) (oi := { dst := some 64, op := Go.Op.load 86 (Go.Operand.tmp 63), type := 86, pos := "chart.go:127", after := #[{ on := 21, ground := Go.Ground.data }, { on := 2, ground := Go.Ground.guard }], guard := some (2, false) }) (v := .pointer (some ⟨Cf, 0, none⟩)) rfl (by decide) (by kernel_rfl) (by kernel_rfl) (by kernel_rfl) (by kernel_rfl) (fun _ _ _ h => h) (Or.inl ⟨by rfl, by intro V9 hSw; (try dsimp only at hSw); have q_v0 := (hSw.cell (lt_of_cell v0)).trans v0; go_simp⟩) hS1 ?_
          try simp only [Act.put, List.setIfInBounds_toArray, List.set_cons_zero, List.set_cons_succ]
          refine anyR_take (i := 23) (oi := { dst := some 65, op := Go.Op.nilCheck (Go.Operand.tmp 64), type := 0, pos := "chart.go:127", after := #[{ on := 22, ground := Go.Ground.data }, { on := 2, ground := Go.Ground.guard }], guard := some (2, false) }) (v := .pointer (some ⟨Cf, 0, none⟩)) rfl (by decide) (by kernel_rfl) (by kernel_rfl) (by kernel_rfl) (by kernel_rfl) (fun _ _ _ h => h) (Or.inl ⟨by rfl, by intro V9 hSw; (try dsimp only at hSw); go_simp⟩) hS1 ?_
          try simp only [Act.put, List.setIfInBounds_toArray, List.set_cons_zero, List.set_cons_succ]
          refine anyR_take (i := 24) (oi := { dst := some 66, op := Go.Op.fieldAddr 93 (Go.Operand.tmp 65) 0, type := 0, pos := "chart.go:127", after := #[{ on := 23, ground := Go.Ground.data }, { on := 2, ground := Go.Ground.guard }], guard := some (2, false) }) (v := .pointer (some ⟨Cf, 0, none⟩)) rfl (by decide) (by kernel_rfl) (by kernel_rfl) (by kernel_rfl) (by kernel_rfl) (fun _ _ _ h => h) (Or.inl ⟨by rfl, by intro V9 hSw; (try dsimp only at hSw); go_simp⟩) hS1 ?_
          try simp only [Act.put, List.setIfInBounds_toArray, List.set_cons_zero, List.set_cons_succ]
          refine anyR_take (i := 25) (oi := { dst := some 67, op := Go.Op.load 72 (Go.Operand.tmp 66), type := 72, pos := "chart.go:127", after := #[{ on := 24, ground := Go.Ground.data }, { on := 2, ground := Go.Ground.guard }], guard := some (2, false) }) (v := .pointer (some ⟨B, 0, none⟩)) rfl (by decide) (by kernel_rfl) (by kernel_rfl) (by kernel_rfl) (by kernel_rfl) (fun _ _ _ h => h) (Or.inl ⟨by rfl, by intro V9 hSw; (try dsimp only at hSw); have q_b0 := (hSw.cell (lt_of_cell b0)).trans b0; go_simp⟩) hS1 ?_
          try simp only [Act.put, List.setIfInBounds_toArray, List.set_cons_zero, List.set_cons_succ]
          refine anyR_take (i := 26) (oi := { dst := some 68, op := Go.Op.nilCheck (Go.Operand.tmp 67), type := 0, pos := "chart.go:127", after := #[{ on := 25, ground := Go.Ground.data }, { on := 2, ground := Go.Ground.guard }], guard := some (2, false) }) (v := .pointer (some ⟨B, 0, none⟩)) rfl (by decide) (by kernel_rfl) (by kernel_rfl) (by kernel_rfl) (by kernel_rfl) (fun _ _ _ h => h) (Or.inl ⟨by rfl, by intro V9 hSw; (try dsimp only at hSw); go_simp⟩) hS1 ?_
          try simp only [Act.put, List.setIfInBounds_toArray, List.set_cons_zero, List.set_cons_succ]
          refine anyR_take (i := 27) (oi := { dst := some 69, op := Go.Op.fieldAddr 112 (Go.Operand.tmp 68) 1, type := 0, pos := "chart.go:127", after := #[{ on := 26, ground := Go.Ground.data }, { on := 2, ground := Go.Ground.guard }], guard := some (2, false) }) (v := .pointer (some ⟨B, 1, none⟩)) rfl (by decide) (by kernel_rfl) (by kernel_rfl) (by kernel_rfl) (by kernel_rfl) (fun _ _ _ h => h) (Or.inl ⟨by rfl, by intro V9 hSw; (try dsimp only at hSw); go_simp⟩) hS1 ?_
          try simp only [Act.put, List.setIfInBounds_toArray, List.set_cons_zero, List.set_cons_succ]
          refine anyR_take (i := 28) (oi := { dst := some 70, op := Go.Op.load 25 (Go.Operand.tmp 69), type := 25, pos := "chart.go:127", after := #[{ on := 27, ground := Go.Ground.data }, { on := 2, ground := Go.Ground.guard }], guard := some (2, false) }) (v := .slice A2 m cap2) rfl (by decide) (by kernel_rfl) (by kernel_rfl) (by kernel_rfl) (by kernel_rfl) (fun _ _ _ h => h) (Or.inl ⟨by rfl, by intro V9 hSw; (try dsimp only at hSw); have q_d1 := (hSw.cell (lt_of_cell d1)).trans d1; go_simp⟩) hS1 ?_
          try simp only [Act.put, List.setIfInBounds_toArray, List.set_cons_zero, List.set_cons_succ]
          refine anyR_take (i := 29) (oi := { dst := some 71, op := Go.Op.call { callee := Go.Callee.builtin Go.Builtin.len, args := #[Go.Operand.tmp 70], argTypes := #[25] }, type := 3, pos := "chart.go:127", after := #[{ on := 28, ground := Go.Ground.data }, { on := 2, ground := Go.Ground.guard }], guard := some (2, false) }) (v := .int .i64 (m : Int)) rfl (by decide) (by kernel_rfl) (by kernel_rfl) (by kernel_rfl) (by kernel_rfl) (fun _ _ _ h => h) (Or.inl ⟨by rfl, by intro V9 hSw; (try dsimp only at hSw); go_simp⟩) hS1 ?_
          try simp only [Act.put, List.setIfInBounds_toArray, List.set_cons_zero, List.set_cons_succ]
          refine anyR_take (i := 30) (oi := { dst := some 72, op := Go.Op.slice 79 (Go.Operand.tmp 5) none (some (Go.Operand.tmp 71)) none, type := 38, pos := "chart.go:127", after := #[{ on := 29, ground := Go.Ground.data }, { on := 2, ground := Go.Ground.guard }], guard := some (2, false) }) (v := .slice (some ⟨U, 0, none⟩) m 4) rfl (by decide) (by kernel_rfl) (by kernel_rfl) (by kernel_rfl) (by kernel_rfl) (fun _ _ _ h => h) (Or.inl ⟨by rfl, by intro V9 hSw; (try dsimp only at hSw); have hs9 := slice79m U 0 m hm4 V9; go_simp⟩) hS1 ?_
          try simp only [Act.put, List.setIfInBounds_toArray, List.set_cons_zero, List.set_cons_succ]
          obtain ⟨X2, hX2⟩ : ∃ X0, X1.drew = X0 := ⟨_, rfl⟩
          rw [hX2] at hS1 ⊢
          have HS2 := Lib.hid hS1
          clear hX2 hS1 t1 v0 b0 d1
          have hb9 := below_alloc_ X2 (.cells #[.slice (some ⟨R, q * 4, none⟩) m 4, .slice (some ⟨U, 0, none⟩) m 4] 38)
          have hr9 := heap_alloc_new_ X2 (.cells #[.slice (some ⟨R, q * 4, none⟩) m 4, .slice (some ⟨U, 0, none⟩) m 4] 38)
          refine anyR_one (i := 31) (o := { dst := some 73, op := Go.Op.buildSlice 25 2 #[(0, Go.Operand.tmp 60), (1, Go.Operand.tmp 72)], type := 25, pos := "chart.go:127", after := #[{ on := 18, ground := Go.Ground.data }, { on := 30, ground := Go.Ground.data }, { on := 2, ground := Go.Ground.guard }], guard := some (2, false) }) (by kernel_rfl) rfl (by rfl) ?_
          intro Kk hK
          have HKK := Lib.hid hK
          clear hK
          gi_wp2_with fail
          obtain ⟨X3, hX3⟩ : ∃ X3, X2.alloc (.cells #[.slice (some ⟨R, q * 4, none⟩) m 4, .slice (some ⟨U, 0, none⟩) m 4] 38) = X3 := ⟨_, rfl⟩
          obtain ⟨Z, hZ⟩ : ∃ Z, X2.heap.size = Z := ⟨_, rfl⟩
          rw [hX3] at hb9 hr9 ⊢
          rw [hZ] at hr9 ⊢
          have HS3 := Lib.hid (HS2.out.trans (hb9.mono HS2.out.size))
          have HZ9 := Lib.hid hr9
          refine HKK.out _ _ (fun _ _ => HS3.out) ?_
          clear HKK Kk hX3 hZ hb9 hr9
          try simp only [Act.put, List.setIfInBounds_toArray, List.set_cons_zero, List.set_cons_succ]
          have hrm3 := (HI2.out.rm.keep (Keeps.of_new HS1.out (Mut := fun _ => False)) (fun e => e)).keep (Keeps.of_new HS3.out (Mut := fun _ => False)) (fun e => e)
          have hrw3 := (HRow.out.keep (Keeps.of_new HS1.out (Mut := fun _ => False)) (fun e => e)).keep (Keeps.of_new HS3.out (Mut := fun _ => False)) (fun e => e)
          have htk : ∀ (p : List Int) i, i < m → iAt (p.take m) i = iAt p i := fun p i hi => by
            unfold iAt
            rw [List.getD_eq_getElem?_getD, List.getElem?_take_of_lt hi, ← List.getD_eq_getElem?_getD]
          have hgl4 : (lAt g q).length = 4 := (mtS_wpl (nm := nm) HL.out _ (HGm.out _ (by rw [lAt_eq (by rw [Hgn.out]; have := Hq.out; omega)]; exact List.getElem_mem _))).len
          have hlns : Lns X3 (some ⟨Z, 0, none⟩) 2 [(lAt g q).take m, x.take m] := by
            refine ⟨rfl, fun _ => ⟨Z, 0, rfl, fun j hj => ?_⟩⟩
            have hl1 : ((lAt g q).take m).length = m := by rw [List.length_take]; omega
            have hl2 : (x.take m).length = m := by rw [List.length_take, HWp.out.len]; omega
            rcases (show j = 0 ∨ j = 1 by omega) with rfl | rfl
            · show ∃ C c, X3.cell? ⟨Z, 0 + 0, none⟩ = some (.slice C ((lAt g q).take m).length c) ∧ Ints X3 C ((lAt g q).take m).length ((lAt g q).take m) ∧ ((lAt g q).take m).length ≤ c
              rw [hl1]
              exact ⟨_, 4, by rw [cell_row HZ9.out]; rfl, ⟨hl1, fun _ => ⟨R, q * 4, rfl, fun t ht => by rw [htk _ t ht]; exact hrm3.cell (by rw [Hgn.out]; have := Hq.out; omega) (by omega)⟩⟩, hm4⟩
            · show ∃ C c, X3.cell? ⟨Z, 0 + 1, none⟩ = some (.slice C (x.take m).length c) ∧ Ints X3 C (x.take m).length (x.take m) ∧ (x.take m).length ≤ c
              rw [hl2]
              exact ⟨_, 4, by rw [cell_row HZ9.out]; rfl, ⟨hl2, fun _ => ⟨U, 0, rfl, fun t ht => by rw [Nat.zero_add, htk _ t ht]; exact hrw3.cell (by omega)⟩⟩, hm4⟩
          have key := rising85 (some ⟨Z, 0, none⟩) 2 2 _ m X3 hlns (fun j hj => by
            rcases (show j = 0 ∨ j = 1 by omega) with rfl | rfl
            · show ((lAt g q).take m).length = m
              rw [List.length_take]; omega
            · show (x.take m).length = m
              rw [List.length_take, HWp.out.len]; omega) (by omega) (by omega)
          have hris : risK [(lAt g q).take m, x.take m] m (2 - 1) = befB (lAt g q) x m := by
            rw [← befB_take (a := lAt g q) (b := x) (m := m)]
            simp [risK, lAt]
          rw [hris, HBf.out] at key
          have Key := Lib.hid key
          clear key hris hlns htk hrm3 hrw3 hgl4
          refine anyR_one (i := 32) (o := { dst := some 74, op := Go.Op.call { callee := Go.Callee.value (Go.Operand.func 85), args := #[Go.Operand.tmp 73], argTypes := #[25] }, type := 4, pos := "chart.go:127", after := #[{ on := 31, ground := Go.Ground.data }, { on := 2, ground := Go.Ground.chain }, { on := 2, ground := Go.Ground.guard }], guard := some (2, false) }) (by kernel_rfl) rfl (by rfl) ?_
          intro Kk hK
          have HKK := Lib.hid hK
          clear hK
          go_simp
          refine ⟨trivial, wide_d, CallsIn.inRound l ((callsIn_wide.2 Key.out).mono ?_)⟩
          rintro en X4 ⟨rfl, rfl⟩
          refine HKK.out _ _ (fun _ _ => HS3.out) ?_
          clear HKK Kk Key
          try simp only [Act.put, List.setIfInBounds_toArray, List.set_cons_zero, List.set_cons_succ]
          refine anyR_take (i := 33) (oi := { dst := some 75, op := Go.Op.pick (Go.Operand.tmp 44) (Go.Operand.const (Go.Value.bool true)) (Go.Operand.tmp 74), type := 4, pos := "chart.go:127", after := #[{ on := 2, ground := Go.Ground.data }, { on := 32, ground := Go.Ground.data }], guard := none }) (v := .bool true) rfl (by decide) (by kernel_rfl) (by kernel_rfl) (by kernel_rfl) (by kernel_rfl) (fun _ _ _ h => h) (Or.inl ⟨by rfl, by intro V9 hSw; (try dsimp only at hSw); go_simp⟩) HS3.out ?_
          try simp only [Act.put, List.setIfInBounds_toArray, List.set_cons_zero, List.set_cons_succ]
          refine anyR_done (by kernel_rfl) ?_ _
          have HSX := Lib.hid (HS1.out.trans (HS3.out.mono HS1.out.size))
          obtain ⟨XX, hXX⟩ : ∃ XX, XX = X4 := ⟨_, rfl⟩
          rw [← hXX] at HSX HS3 HZ9 ⊢
          replace t4 := (HS3.out.cell (lt_of_cell t4)).trans t4
          replace x0 := (HS3.out.cell (lt_of_cell x0)).trans x0
          replace x1 := (HS3.out.cell (lt_of_cell x1)).trans x1
          replace x2 := (HS3.out.cell (lt_of_cell x2)).trans x2
          replace x3 := (HS3.out.cell (lt_of_cell x3)).trans x3
          clear hXX
          have hrm1 := HI2.out.rm.keep (Keeps.of_new HSX.out (Mut := fun _ => False)) (fun e => e)
          have hk0 := keep_alloc (fun _ => False) XX (.cells #[.int .i64 (iAt x 0), .int .i64 (iAt x 1), .int .i64 (iAt x 2), .int .i64 (iAt x 3)] 79)
          obtain ⟨W3, hrun, hrm3, hkp3⟩ := (hrm1.keep hk0 (fun e => e)).put x hK8 (by rw [Hgn.out]; have := Hc.out; omega) (heap_alloc_new_ XX (.cells #[.int .i64 (iAt x 0), .int .i64 (iAt x 1), .int .i64 (iAt x 2), .int .i64 (iAt x 3)] 79))
          rw [Hgn.out] at hrun
          have hrow3 : W3.heap[T4]? = some (.cells #[.slice (some ⟨R, 0, none⟩) gn K] 76 (0, 0)) := by
            have h0 := HI2.out.row
            rw [Hgn.out] at h0
            have h1 := (HSX.out.block _ (lt_of_block h0)).trans h0
            exact (hkp3.block _ (by have := hk0.size; have := lt_of_block h1; omega) (by have := HP1.out; show ¬ _ = _; omega)).trans ((hk0.block _ (lt_of_block h1) (fun e => e)).trans h1)
          have c3 : W3.cell? ⟨T4, 0, none⟩ = some (.slice (some ⟨R, 0, none⟩) gn K) := by rw [cell_row hrow3]; rfl
          have f3 : W3.frozen? ⟨T4, 0, none⟩ = false := frozen_row hrow3
          have HTs := Lib.hid (set_same 0 (.slice (some ⟨R, 0, none⟩) (gn + 1) K) hrow3)
          have HKs := Lib.hid (keeps_setCell W3 T4 0 (.slice (some ⟨R, 0, none⟩) (gn + 1) K))
          have HKa := Lib.hid (show Keeps (fun k => k = T4 ∨ k = R) W2 W3 from ((Keeps.of_new HSX.out).trans hk0.none).trans (hkp3.mono (fun k _ e => .inr e)))
          have HRm := Lib.hid hrm3
          clear hrm1 hk0 hrm3 hkp3 hrow3
          gi_wp2_with fail
          try rw [hrun]
          try gi_wp2_with fail
          have hts := HTs.out
          have hks := HKs.out
          obtain ⟨XF, hXF⟩ : ∃ XF, W3.setCell ⟨T4, 0, none⟩ (.slice (some ⟨R, 0, none⟩) (gn + 1) K) = XF := ⟨_, rfl⟩
          rw [hXF] at hts hks ⊢
          clear hXF
          have hk1 : Keeps (fun k => k = T4 ∨ k = R) W2 XF := HKa.out.trans (hks.mono (fun k _ e => .inl e))
          refine ⟨O, Grow.refl _ _ _, hk1.mono (fun k _ e => .inl e), ?_⟩
          show FiI T4 R K w3 (fstS nm L m (pre ++ [x])) XF
          rw [Hgs.out, HK.out]
          unfold grd
          rw [if_pos ⟨by rw [Hblv.out, Hgn.out]; have := Hc.out; omega, HEx.out⟩]
          refine ⟨?_, HRm.out.keep hks (by have := HP1.out; show ¬ _ = _; omega), HI2.out.keep.trans (hk1.mono (fun k _ e => .inr e))⟩
          rw [List.length_append, Hgn.out]
          exact hts
        | false =>
          have HBf := Lib.hid hbf
          have HEx := Lib.hid (show ext (bef m) g x = false by rw [hex, hbf])
          clear hbf hex
          have hS1 : Below X1.heap.size X1 X1.drew := drew_b _ 1
          refine region_R (z := 100) (S := fun V9 => Below X1.heap.size X1 V9) (by kernel_rfl) ?_
          refine anyR_take (i := 0) (oi := { dst := some 42, op := Go.Op.move (Go.Operand.tmp 6), type := 3, pos := "chart.go:127", after := #[], guard := none }) (v := .int .i64 (gn : Int)) rfl (by decide) (by kernel_rfl) (by kernel_rfl) (by kernel_rfl) (by kernel_rfl) (fun _ _ _ h => h) (Or.inl ⟨by rfl, by intro V9 hSw; (try dsimp only at hSw); go_simp⟩) hS1 ?_
          try simp only [Act.put, List.setIfInBounds_toArray, List.set_cons_zero, List.set_cons_succ]
          refine anyR_take (i := 1) (oi := { dst := some 43, op := Go.Op.binOp Go.BinOp.eql 3 (Go.Operand.tmp 42) (Go.Operand.const (Go.Value.int Go.IntKind.i64 0)) 3, type := 4, pos := "chart.go:127", after := #[{ on := 0, ground := Go.Ground.data }], guard := none }) (v := .bool false) rfl (by decide) (by kernel_rfl) (by kernel_rfl) (by kernel_rfl) (by kernel_rfl) (fun _ _ _ h => h) (Or.inl ⟨by rfl, by intro V9 hSw; (try dsimp only at hSw); go_simp⟩) hS1 ?_
          try simp only [Act.put, List.setIfInBounds_toArray, List.set_cons_zero, List.set_cons_succ]
          refine anyR_take (i := 2) (oi := { dst := some 44, op := Go.Op.move (Go.Operand.tmp 43), type := 4, pos := "chart.go:127", after := #[{ on := 1, ground := Go.Ground.data }], guard := none }) (v := .bool false) rfl (by decide) (by kernel_rfl) (by kernel_rfl) (by kernel_rfl) (by kernel_rfl) (fun _ _ _ h => h) (Or.inl ⟨by rfl, by intro V9 hSw; (try dsimp only at hSw); go_simp⟩) hS1 ?_
          try simp only [Act.put, List.setIfInBounds_toArray, List.set_cons_zero, List.set_cons_succ]
          refine anyR_take (i := 3) (oi := { dst := some 45, op := Go.Op.load 76 (Go.Operand.tmp 4), type := 76, pos := "chart.go:127", after := #[{ on := 2, ground := Go.Ground.guard }], guard := some (2, false) }) (v := .slice (some ⟨R, 0, none⟩) gn K) rfl (by decide) (by kernel_rfl) (by kernel_rfl) (by kernel_rfl) (by kernel_rfl) (fun _ _ _ h => h) (Or.inl ⟨by rfl, by intro V9 hSw; (try dsimp only at hSw); have q_t4 := (hSw.cell (lt_of_cell t4)).trans t4; go_simp⟩) hS1 ?_
          try simp only [Act.put, List.setIfInBounds_toArray, List.set_cons_zero, List.set_cons_succ]
          refine anyR_take (i := 4) (oi := { dst := some 46, op := Go.Op.move (Go.Operand.tmp 6), type := 3, pos := "chart.go:127", after := #[{ on := 2, ground := Go.Ground.guard }], guard := some (2, false) }) (v := .int .i64 (gn : Int)) rfl (by decide) (by kernel_rfl) (by kernel_rfl) (by kernel_rfl) (by kernel_rfl) (fun _ _ _ h => h) (Or.inl ⟨by rfl, by intro V9 hSw; (try dsimp only at hSw); go_simp⟩) hS1 ?_
          try simp only [Act.put, List.setIfInBounds_toArray, List.set_cons_zero, List.set_cons_succ]
          refine anyR_take (i := 5) (oi := { dst := some 47, op := Go.Op.binOp Go.BinOp.sub 3 (Go.Operand.tmp 46) (Go.Operand.const (Go.Value.int Go.IntKind.i64 1)) 3, type := 3, pos := "chart.go:127", after := #[{ on := 4, ground := Go.Ground.data }, { on := 2, ground := Go.Ground.guard }], guard := some (2, false) }) (v := .int .i64 (q : Int)) rfl (by decide) (by kernel_rfl) (by kernel_rfl) (by kernel_rfl) (by kernel_rfl) (fun _ _ _ h => h) (Or.inl ⟨by rfl, by intro V9 hSw; (try dsimp only at hSw); have hq9 := Hq.out.1; go_simp; exact IntWalk.i64_in _ (by omega)⟩) hS1 ?_
          try simp only [Act.put, List.setIfInBounds_toArray, List.set_cons_zero, List.set_cons_succ]
          refine anyR_take (i := 6) (oi := { dst := some 48, op := Go.Op.indexAddr 76 (Go.Operand.tmp 45) (Go.Operand.tmp 47), type := 0, pos := "chart.go:127", after := #[{ on := 3, ground := Go.Ground.data }, { on := 5, ground := Go.Ground.data }, { on := 2, ground := Go.Ground.guard }], guard := some (2, false) }) (v := .pointer (some ⟨R, q * 4, none⟩)) rfl (by decide) (by kernel_rfl) (by kernel_rfl) (by kernel_rfl) (by kernel_rfl) (fun _ _ _ h => h) (Or.inl ⟨by rfl, by intro V9 hSw; (try dsimp only at hSw); go_simp⟩) hS1 ?_
          try simp only [Act.put, List.setIfInBounds_toArray, List.set_cons_zero, List.set_cons_succ]
          refine anyR_take (i := 7) (oi := { dst := some 49, op := Go.Op.load 98 (Go.Operand.tmp 1), type := 98, pos := "chart.go:127", after := #[{ on := 2, ground := Go.Ground.guard }], guard := some (2, false) }) (v := .pointer (some ⟨Vp, 0, none⟩)) rfl (by decide) (by kernel_rfl) (by kernel_rfl) (by kernel_rfl) (by kernel_rfl) (fun _ _ _ h => h) (Or.inl ⟨by rfl, by intro V9 hSw; (try dsimp only at hSw); have q_t1 := (hSw.cell (lt_of_cell t1)).trans t1; go_simp⟩) hS1 ?_
          try simp only [Act.put, List.setIfInBounds_toArray, List.set_cons_zero, List.set_cons_succ]
          refine anyR_take (i := 8) (oi := { dst := some 50, op := Go.Op.nilCheck (Go.Operand.tmp 49), type := 0, pos := "chart.go:127", after := #[{ on := 7, ground := Go.Ground.data }, { on := 2, ground := Go.Ground.guard }], guard := some (2, false) }) (v := .pointer (some ⟨Vp, 0, none⟩)) rfl (by decide) (by kernel_rfl) (by kernel_rfl) (by kernel_rfl) (by kernel_rfl) (fun _ _ _ h => h) (Or.inl ⟨by rfl, by intro V9 hSw; (try dsimp only at hSw); go_simp⟩) hS1 ?_
          try simp only [Act.put, List.setIfInBounds_toArray, List.set_cons_zero, List.set_cons_succ]
          refine anyR_take (i := 9) (oi := { dst := some 51, op := Go.Op.fieldAddr 124 (Go.Operand.tmp 50) 0, type := 0, pos := "chart.go:127", after := #[{ on := 8, ground := Go.Ground.data }, { on := 2, ground := Go.Ground.guard }], guard := some (2, false) }) (v := .pointer (some ⟨Vp, 0, none⟩)) rfl (by decide) (by kernel_rfl) (by kernel_rfl) (by kernel_rfl) (by kernel_rfl) (fun _ _ _ h => h) (Or.inl ⟨by rfl, by intro V9 hSw; (try dsimp only at hSw); go_simp⟩) hS1 ?_
          try simp only [Act.put, List.setIfInBounds_toArray, List.set_cons_zero, List.set_cons_succ]
          refine anyR_take (i := 10) (oi := { dst := some 52, op := Go.Op.load 86 (Go.Operand.tmp 51), type := 86, pos := "chart.go:127", after := #[{ on := 9, ground := Go.Ground.data }, { on := 2, ground := Go.Ground.guard }], guard := some (2, false) }) (v := .pointer (some ⟨Cf, 0, none⟩)) rfl (by decide) (by kernel_rfl) (by kernel_rfl) (by kernel_rfl) (by kernel_rfl) (fun _ _ _ h => h) (Or.inl ⟨by rfl, by intro V9 hSw; (try dsimp only at hSw); have q_v0 := (hSw.cell (lt_of_cell v0)).trans v0; go_simp⟩) hS1 ?_
          try simp only [Act.put, List.setIfInBounds_toArray, List.set_cons_zero, List.set_cons_succ]
          refine anyR_take (i := 11) (oi := { dst := some 53, op := Go.Op.nilCheck (Go.Operand.tmp 52), type := 0, pos := "chart.go:127", after := #[{ on := 10, ground := Go.Ground.data }, { on := 2, ground := Go.Ground.guard }], guard := some (2, false) }) (v := .pointer (some ⟨Cf, 0, none⟩)) rfl (by decide) (by kernel_rfl) (by kernel_rfl) (by kernel_rfl) (by kernel_rfl) (fun _ _ _ h => h) (Or.inl ⟨by rfl, by intro V9 hSw; (try dsimp only at hSw); go_simp⟩) hS1 ?_
          try simp only [Act.put, List.setIfInBounds_toArray, List.set_cons_zero, List.set_cons_succ]
          refine anyR_take (i := 12) (oi := { dst := some 54, op := Go.Op.fieldAddr 93 (Go.Operand.tmp 53) 0, type := 0, pos := "chart.go:127", after := #[{ on := 11, ground := Go.Ground.data }, { on := 2, ground := Go.Ground.guard }], guard := some (2, false) }) (v := .pointer (some ⟨Cf, 0, none⟩)) rfl (by decide) (by kernel_rfl) (by kernel_rfl) (by kernel_rfl) (by kernel_rfl) (fun _ _ _ h => h) (Or.inl ⟨by rfl, by intro V9 hSw; (try dsimp only at hSw); go_simp⟩) hS1 ?_
          try simp only [Act.put, List.setIfInBounds_toArray, List.set_cons_zero, List.set_cons_succ]
          refine anyR_take (i := 13) (oi := { dst := some 55, op := Go.Op.load 72 (Go.Operand.tmp 54), type := 72, pos := "chart.go:127", after := #[{ on := 12, ground := Go.Ground.data }, { on := 2, ground := Go.Ground.guard }], guard := some (2, false) }) (v := .pointer (some ⟨B, 0, none⟩)) rfl (by decide) (by kernel_rfl) (by kernel_rfl) (by kernel_rfl) (by kernel_rfl) (fun _ _ _ h => h) (Or.inl ⟨by rfl, by intro V9 hSw; (try dsimp only at hSw); have q_b0 := (hSw.cell (lt_of_cell b0)).trans b0; go_simp⟩) hS1 ?_
          try simp only [Act.put, List.setIfInBounds_toArray, List.set_cons_zero, List.set_cons_succ]
          refine anyR_take (i := 14) (oi := { dst := some 56, op := Go.Op.nilCheck (Go.Operand.tmp 55), type := 0, pos := "chart.go:127", after := #[{ on := 13, ground := Go.Ground.data }, { on := 2, ground := Go.Ground.guard }], guard := some (2, false) }) (v := .pointer (some ⟨B, 0, none⟩)) rfl (by decide) (by kernel_rfl) (by kernel_rfl) (by kernel_rfl) (by kernel_rfl) (fun _ _ _ h => h) (Or.inl ⟨by rfl, by intro V9 hSw; (try dsimp only at hSw); go_simp⟩) hS1 ?_
          try simp only [Act.put, List.setIfInBounds_toArray, List.set_cons_zero, List.set_cons_succ]
          refine anyR_take (i := 15) (oi := { dst := some 57, op := Go.Op.fieldAddr 112 (Go.Operand.tmp 56) 1, type := 0, pos := "chart.go:127", after := #[{ on := 14, ground := Go.Ground.data }, { on := 2, ground := Go.Ground.guard }], guard := some (2, false) }) (v := .pointer (some ⟨B, 1, none⟩)) rfl (by decide) (by kernel_rfl) (by kernel_rfl) (by kernel_rfl) (by kernel_rfl) (fun _ _ _ h => h) (Or.inl ⟨by rfl, by intro V9 hSw; (try dsimp only at hSw); go_simp⟩) hS1 ?_
          try simp only [Act.put, List.setIfInBounds_toArray, List.set_cons_zero, List.set_cons_succ]
          refine anyR_take (i := 16) (oi := { dst := some 58, op := Go.Op.load 25 (Go.Operand.tmp 57), type := 25, pos := "chart.go:127", after := #[{ on := 15, ground := Go.Ground.data }, { on := 2, ground := Go.Ground.guard }], guard := some (2, false) }) (v := .slice A2 m cap2) rfl (by decide) (by kernel_rfl) (by kernel_rfl) (by kernel_rfl) (by kernel_rfl) (fun _ _ _ h => h) (Or.inl ⟨by rfl, by intro V9 hSw; (try dsimp only at hSw); have q_d1 := (hSw.cell (lt_of_cell d1)).trans d1; go_simp⟩) hS1 ?_
          try simp only [Act.put, List.setIfInBounds_toArray, List.set_cons_zero, List.set_cons_succ]
          refine anyR_take (i := 17) (oi := { dst := some 59, op := Go.Op.call { callee := Go.Callee.builtin Go.Builtin.len, args := #[Go.Operand.tmp 58], argTypes := #[25] }, type := 3, pos := "chart.go:127", after := #[{ on := 16, ground := Go.Ground.data }, { on := 2, ground := Go.Ground.guard }], guard := some (2, false) }) (v := .int .i64 (m : Int)) rfl (by decide) (by kernel_rfl) (by kernel_rfl) (by kernel_rfl) (by kernel_rfl) (fun _ _ _ h => h) (Or.inl ⟨by rfl, by intro V9 hSw; (try dsimp only at hSw); go_simp⟩) hS1 ?_
          try simp only [Act.put, List.setIfInBounds_toArray, List.set_cons_zero, List.set_cons_succ]
          refine anyR_take (i := 18) (oi := { dst := some 60, op := Go.Op.slice 79 (Go.Operand.tmp 48) none (some (Go.Operand.tmp 59)) none, type := 38, pos := "chart.go:127", after := #[{ on := 6, ground := Go.Ground.data }, { on := 17, ground := Go.Ground.data }, { on := 2, ground := Go.Ground.guard }], guard := some (2, false) }) (v := .slice (some ⟨R, q * 4, none⟩) m 4) rfl (by decide) (by kernel_rfl) (by kernel_rfl) (by kernel_rfl) (by kernel_rfl) (fun _ _ _ h => h) (Or.inl ⟨by rfl, by intro V9 hSw; (try dsimp only at hSw); have hs9 := slice79m R (q * 4) m hm4 V9; go_simp⟩) hS1 ?_
          try simp only [Act.put, List.setIfInBounds_toArray, List.set_cons_zero, List.set_cons_succ]
          refine anyR_take (i := 19) (oi := { dst := some 61, op := Go.Op.load 98 (Go.Operand.tmp 1), type := 98, pos := "chart.go:127", after := #[{ on := 2, ground := Go.Ground.guard }], guard := some (2, false) }) (v := .pointer (some ⟨Vp, 0, none⟩)) rfl (by decide) (by kernel_rfl) (by kernel_rfl) (by kernel_rfl) (by kernel_rfl) (fun _ _ _ h => h) (Or.inl ⟨by rfl, by intro V9 hSw; (try dsimp only at hSw); have q_t1 := (hSw.cell (lt_of_cell t1)).trans t1; go_simp⟩) hS1 ?_
          try simp only [Act.put, List.setIfInBounds_toArray, List.set_cons_zero, List.set_cons_succ]
          refine anyR_take (i := 20) (oi := { dst := some 62, op := Go.Op.nilCheck (Go.Operand.tmp 61), type := 0, pos := "chart.go:127", after := #[{ on := 19, ground := Go.Ground.data }, { on := 2, ground := Go.Ground.guard }], guard := some (2, false) }) (v := .pointer (some ⟨Vp, 0, none⟩)) rfl (by decide) (by kernel_rfl) (by kernel_rfl) (by kernel_rfl) (by kernel_rfl) (fun _ _ _ h => h) (Or.inl ⟨by rfl, by intro V9 hSw; (try dsimp only at hSw); go_simp⟩) hS1 ?_
          try simp only [Act.put, List.setIfInBounds_toArray, List.set_cons_zero, List.set_cons_succ]
          refine anyR_take (i := 21) (oi := { dst := some 63, op := Go.Op.fieldAddr 124 (Go.Operand.tmp 62) 0, type := 0, pos := "chart.go:127", after := #[{ on := 20, ground := Go.Ground.data }, { on := 2, ground := Go.Ground.guard }], guard := some (2, false) }) (v := .pointer (some ⟨Vp, 0, none⟩)) rfl (by decide) (by kernel_rfl) (by kernel_rfl) (by kernel_rfl) (by kernel_rfl) (fun _ _ _ h => h) (Or.inl ⟨by rfl, by intro V9 hSw; (try dsimp only at hSw); go_simp⟩) hS1 ?_
          try simp only [Act.put, List.setIfInBounds_toArray, List.set_cons_zero, List.set_cons_succ]
          refine anyR_take (i := 22) (oi := { dst := some 64, op := Go.Op.load 86 (Go.Operand.tmp 63), type := 86, pos := "chart.go:127", after := #[{ on := 21, ground := Go.Ground.data }, { on := 2, ground := Go.Ground.guard }], guard := some (2, false) }) (v := .pointer (some ⟨Cf, 0, none⟩)) rfl (by decide) (by kernel_rfl) (by kernel_rfl) (by kernel_rfl) (by kernel_rfl) (fun _ _ _ h => h) (Or.inl ⟨by rfl, by intro V9 hSw; (try dsimp only at hSw); have q_v0 := (hSw.cell (lt_of_cell v0)).trans v0; go_simp⟩) hS1 ?_
          try simp only [Act.put, List.setIfInBounds_toArray, List.set_cons_zero, List.set_cons_succ]
          refine anyR_take (i := 23) (oi := { dst := some 65, op := Go.Op.nilCheck (Go.Operand.tmp 64), type := 0, pos := "chart.go:127", after := #[{ on := 22, ground := Go.Ground.data }, { on := 2, ground := Go.Ground.guard }], guard := some (2, false) }) (v := .pointer (some ⟨Cf, 0, none⟩)) rfl (by decide) (by kernel_rfl) (by kernel_rfl) (by kernel_rfl) (by kernel_rfl) (fun _ _ _ h => h) (Or.inl ⟨by rfl, by intro V9 hSw; (try dsimp only at hSw); go_simp⟩) hS1 ?_
          try simp only [Act.put, List.setIfInBounds_toArray, List.set_cons_zero, List.set_cons_succ]
          refine anyR_take (i := 24) (oi := { dst := some 66, op := Go.Op.fieldAddr 93 (Go.Operand.tmp 65) 0, type := 0, pos := "chart.go:127", after := #[{ on := 23, ground := Go.Ground.data }, { on := 2, ground := Go.Ground.guard }], guard := some (2, false) }) (v := .pointer (some ⟨Cf, 0, none⟩)) rfl (by decide) (by kernel_rfl) (by kernel_rfl) (by kernel_rfl) (by kernel_rfl) (fun _ _ _ h => h) (Or.inl ⟨by rfl, by intro V9 hSw; (try dsimp only at hSw); go_simp⟩) hS1 ?_
          try simp only [Act.put, List.setIfInBounds_toArray, List.set_cons_zero, List.set_cons_succ]
          refine anyR_take (i := 25) (oi := { dst := some 67, op := Go.Op.load 72 (Go.Operand.tmp 66), type := 72, pos := "chart.go:127", after := #[{ on := 24, ground := Go.Ground.data }, { on := 2, ground := Go.Ground.guard }], guard := some (2, false) }) (v := .pointer (some ⟨B, 0, none⟩)) rfl (by decide) (by kernel_rfl) (by kernel_rfl) (by kernel_rfl) (by kernel_rfl) (fun _ _ _ h => h) (Or.inl ⟨by rfl, by intro V9 hSw; (try dsimp only at hSw); have q_b0 := (hSw.cell (lt_of_cell b0)).trans b0; go_simp⟩) hS1 ?_
          try simp only [Act.put, List.setIfInBounds_toArray, List.set_cons_zero, List.set_cons_succ]
          refine anyR_take (i := 26) (oi := { dst := some 68, op := Go.Op.nilCheck (Go.Operand.tmp 67), type := 0, pos := "chart.go:127", after := #[{ on := 25, ground := Go.Ground.data }, { on := 2, ground := Go.Ground.guard }], guard := some (2, false) }) (v := .pointer (some ⟨B, 0, none⟩)) rfl (by decide) (by kernel_rfl) (by kernel_rfl) (by kernel_rfl) (by kernel_rfl) (fun _ _ _ h => h) (Or.inl ⟨by rfl, by intro V9 hSw; (try dsimp only at hSw); go_simp⟩) hS1 ?_
          try simp only [Act.put, List.setIfInBounds_toArray, List.set_cons_zero, List.set_cons_succ]
          refine anyR_take (i := 27) (oi := { dst := some 69, op := Go.Op.fieldAddr 112 (Go.Operand.tmp 68) 1, type := 0, pos := "chart.go:127", after := #[{ on := 26, ground := Go.Ground.data }, { on := 2, ground := Go.Ground.guard }], guard := some (2, false) }) (v := .pointer (some ⟨B, 1, none⟩)) rfl (by decide) (by kernel_rfl) (by kernel_rfl) (by kernel_rfl) (by kernel_rfl) (fun _ _ _ h => h) (Or.inl ⟨by rfl, by intro V9 hSw; (try dsimp only at hSw); go_simp⟩) hS1 ?_
          try simp only [Act.put, List.setIfInBounds_toArray, List.set_cons_zero, List.set_cons_succ]
          refine anyR_take (i := 28) (oi := { dst := some 70, op := Go.Op.load 25 (Go.Operand.tmp 69), type := 25, pos := "chart.go:127", after := #[{ on := 27, ground := Go.Ground.data }, { on := 2, ground := Go.Ground.guard }], guard := some (2, false) }) (v := .slice A2 m cap2) rfl (by decide) (by kernel_rfl) (by kernel_rfl) (by kernel_rfl) (by kernel_rfl) (fun _ _ _ h => h) (Or.inl ⟨by rfl, by intro V9 hSw; (try dsimp only at hSw); have q_d1 := (hSw.cell (lt_of_cell d1)).trans d1; go_simp⟩) hS1 ?_
          try simp only [Act.put, List.setIfInBounds_toArray, List.set_cons_zero, List.set_cons_succ]
          refine anyR_take (i := 29) (oi := { dst := some 71, op := Go.Op.call { callee := Go.Callee.builtin Go.Builtin.len, args := #[Go.Operand.tmp 70], argTypes := #[25] }, type := 3, pos := "chart.go:127", after := #[{ on := 28, ground := Go.Ground.data }, { on := 2, ground := Go.Ground.guard }], guard := some (2, false) }) (v := .int .i64 (m : Int)) rfl (by decide) (by kernel_rfl) (by kernel_rfl) (by kernel_rfl) (by kernel_rfl) (fun _ _ _ h => h) (Or.inl ⟨by rfl, by intro V9 hSw; (try dsimp only at hSw); go_simp⟩) hS1 ?_
          try simp only [Act.put, List.setIfInBounds_toArray, List.set_cons_zero, List.set_cons_succ]
          refine anyR_take (i := 30) (oi := { dst := some 72, op := Go.Op.slice 79 (Go.Operand.tmp 5) none (some (Go.Operand.tmp 71)) none, type := 38, pos := "chart.go:127", after := #[{ on := 29, ground := Go.Ground.data }, { on := 2, ground := Go.Ground.guard }], guard := some (2, false) }) (v := .slice (some ⟨U, 0, none⟩) m 4) rfl (by decide) (by kernel_rfl) (by kernel_rfl) (by kernel_rfl) (by kernel_rfl) (fun _ _ _ h => h) (Or.inl ⟨by rfl, by intro V9 hSw; (try dsimp only at hSw); have hs9 := slice79m U 0 m hm4 V9; go_simp⟩) hS1 ?_
          try simp only [Act.put, List.setIfInBounds_toArray, List.set_cons_zero, List.set_cons_succ]
          obtain ⟨X2, hX2⟩ : ∃ X0, X1.drew = X0 := ⟨_, rfl⟩
          rw [hX2] at hS1 ⊢
          have HS2 := Lib.hid hS1
          clear hX2 hS1 t1 v0 b0 d1
          have hb9 := below_alloc_ X2 (.cells #[.slice (some ⟨R, q * 4, none⟩) m 4, .slice (some ⟨U, 0, none⟩) m 4] 38)
          have hr9 := heap_alloc_new_ X2 (.cells #[.slice (some ⟨R, q * 4, none⟩) m 4, .slice (some ⟨U, 0, none⟩) m 4] 38)
          refine anyR_one (i := 31) (o := { dst := some 73, op := Go.Op.buildSlice 25 2 #[(0, Go.Operand.tmp 60), (1, Go.Operand.tmp 72)], type := 25, pos := "chart.go:127", after := #[{ on := 18, ground := Go.Ground.data }, { on := 30, ground := Go.Ground.data }, { on := 2, ground := Go.Ground.guard }], guard := some (2, false) }) (by kernel_rfl) rfl (by rfl) ?_
          intro Kk hK
          have HKK := Lib.hid hK
          clear hK
          gi_wp2_with fail
          obtain ⟨X3, hX3⟩ : ∃ X3, X2.alloc (.cells #[.slice (some ⟨R, q * 4, none⟩) m 4, .slice (some ⟨U, 0, none⟩) m 4] 38) = X3 := ⟨_, rfl⟩
          obtain ⟨Z, hZ⟩ : ∃ Z, X2.heap.size = Z := ⟨_, rfl⟩
          rw [hX3] at hb9 hr9 ⊢
          rw [hZ] at hr9 ⊢
          have HS3 := Lib.hid (HS2.out.trans (hb9.mono HS2.out.size))
          have HZ9 := Lib.hid hr9
          refine HKK.out _ _ (fun _ _ => HS3.out) ?_
          clear HKK Kk hX3 hZ hb9 hr9
          try simp only [Act.put, List.setIfInBounds_toArray, List.set_cons_zero, List.set_cons_succ]
          have hrm3 := (HI2.out.rm.keep (Keeps.of_new HS1.out (Mut := fun _ => False)) (fun e => e)).keep (Keeps.of_new HS3.out (Mut := fun _ => False)) (fun e => e)
          have hrw3 := (HRow.out.keep (Keeps.of_new HS1.out (Mut := fun _ => False)) (fun e => e)).keep (Keeps.of_new HS3.out (Mut := fun _ => False)) (fun e => e)
          have htk : ∀ (p : List Int) i, i < m → iAt (p.take m) i = iAt p i := fun p i hi => by
            unfold iAt
            rw [List.getD_eq_getElem?_getD, List.getElem?_take_of_lt hi, ← List.getD_eq_getElem?_getD]
          have hgl4 : (lAt g q).length = 4 := (mtS_wpl (nm := nm) HL.out _ (HGm.out _ (by rw [lAt_eq (by rw [Hgn.out]; have := Hq.out; omega)]; exact List.getElem_mem _))).len
          have hlns : Lns X3 (some ⟨Z, 0, none⟩) 2 [(lAt g q).take m, x.take m] := by
            refine ⟨rfl, fun _ => ⟨Z, 0, rfl, fun j hj => ?_⟩⟩
            have hl1 : ((lAt g q).take m).length = m := by rw [List.length_take]; omega
            have hl2 : (x.take m).length = m := by rw [List.length_take, HWp.out.len]; omega
            rcases (show j = 0 ∨ j = 1 by omega) with rfl | rfl
            · show ∃ C c, X3.cell? ⟨Z, 0 + 0, none⟩ = some (.slice C ((lAt g q).take m).length c) ∧ Ints X3 C ((lAt g q).take m).length ((lAt g q).take m) ∧ ((lAt g q).take m).length ≤ c
              rw [hl1]
              exact ⟨_, 4, by rw [cell_row HZ9.out]; rfl, ⟨hl1, fun _ => ⟨R, q * 4, rfl, fun t ht => by rw [htk _ t ht]; exact hrm3.cell (by rw [Hgn.out]; have := Hq.out; omega) (by omega)⟩⟩, hm4⟩
            · show ∃ C c, X3.cell? ⟨Z, 0 + 1, none⟩ = some (.slice C (x.take m).length c) ∧ Ints X3 C (x.take m).length (x.take m) ∧ (x.take m).length ≤ c
              rw [hl2]
              exact ⟨_, 4, by rw [cell_row HZ9.out]; rfl, ⟨hl2, fun _ => ⟨U, 0, rfl, fun t ht => by rw [Nat.zero_add, htk _ t ht]; exact hrw3.cell (by omega)⟩⟩, hm4⟩
          have key := rising85 (some ⟨Z, 0, none⟩) 2 2 _ m X3 hlns (fun j hj => by
            rcases (show j = 0 ∨ j = 1 by omega) with rfl | rfl
            · show ((lAt g q).take m).length = m
              rw [List.length_take]; omega
            · show (x.take m).length = m
              rw [List.length_take, HWp.out.len]; omega) (by omega) (by omega)
          have hris : risK [(lAt g q).take m, x.take m] m (2 - 1) = befB (lAt g q) x m := by
            rw [← befB_take (a := lAt g q) (b := x) (m := m)]
            simp [risK, lAt]
          rw [hris, HBf.out] at key
          have Key := Lib.hid key
          clear key hris hlns htk hrm3 hrw3 hgl4
          refine anyR_one (i := 32) (o := { dst := some 74, op := Go.Op.call { callee := Go.Callee.value (Go.Operand.func 85), args := #[Go.Operand.tmp 73], argTypes := #[25] }, type := 4, pos := "chart.go:127", after := #[{ on := 31, ground := Go.Ground.data }, { on := 2, ground := Go.Ground.chain }, { on := 2, ground := Go.Ground.guard }], guard := some (2, false) }) (by kernel_rfl) rfl (by rfl) ?_
          intro Kk hK
          have HKK := Lib.hid hK
          clear hK
          go_simp
          refine ⟨trivial, wide_d, CallsIn.inRound l ((callsIn_wide.2 Key.out).mono ?_)⟩
          rintro en X4 ⟨rfl, rfl⟩
          refine HKK.out _ _ (fun _ _ => HS3.out) ?_
          clear HKK Kk Key
          try simp only [Act.put, List.setIfInBounds_toArray, List.set_cons_zero, List.set_cons_succ]
          refine anyR_take (i := 33) (oi := { dst := some 75, op := Go.Op.pick (Go.Operand.tmp 44) (Go.Operand.const (Go.Value.bool true)) (Go.Operand.tmp 74), type := 4, pos := "chart.go:127", after := #[{ on := 2, ground := Go.Ground.data }, { on := 32, ground := Go.Ground.data }], guard := none }) (v := .bool false) rfl (by decide) (by kernel_rfl) (by kernel_rfl) (by kernel_rfl) (by kernel_rfl) (fun _ _ _ h => h) (Or.inl ⟨by rfl, by intro V9 hSw; (try dsimp only at hSw); go_simp⟩) HS3.out ?_
          try simp only [Act.put, List.setIfInBounds_toArray, List.set_cons_zero, List.set_cons_succ]
          refine anyR_done (by kernel_rfl) ?_ _
          have HSX := Lib.hid (HS1.out.trans (HS3.out.mono HS1.out.size))
          clear x0 x1 x2 x3 t4
          gi_wp2_with fail
          have hk1 : Keeps (fun _ => False) W2 X4 := Keeps.of_new HSX.out
          refine ⟨O, Grow.refl _ _ _, hk1.none, ?_⟩
          show FiI T4 R K w3 (fstS nm L m (pre ++ [x])) X4
          rw [Hgs.out, HK.out]
          unfold grd
          rw [if_neg (by rw [HEx.out]; rintro ⟨_, e⟩; cases e)]
          exact ⟨(hk1.block _ (lt_of_block HI2.out.row) (fun e => e)).trans HI2.out.row, HI2.out.rm.keep hk1 (fun e => e), HI2.out.keep.trans hk1.none⟩

    · skip
      have Hc := Lib.hid hc
      clear hc
      refine region_R (z := 100) (S := fun V9 => Below W2.heap.size W2 V9) (by kernel_rfl) ?_
      refine anyR_take (i := 0) (oi := { dst := some 27, op := Go.Op.load 98 (Go.Operand.tmp 1), type := 98, pos := "chart.go:124", after := #[], guard := none }) (v := .pointer (some ⟨Vp, 0, none⟩)) rfl (by decide) (by kernel_rfl) (by kernel_rfl) (by kernel_rfl) (by kernel_rfl) (fun _ _ _ h => h) (Or.inl ⟨by rfl, by intro V9 hSw; (try dsimp only at hSw); have q_t1 := (hSw.cell (lt_of_cell t1)).trans t1; go_simp⟩) hS0 ?_
      try simp only [Act.put, List.setIfInBounds_toArray, List.set_cons_zero, List.set_cons_succ]
      refine anyR_take (i := 1) (oi := { dst := some 28, op := Go.Op.load 79 (Go.Operand.tmp 5), type := 79, pos := "chart.go:124", after := #[], guard := none }) (v := .agg #[.int .i64 (iAt x 0), .int .i64 (iAt x 1), .int .i64 (iAt x 2), .int .i64 (iAt x 3)]) rfl (by decide) (by kernel_rfl) (by kernel_rfl) (by kernel_rfl) (by kernel_rfl) (fun _ _ _ h => h) (Or.inl ⟨by rfl, by intro V9 hSw; (try dsimp only at hSw); have q_x0 := (hSw.cell (lt_of_cell x0)).trans x0; have q_x1 := (hSw.cell (lt_of_cell x1)).trans x1; have q_x2 := (hSw.cell (lt_of_cell x2)).trans x2; have q_x3 := (hSw.cell (lt_of_cell x3)).trans x3; go_simp⟩) hS0 ?_
      try simp only [Act.put, List.setIfInBounds_toArray, List.set_cons_zero, List.set_cons_succ]
      refine anyR_take (i := 4) (oi := { dst := some 31, op := Go.Op.load 98 (Go.Operand.tmp 1), type := 98, pos := "chart.go:124", after := #[], guard := none }) (v := .pointer (some ⟨Vp, 0, none⟩)) rfl (by decide) (by kernel_rfl) (by kernel_rfl) (by kernel_rfl) (by kernel_rfl) (fun _ _ _ h => h) (Or.inl ⟨by rfl, by intro V9 hSw; (try dsimp only at hSw); have q_t1 := (hSw.cell (lt_of_cell t1)).trans t1; go_simp⟩) hS0 ?_
      try simp only [Act.put, List.setIfInBounds_toArray, List.set_cons_zero, List.set_cons_succ]
      refine anyR_take (i := 5) (oi := { dst := some 32, op := Go.Op.nilCheck (Go.Operand.tmp 31), type := 0, pos := "chart.go:124", after := #[{ on := 4, ground := Go.Ground.data }], guard := none }) (v := .pointer (some ⟨Vp, 0, none⟩)) rfl (by decide) (by kernel_rfl) (by kernel_rfl) (by kernel_rfl) (by kernel_rfl) (fun _ _ _ h => h) (Or.inl ⟨by rfl, by intro V9 hSw; (try dsimp only at hSw); go_simp⟩) hS0 ?_
      try simp only [Act.put, List.setIfInBounds_toArray, List.set_cons_zero, List.set_cons_succ]
      refine anyR_take (i := 6) (oi := { dst := some 33, op := Go.Op.fieldAddr 124 (Go.Operand.tmp 32) 0, type := 0, pos := "chart.go:124", after := #[{ on := 5, ground := Go.Ground.data }], guard := none }) (v := .pointer (some ⟨Vp, 0, none⟩)) rfl (by decide) (by kernel_rfl) (by kernel_rfl) (by kernel_rfl) (by kernel_rfl) (fun _ _ _ h => h) (Or.inl ⟨by rfl, by intro V9 hSw; (try dsimp only at hSw); go_simp⟩) hS0 ?_
      try simp only [Act.put, List.setIfInBounds_toArray, List.set_cons_zero, List.set_cons_succ]
      refine anyR_take (i := 7) (oi := { dst := some 34, op := Go.Op.load 86 (Go.Operand.tmp 33), type := 86, pos := "chart.go:124", after := #[{ on := 6, ground := Go.Ground.data }], guard := none }) (v := .pointer (some ⟨Cf, 0, none⟩)) rfl (by decide) (by kernel_rfl) (by kernel_rfl) (by kernel_rfl) (by kernel_rfl) (fun _ _ _ h => h) (Or.inl ⟨by rfl, by intro V9 hSw; (try dsimp only at hSw); have q_v0 := (hSw.cell (lt_of_cell v0)).trans v0; go_simp⟩) hS0 ?_
      try simp only [Act.put, List.setIfInBounds_toArray, List.set_cons_zero, List.set_cons_succ]
      refine anyR_take (i := 8) (oi := { dst := some 35, op := Go.Op.nilCheck (Go.Operand.tmp 34), type := 0, pos := "chart.go:124", after := #[{ on := 7, ground := Go.Ground.data }], guard := none }) (v := .pointer (some ⟨Cf, 0, none⟩)) rfl (by decide) (by kernel_rfl) (by kernel_rfl) (by kernel_rfl) (by kernel_rfl) (fun _ _ _ h => h) (Or.inl ⟨by rfl, by intro V9 hSw; (try dsimp only at hSw); go_simp⟩) hS0 ?_
      try simp only [Act.put, List.setIfInBounds_toArray, List.set_cons_zero, List.set_cons_succ]
      refine anyR_take (i := 9) (oi := { dst := some 36, op := Go.Op.fieldAddr 93 (Go.Operand.tmp 35) 3, type := 0, pos := "chart.go:124", after := #[{ on := 8, ground := Go.Ground.data }], guard := none }) (v := .pointer (some ⟨Cf, 6, none⟩)) rfl (by decide) (by kernel_rfl) (by kernel_rfl) (by kernel_rfl) (by kernel_rfl) (fun _ _ _ h => h) (Or.inl ⟨by rfl, by intro V9 hSw; (try dsimp only at hSw); go_simp⟩) hS0 ?_
      try simp only [Act.put, List.setIfInBounds_toArray, List.set_cons_zero, List.set_cons_succ]
      refine anyR_take (i := 10) (oi := { dst := some 37, op := Go.Op.fieldAddr 91 (Go.Operand.tmp 36) 0, type := 0, pos := "chart.go:124", after := #[{ on := 9, ground := Go.Ground.data }], guard := none }) (v := .pointer (some ⟨Cf, 6, none⟩)) rfl (by decide) (by kernel_rfl) (by kernel_rfl) (by kernel_rfl) (by kernel_rfl) (fun _ _ _ h => h) (Or.inl ⟨by rfl, by intro V9 hSw; (try dsimp only at hSw); go_simp⟩) hS0 ?_
      try simp only [Act.put, List.setIfInBounds_toArray, List.set_cons_zero, List.set_cons_succ]
      refine anyR_take (i := 11) (oi := { dst := some 38, op := Go.Op.load 3 (Go.Operand.tmp 37), type := 3, pos := "chart.go:124", after := #[{ on := 10, ground := Go.Ground.data }], guard := none }) (v := .int .i64 (K : Int)) rfl (by decide) (by kernel_rfl) (by kernel_rfl) (by kernel_rfl) (by kernel_rfl) (fun _ _ _ h => h) (Or.inl ⟨by rfl, by intro V9 hSw; (try dsimp only at hSw); have q_b6 := (hSw.cell (lt_of_cell b6)).trans b6; go_simp⟩) hS0 ?_
      try simp only [Act.put, List.setIfInBounds_toArray, List.set_cons_zero, List.set_cons_succ]
      refine anyR_take (i := 12) (oi := { dst := some 39, op := Go.Op.move (Go.Operand.tmp 6), type := 3, pos := "chart.go:124", after := #[], guard := none }) (v := .int .i64 (gn : Int)) rfl (by decide) (by kernel_rfl) (by kernel_rfl) (by kernel_rfl) (by kernel_rfl) (fun _ _ _ h => h) (Or.inl ⟨by rfl, by intro V9 hSw; (try dsimp only at hSw); go_simp⟩) hS0 ?_
      try simp only [Act.put, List.setIfInBounds_toArray, List.set_cons_zero, List.set_cons_succ]
      refine anyR_take (i := 13) (oi := { dst := some 40, op := Go.Op.binOp Go.BinOp.sub 3 (Go.Operand.tmp 38) (Go.Operand.tmp 39) 3, type := 3, pos := "chart.go:124", after := #[{ on := 11, ground := Go.Ground.data }, { on := 12, ground := Go.Ground.data }], guard := none }) (v := .int .i64 ((K : Int) - (gn : Int))) rfl (by decide) (by kernel_rfl) (by kernel_rfl) (by kernel_rfl) (by kernel_rfl) (fun _ _ _ h => h) (Or.inl ⟨by rfl, by intro V9 hSw; (try dsimp only at hSw); go_simp; exact IntWalk.i64_in _ (by omega)⟩) hS0 ?_
      try simp only [Act.put, List.setIfInBounds_toArray, List.set_cons_zero, List.set_cons_succ]
      obtain ⟨X0, hX0⟩ : ∃ X0, W2.drew = X0 := ⟨_, rfl⟩
      rw [hX0] at hS0 ⊢
      have HS0 := Lib.hid hS0
      clear hX0 hS0
      refine anyR_one (i := 2) (o := { dst := some 29, op := Go.Op.call { callee := Go.Callee.value (Go.Operand.func 84), args := #[Go.Operand.tmp 27, Go.Operand.tmp 28], argTypes := #[98, 79] }, type := 91, pos := "chart.go:124", after := #[{ on := 0, ground := Go.Ground.data }, { on := 1, ground := Go.Ground.data }], guard := none }) (by kernel_rfl) rfl (by rfl) ?_
      intro Kk hK
      have HKK := Lib.hid hK
      clear hK
      have key := begins84 B D A n cap nm M A2 m cap2 L Vp Cf Cb Bt Me Me2 Ms Ms2 nn nn2 x X0 (HB2.out.below HS0.out (Nat.le_refl _)) HL.out (HV2.out.below HS0.out (Nat.le_refl _)) HXm.out
      rw [Hbb.out] at key
      unfold plA at key
      have Key := Lib.hid key
      clear key
      go_simp
      refine ⟨trivial, wide_d, CallsIn.inRound l ((callsIn_wide.2 Key.out).mono ?_)⟩
      rintro en X1 ⟨rfl, hb9⟩
      have HS1 := Lib.hid (HS0.out.trans (hb9.mono HS0.out.size))
      unfold knV
      refine HKK.out _ _ (fun _ _ => HS1.out) ?_
      clear HKK Kk hb9 Key
      try simp only [Act.put, List.setIfInBounds_toArray, List.set_cons_zero, List.set_cons_succ]
      refine anyR_take (i := 3) (oi := { dst := some 30, op := Go.Op.field 91 (Go.Operand.tmp 29) 0, type := 3, pos := "chart.go:124", after := #[{ on := 2, ground := Go.Ground.data }], guard := none }) (v := .int .i64 bb.1) rfl (by decide) (by kernel_rfl) (by kernel_rfl) (by kernel_rfl) (by kernel_rfl) (fun _ _ _ h => h) (Or.inl ⟨by rfl, by intro V9 hSw; (try dsimp only at hSw); have hfd := field91 bb.1 bb.2 V9; go_simp⟩) HS1.out ?_
      try simp only [Act.put, List.setIfInBounds_toArray, List.set_cons_zero, List.set_cons_succ]
      refine anyR_take (i := 14) (oi := { dst := some 41, op := Go.Op.binOp Go.BinOp.neq 3 (Go.Operand.tmp 30) (Go.Operand.tmp 40) 3, type := 4, pos := "chart.go:124", after := #[{ on := 3, ground := Go.Ground.data }, { on := 13, ground := Go.Ground.data }], guard := none }) (v := .bool true) rfl (by decide) (by kernel_rfl) (by kernel_rfl) (by kernel_rfl) (by kernel_rfl) (fun _ _ _ h => h) (Or.inl ⟨by rfl, by intro V9 hSw; (try dsimp only at hSw); have hc9 := Hc.out; go_simp⟩) HS1.out ?_
      try simp only [Act.put, List.setIfInBounds_toArray, List.set_cons_zero, List.set_cons_succ]
      refine anyR_done (by kernel_rfl) ?_ _
      clear t1 v0 b6 b0 d1 x0 x1 x2 x3 t4
      gi_wp2_with fail
      have hk1 : Keeps (fun _ => False) W2 X1 := Keeps.of_new HS1.out
      refine ⟨O, Grow.refl _ _ _, hk1.none, ?_⟩
      show FiI T4 R K w3 (fstS nm L m (pre ++ [x])) X1
      rw [Hgs.out, HK.out]
      unfold grd
      rw [if_neg (by rw [Hblv.out, Hgn.out]; have := Hc.out; omega)]
      exact ⟨(hk1.block _ (lt_of_block HI2.out.row) (fun e => e)).trans HI2.out.row, HI2.out.rm.keep hk1 (fun e => e), HI2.out.keep.trans hk1.none⟩

  case done =>
    intro D2 W9 O hD2 hDW hDO hO hI9 hKd
    obtain ⟨g, hg⟩ : ∃ g, fstS nm L m (mtS nm L) = g := ⟨_, rfl⟩
    have hI9' : FiI T4 R K w3 g W9 := by rw [← hg]; exact hI9
    have hok := fstS_ok (nm := nm) HL.out (mtS nm L) (fun y hy => hy)
    rw [hg, HK.out] at hok
    obtain ⟨gn, hgn⟩ : ∃ gn, g.length = gn := ⟨_, rfl⟩
    have g0 : W9.cell? ⟨T4, 0, none⟩ = some (.slice (some ⟨R, 0, none⟩) gn K) := by rw [cell_row hI9'.row, ← hgn]; rfl
    have HI9 := Lib.hid hI9'
    have Hg := Lib.hid hg
    have Hgn := Lib.hid hgn
    have Hok := Lib.hid hok.1
    have HKd := Lib.hid hKd
    have HD2 := Lib.hid (show w3.heap.size ≤ D2 ∧ R < w3.heap.size from ⟨hD2, hRl⟩)
    clear hg hgn hok hI9 hI9' hKd hDO hO hD2 hDW hTl hRl
    gi_wp2_with fail
    refine ⟨by simp, .inl ⟨_, _, rfl, run_takeDeferred HKd.out, ?_⟩⟩
    have hput : Keeps (fun j => j = D2) W9 (W9.putObj D2 (.deferred none)) := Keeps.putObj _ _ _ rfl
    refine ⟨_, results_tmp rfl _ _ _, ?_⟩
    have hbw : Below w.heap.size w W9 := HBw.out.trans (HI9.out.keep.below HBw.out.size (fun k hk e => by have := HBw.out.size; have := HP1.out; rcases e with e | e | e <;> omega))
    rw [Hg.out, HK.out, Hgn.out]
    refine ⟨R, rfl, by rw [← Hgn.out]; exact Hok.out, ?_, hbw.trans (hput.below hbw.size (fun k hk e => by have := HBw.out.size; have := HD2.out; have e : k = D2 := e; omega))⟩
    have hrm := HI9.out.rm.keep hput (by have := HD2.out; show ¬ _ = _; omega)
    exact ⟨Hgn.out, fun _ => ⟨R, rfl, fun j hj t ht => hrm.cell (by rw [Hgn.out]; exact hj) ht⟩⟩
end Go.Proofs.Ythdjbapidodlfaa
