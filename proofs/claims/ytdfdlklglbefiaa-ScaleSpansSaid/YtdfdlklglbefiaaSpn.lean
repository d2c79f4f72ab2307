/- Stage 3: Spans. -/
import Derived.Test.YtdfdlklglbefiaaShs
namespace Go.Proofs.Ytdfdlklglbefiaa
set_option linter.unusedSimpArgs false
set_option linter.unusedVariables false

theorem map_tAt (zs : List Rg) : (tnOf zs).map (·.r) = zs := by
  refine List.ext_getElem (by simp [tnOf, tnK]) ?_
  intro i h1 h2
  simp [tnOf, tnK, gAt_eq h2]
theorem good_mem {e : Bool} {zs : List Rg} {ys : List Tn} (h : GoodO (plE e) (tnOf zs) zs.length ys) (r : Rg) : r ∈ ys.map (·.r) ↔ r ∈ zs := by
  have := (h.1.map (·.r)).mem_iff (a := r)
  rwa [map_tAt] at this
theorem srt_pair {key : Tn → Int} {ys : List Tn} (h : Srt key 0 ys.length ys) : ys.Pairwise (fun a b => key a ≤ key b) := by
  rw [List.pairwise_iff_getElem]
  intro i j hi hj hij
  have := h i j (Nat.zero_le _) hij hj
  rwa [tAt_eq hi, tAt_eq hj] at this
theorem grE_true (G ys : List Tn) : grE true G ys = grd G ys := by
  induction ys generalizing G with
  | nil => rfl
  | cons t ts ih =>
    simp only [grE, grd, ih]
    have : ptsE true G = G.map (·.r.hi) := by simp [ptsE, ofE]
    rw [this]
theorem incr_eq_srt {l : List Int} (h : Incr l) : srtL l = l := by
  refine List.Perm.eq_of_pairwise (le := fun a b : Int => a ≤ b) (fun a b _ _ h1 h2 => Int.le_antisymm h1 h2) (srtL_sorted l) (h.imp (fun h => Int.le_of_lt h)) (srtL_perm l)
/-- The steps at upper ends. -/
def IsUp (zs : List Rg) (x : List Int) : Prop := ∃ gs, IsG gs zs ∧ x = gs.map (·.hi)
theorem up_short {zs : List Rg} (ho : Ok zs) {ys : List Tn} (h : GoodO (plE true) (tnOf zs) zs.length ys) : IsG ((grE true [] ys).map (·.r)) zs ∧ ptsE true (grE true [] ys) = ((grE true [] ys).map (·.r)).map (·.hi) := by
  have hv : ∀ t ∈ ys, t.r.lo ≤ t.r.hi := fun t ht => ho _ ((good_mem h _).1 (List.mem_map.2 ⟨t, ht, rfl⟩))
  have hs := h.2.1
  rw [← h.2.2] at hs
  have hp := srt_pair hs
  have hg := (grd_ok ys hv (hp.imp (fun h => by simpa [plE] using h))).isG
  rw [grE_true]
  exact ⟨hg.perm (good_mem h), by simp [ptsE, ofE]⟩
theorem ShortR.up {zs : List Rg} (ho : Ok zs) {x : List Int} (h : ShortR zs true x) : IsUp zs x := by
  obtain ⟨ys, hg, rfl⟩ := h
  obtain ⟨h1, h2⟩ := up_short ho hg
  exact ⟨_, h1, by rw [h2, incr_eq_srt (h1.incr ho)]⟩
/-- A range, mirrored. -/
def mirR (r : Rg) : Rg := ⟨-r.hi, -r.lo⟩
def mirT (t : Tn) : Tn := ⟨mirR t.r, t.nm⟩
theorem mirR_mir (r : Rg) : mirR (mirR r) = r := by cases r; simp [mirR]
theorem onR_mir (x : Int) (r : Rg) : onR (-x) (mirR r) = onR x r := by
  unfold onR mirR
  rw [Bool.and_comm]
  congr 1 <;> exact decide_eq_decide.2 (by constructor <;> (intro h; dsimp only at *; omega))
theorem meets_mir (st : List Int) (r : Rg) : meets (st.map (fun x => -x)) (mirR r) = meets st r := by
  unfold meets
  rw [List.any_map]
  congr 1
  funext x
  exact onR_mir x r
theorem meets_rev (st : List Int) (r : Rg) : meets st.reverse r = meets st r := by simp [meets]
theorem right_mir {zs : List Rg} {st : List Int} (h : right zs st) : right (zs.map mirR) (st.map (fun x => -x)).reverse := by
  intro r hr
  obtain ⟨q, hq, rfl⟩ := List.mem_map.1 hr
  rw [meets_rev, meets_mir]; exact h q hq
theorem map_mir (zs : List Rg) : (zs.map mirR).map mirR = zs := by
  rw [List.map_map]; conv => rhs; rw [← List.map_id zs]
  exact List.map_congr_left (fun r _ => mirR_mir r)
theorem incr_mir {st : List Int} (h : Incr st) : Incr (st.map (fun x => -x)).reverse := by
  unfold Incr at *
  rw [List.pairwise_reverse, List.pairwise_map]
  exact h.imp (fun h => by omega)
theorem ok_mir {zs : List Rg} (h : Ok zs) : Ok (zs.map mirR) := by
  intro r hr
  obtain ⟨q, hq, rfl⟩ := List.mem_map.1 hr
  have := h q hq
  simp only [mirR]; omega
/-- The steps at lower ends. -/
def IsDn (zs : List Rg) (x : List Int) : Prop := ∃ gs, IsG gs (zs.map mirR) ∧ x = ((gs.map (·.hi)).map (fun x => -x)).reverse
theorem IsUp.right {zs : List Rg} {x : List Int} (h : IsUp zs x) : right zs x := by obtain ⟨gs, hg, rfl⟩ := h; exact hg.right
theorem IsUp.incr {zs : List Rg} (ho : Ok zs) {x : List Int} (h : IsUp zs x) : Incr x := by obtain ⟨gs, hg, rfl⟩ := h; exact hg.incr ho
theorem IsDn.right {zs : List Rg} {x : List Int} (h : IsDn zs x) : Go.Proofs.Ytdfdlklglbefiaa.right zs x := by
  obtain ⟨gs, hg, rfl⟩ := h
  have := right_mir hg.right
  rwa [map_mir] at this
theorem IsDn.incr {zs : List Rg} (ho : Ok zs) {x : List Int} (h : IsDn zs x) : Incr x := by
  obtain ⟨gs, hg, rfl⟩ := h
  exact incr_mir (hg.incr (ok_mir ho))
theorem IsUp.len_le {zs : List Rg} {x st : List Int} (h : IsUp zs x) (hi : Incr st) (hr : Go.Proofs.Ytdfdlklglbefiaa.right zs st) : x.length ≤ st.length := by
  obtain ⟨gs, hg, rfl⟩ := h
  have := hg.len_le hi hr
  simpa using this
theorem IsDn.len_le {zs : List Rg} {x st : List Int} (h : IsDn zs x) (hi : Incr st) (hr : Go.Proofs.Ytdfdlklglbefiaa.right zs st) : x.length ≤ st.length := by
  obtain ⟨gs, hg, rfl⟩ := h
  have := hg.len_le (incr_mir hi) (right_mir hr)
  simpa using this
theorem dn_up_len {zs : List Rg} (ho : Ok zs) {x y : List Int} (h : IsDn zs x) (h' : IsUp zs y) : x.length = y.length :=
  Nat.le_antisymm (h.len_le (h'.incr ho) h'.right) (h'.len_le (h.incr ho) h.right)
theorem IsUp.eq {zs : List Rg} (ho : Ok zs) {x y : List Int} (h : IsUp zs x) (h' : IsUp zs y) : x = y := by
  obtain ⟨gs, hg, rfl⟩ := h
  obtain ⟨hs, hh, rfl⟩ := h'
  exact hg.his_eq hh ho
theorem IsDn.eq {zs : List Rg} (ho : Ok zs) {x y : List Int} (h : IsDn zs x) (h' : IsDn zs y) : x = y := by
  obtain ⟨gs, hg, rfl⟩ := h
  obtain ⟨hs, hh, rfl⟩ := h'
  rw [hg.his_eq hh (ok_mir ho)]
/-- No right scale that is as short has a step above. -/
theorem IsUp.at_le {zs : List Rg} {x st : List Int} (h : IsUp zs x) (hi : Incr st) (hr : Go.Proofs.Ytdfdlklglbefiaa.right zs st) (k : Nat) (hk : k < x.length) (hk2 : k < st.length) : st[k] ≤ x[k] := by
  obtain ⟨gs, hg, rfl⟩ := h
  have := hg.at_le hi hr k (by simpa using hk) hk2
  simpa using this
theorem IsDn.at_ge {zs : List Rg} {x st : List Int} (h : IsDn zs x) (hi : Incr st) (hr : Go.Proofs.Ytdfdlklglbefiaa.right zs st) (hl : x.length = st.length) (k : Nat) (hk : k < x.length) : x[k] ≤ st[k]'(by omega) := by
  obtain ⟨gs, hg, rfl⟩ := h
  simp only [List.length_reverse, List.length_map] at hl hk
  have := hg.at_le (incr_mir hi) (right_mir hr) (gs.length - 1 - k) (by omega) (by simp; omega)
  simp only [List.getElem_reverse, List.getElem_map, List.length_map] at this ⊢
  have e : st.length - 1 - (gs.length - 1 - k) = k := by omega
  simp only [e] at this
  omega
theorem pts_mir (G : List Tn) : (ptsE false G).map (fun x => -x) = (G.map mirT).map (·.r.hi) := by
  simp [ptsE, ofE, mirT, mirR, Function.comp]
theorem grE_false (G ys : List Tn) : (grE false G ys).map mirT = grd (G.map mirT) (ys.map mirT) := by
  induction ys generalizing G with
  | nil => rfl
  | cons t ts ih =>
    simp only [grE, grd, List.map_cons]
    have : meets ((G.map mirT).map (·.r.hi)) (mirT t).r = meets (ptsE false G) t.r := by
      rw [← pts_mir]; exact meets_mir _ _
    rw [this]
    split
    · exact ih _
    · rw [ih]; simp
theorem ShortR.dn {zs : List Rg} (ho : validZ zs = true) {x : List Int} (h : ShortR zs false x) : IsDn zs x := by
  obtain ⟨ys, hg, rfl⟩ := h
  have hz : ∀ t ∈ ys, okZ t.r = true := fun t ht => List.all_eq_true.1 ho _ ((good_mem hg _).1 (List.mem_map.2 ⟨t, ht, rfl⟩))
  have hz2 : ∀ t ∈ ys, 0 ≤ t.r.lo ∧ t.r.lo ≤ t.r.hi ∧ t.r.hi ≤ 10000 := fun t ht => by have := hz t ht; simpa [okZ, and_assoc] using this
  have hs := hg.2.1
  rw [← hg.2.2] at hs
  have hp := srt_pair hs
  have h1 : (ys.map mirT).Pairwise (fun a b => a.r.hi ≤ b.r.hi) := by
    rw [List.pairwise_map]
    refine hp.imp_of_mem ?_
    intro a b ha hb hab
    have q1 := hz2 a ha
    have q2 := hz2 b hb
    simp only [plE, Bool.false_eq_true, if_false] at hab
    have w1 : IntKind.i64.wrap (-a.r.lo) = -a.r.lo := by rw [IntKind.wrap_i64]; omega
    have w2 : IntKind.i64.wrap (-b.r.lo) = -b.r.lo := by rw [IntKind.wrap_i64]; omega
    rw [w1, w2] at hab
    exact hab
  have h2 : ∀ t ∈ ys.map mirT, t.r.lo ≤ t.r.hi := fun t ht => by
    obtain ⟨u, hu, rfl⟩ := List.mem_map.1 ht
    have := hz2 u hu
    simp only [mirT, mirR]; omega
  have h3 := (grd_ok _ h2 h1).isG
  have h4 := grE_false [] ys
  simp only [List.map_nil] at h4
  rw [← h4] at h3
  have h5 : IsG (((grE false [] ys).map mirT).map (·.r)) (zs.map mirR) := h3.perm (fun r => by
    constructor
    · intro hr
      obtain ⟨t, ht, rfl⟩ := List.mem_map.1 hr
      obtain ⟨u, hu, rfl⟩ := List.mem_map.1 ht
      exact List.mem_map.2 ⟨u.r, (good_mem hg _).1 (List.mem_map.2 ⟨u, hu, rfl⟩), rfl⟩
    · intro hr
      obtain ⟨q, hq, rfl⟩ := List.mem_map.1 hr
      obtain ⟨u, hu, rfl⟩ := List.mem_map.1 ((good_mem hg _).2 hq)
      exact List.mem_map.2 ⟨mirT u, List.mem_map.2 ⟨u, hu, rfl⟩, rfl⟩)
  refine ⟨_, h5, ?_⟩
  have h6 : Ok zs := fun r hr => by have := List.all_eq_true.1 ho r hr; simp [okZ] at this; omega
  have h7 := incr_mir (h5.incr (ok_mir h6))
  rw [← incr_eq_srt h7]
  refine List.Perm.eq_of_pairwise (le := fun a b : Int => a ≤ b) (fun a b _ _ h1 h2 => Int.le_antisymm h1 h2) (srtL_sorted _) (srtL_sorted _) ?_
  refine (srtL_perm _).trans (List.Perm.trans ?_ (srtL_perm _).symm)
  refine List.Perm.trans ?_ (List.reverse_perm _).symm
  have h8 : ptsE false (grE false [] ys) = ((((grE false [] ys).map mirT).map (·.r)).map (·.hi)).map (fun x => -x) := by
    simp [ptsE, ofE, mirT, mirR, Function.comp]
  rw [h8]
end Go.Proofs.Ytdfdlklglbefiaa

namespace Go.Proofs.Ytdfdlklglbefiaa
set_option linter.unusedSimpArgs false
set_option linter.unusedVariables false
open Go.RowKit Go.Shelf Go.Sort
attribute [local go_sem ↓] exec_app
attribute [local go_sem] Oper.semAt_some

theorem info56_ : (Try.prog.info? 56).map (fun i => (i.zero, i.size, i.bytes)) = some (some (.agg #[.int .i64 0, .int .i64 0]), 2, 16) := by kernel_rfl
def cellR (r : Rg) : List Value := [.int .i64 r.lo, .int .i64 r.hi]
def flatR (l : List Rg) : List Value := l.flatMap cellR
theorem flatR_len (l : List Rg) : (flatR l).length = l.length * 2 := by
  induction l with
  | nil => rfl
  | cons x l ih => simp only [flatR, List.flatMap_cons, List.length_append, List.length_cons] at ih ⊢; rw [ih]; simp [cellR]; omega
theorem flatR_snoc (l : List Rg) (r : Rg) : flatR (l ++ [r]) = flatR l ++ [.int .i64 r.lo, .int .i64 r.hi] := by simp [flatR, cellR]
theorem flatR_at (l : List Rg) (j : Nat) (h : j < l.length) : (flatR l)[j * 2]? = some (.int .i64 (gAt l j).lo) ∧ (flatR l)[j * 2 + 1]? = some (.int .i64 (gAt l j).hi) := by
  induction l generalizing j with
  | nil => simp at h
  | cons x l ih =>
    cases j with
    | zero => simp [flatR, cellR, gAt]
    | succ j =>
      have := ih j (by simpa using h)
      rw [show (j + 1) * 2 = j * 2 + 1 + 1 by omega]
      simp only [flatR, cellR, List.flatMap_cons, List.cons_append, List.nil_append, List.getElem?_cons_succ] at this ⊢
      exact this
theorem rgs_own {W : World} {e : TypeId} {v : Value} {l : List Rg} {n : Nat} (hl : l.length = n) (h : W.ownsRow 0 e 2 v n (flatR l)) : ∃ C cap, v = .slice C n cap ∧ n ≤ cap ∧ Rgs W C n l ∧ (∀ b o, C = some ⟨b, o, none⟩ → v.ownBlock = some b ∧ o = 0) := by
  subst hl
  rcases h.2 with ⟨rfl, h0⟩ | ⟨g, cap, cur, rfl, hb, hg, hc, _, hsz, htake⟩
  · rw [h0]
    exact ⟨none, 0, rfl, Nat.le_refl _, ⟨h0, by omega⟩, by intro b o e; cases e⟩
  · refine ⟨_, cap, rfl, hc, ⟨rfl, fun _ => ⟨g, 0, rfl, fun j hj => ?_⟩⟩, by rintro b o e; cases e; exact ⟨rfl, rfl⟩⟩
    obtain ⟨h1, h2⟩ := flatR_at l j hj
    rw [← htake] at h1 h2
    rw [List.getElem?_take_of_lt (by omega)] at h1 h2
    rw [Nat.zero_add, cell_row hg, cell_row hg, ← Array.getElem?_toList, ← Array.getElem?_toList]
    exact ⟨h1, h2⟩
/-- The spans of steps. -/
def spnL (x y : List Int) (k : Nat) : List Rg := (List.range k).map fun i => ⟨iAt x i, iAt y i⟩
theorem spnL_succ (x y : List Int) (k : Nat) : spnL x y (k + 1) = spnL x y k ++ [⟨iAt x k, iAt y k⟩] := by simp [spnL, List.range_succ]
theorem spnL_len (x y : List Int) (k : Nat) : (spnL x y k).length = k := by simp [spnL]
/-- What Spans hands back. -/
def SpPost (zs : List Rg) (w : World) (en : Ending) (w' : World) : Prop :=
  Below w.heap.size w w' ∧ ((chkS zs = 0 ∧ ∃ x y D cp, ShortR zs false x ∧ ShortR zs true y ∧ en = .returned (.tuple #[.slice D x.length cp, .int .i64 0]) ∧ Rgs w' D x.length (spnL x y x.length) ∧ (∀ b o, D = some ⟨b, o, none⟩ → w.heap.size ≤ b)) ∨ (chkS zs ≠ 0 ∧ en = .returned (.tuple #[.slice none 0 0, .int .i64 (chkS zs)])))
theorem chkS_ok {zs : List Rg} (h : chkS zs = 0) : validZ zs = true ∧ Ok zs := ⟨(chkS_zero.1 h).2.2, fun r hr => by have := List.all_eq_true.1 (chkS_zero.1 h).2.2 r hr; simp [okZ] at this; omega⟩
theorem spans28 (A : Option Addr) (n cap : Nat) (zs : List Rg) (w : World) (h : Rgs w A n zs) :
    Calls Try.prog 28 #[.slice A n cap] w (SpPost zs w) := by
  have Hn := Lib.hid h.1
  go_enter Try.func28, Try.ntmps28
  go_wp2_with fail
  refine (lay46 A n cap zs w h).mono ?_
  rintro e w1 ⟨hb, ⟨h0, B, C, cp, rfl, hB, hC, hd⟩ | ⟨h0, rfl⟩⟩
  · have Hd := Lib.hid hd
    have Hb := Lib.hid hb
    have HBs := Lib.hid hB
    have H0 := Lib.hid h0
    have Hch := Lib.hid (chkS_zero.1 h0)
    clear h hb hd hC hB h0
    go_wp2_with fail
    refine (short47 false B C n cp zs _ w1 Hd.out (by have := Hch.out.1; have := Hn.out; omega) (by have := Hch.out.2.1; have := Hn.out; omega)).mono ?_
    rintro e2 w2 ⟨ys, D, cp2, hg, rfl, hi, hf, ⟨mt2, hbd2⟩, hK⟩
    have HK := Lib.hid hK
    have HF := Lib.hid hf
    have HI := Lib.hid hi
    have HX := Lib.hid (show ShortR zs false (srtL (ptsE false (grE false [] ys))) from ⟨ys, by rw [Hn.out]; exact hg, rfl⟩)
    have Hbd2 := Lib.hid hbd2
    obtain ⟨m, hm⟩ : ∃ m, (grE false [] ys).length = m := ⟨_, rfl⟩
    have HL := Lib.hid (show (srtL (ptsE false (grE false [] ys))).length = m by rw [srtL_len, ptsE_len, hm])
    rw [hm] at HI ⊢
    obtain ⟨x, hx⟩ : ∃ x, srtL (ptsE false (grE false [] ys)) = x := ⟨_, rfl⟩
    rw [hx] at HI HX HL
    clear hK hf hi hm hx hbd2 hg
    go_wp2_with fail
    refine (short47 true B C n cp zs _ w2 Hbd2.out (by have := Hch.out.1; have := Hn.out; omega) (by have := Hch.out.2.1; have := Hn.out; omega)).mono ?_
    rintro e3 w3 ⟨yt, D3, cp3, hg3, rfl, hi3, hf3, ⟨mt3, hbd3⟩, hK3⟩
    have HK3 := Lib.hid hK3
    have HF3 := Lib.hid hf3
    have HI3 := Lib.hid hi3
    have HY := Lib.hid (show ShortR zs true (srtL (ptsE true (grE true [] yt))) from ⟨yt, by rw [Hn.out]; exact hg3, rfl⟩)
    obtain ⟨m3, hm3⟩ : ∃ m, (grE true [] yt).length = m := ⟨_, rfl⟩
    have HL3 := Lib.hid (show (srtL (ptsE true (grE true [] yt))).length = m3 by rw [srtL_len, ptsE_len, hm3])
    rw [hm3] at HI3 ⊢
    obtain ⟨y, hy⟩ : ∃ y, srtL (ptsE true (grE true [] yt)) = y := ⟨_, rfl⟩
    rw [hy] at HI3 HY HL3
    have em : m3 = m := by
      have := dn_up_len (chkS_ok H0.out).2 (HX.out.dn (chkS_ok H0.out).1) (HY.out.up (chkS_ok H0.out).2)
      have := HL.out; have := HL3.out; omega
    subst em
    have Hm24 := Lib.hid (show m3 ≤ 24 by have := grE_len true [] yt; have := hg3.2.2; have := Hch.out.2.1; have := Hn.out; simp at *; omega)
    have hi0 : Ints w3 D m3 x := by
      refine ⟨HL.out, fun hm0 => ?_⟩
      obtain ⟨b, o, e, hc⟩ := HI.out.2 hm0
      refine ⟨b, o, e, fun j hj => ?_⟩
      have h1 := hc j hj
      have h2 := lt_of_cell h1
      have h3 := HF.out b o e
      have h4 := lt_of_block Hd.out.row
      have h5 := hK3.block b h2 (by omega)
      rw [← h1]
      simp only [World.cell?, h5]
    have HI0 := Lib.hid hi0
    clear hK3 hf3 hi3 hm3 hy hbd3 hg3 hi0
    go_wp2_with fail
    go_loopw [8, 9, 24] (fun v j i wr => ∃ k : Nat, k ≤ m3 ∧ i = .int .i64 (k : Int) ∧ wr.ownsRow 0 56 2 v k (flatR (spnL x y k)) ∧ (∀ j, v.ownBlock = some j → w3.heap.size ≤ j) ∧ Below w3.heap.size w3 wr) (fun v j i _ => m3 - (intOf i).toNat)
    case atStart => exact ⟨0, Nat.zero_le _, rfl, own_nil _ _ _, fun j e => (by cases e), Below.refl _ _⟩
    case round =>
      obtain ⟨k, hk, rfl, ho, hob, hB2⟩ := hrel
      obtain ⟨wk, rfl⟩ : ∃ wk, wk = wr := ⟨_, rfl⟩
      by_cases hlt : k < m3
      · obtain ⟨b1, o1, rfl, hc1⟩ := (HI0.out.below hB2 (Nat.le_refl _)).2 (by omega)
        obtain ⟨b2, o2, rfl, hc2⟩ := (HI3.out.below hB2 (Nat.le_refl _)).2 (by omega)
        have x0 := hc1 k hlt
        have y0 := hc2 k hlt
        have Hpt := Lib.hid (spnL_succ x y k)
        obtain ⟨t, ht⟩ : ∃ t, iAt x k = t := ⟨_, rfl⟩
        obtain ⟨u, hu⟩ : ∃ u, iAt y k = u := ⟨_, rfl⟩
        rw [ht] at x0 Hpt
        rw [hu] at y0 Hpt
        have i0 : (0 : Int) ≤ (k : Int) := by omega
        have i1 : (k : Int) < (m3 : Int) := by omega
        have i2 : (k : Int) < 24 := by have := Hm24.out; omega
        have d3 : (k : Int).toNat = k := by omega
        have Ho := Lib.hid ho
        have Hob := Lib.hid hob
        have HB2 := Lib.hid hB2
        clear ho hob hB2 ht hu hc1 hc2
        go_wp2_with fail
        have hbz := below_alloc_ wk.drew (.cells #[.int .i64 t, .int .i64 u] 56)
        have hz := heap_alloc_new_ wk.drew (.cells #[.int .i64 t, .int .i64 u] 56)
        have hob2 : (wk.drew.alloc (.cells #[.int .i64 t, .int .i64 u] 56)).ownsRow 0 56 2 u8 k (flatR (spnL x y k)) := own_keep (Mut := fun _ => False) Ho.out ((Keeps.of_new (drew_b wk 1)).trans (Keeps.of_new hbz)) (fun _ _ e => e)
        obtain ⟨v', W3, hrun, hown3, hK3, hv3⟩ := app_one (n := k) Try.underlying22 info56_ rfl (by omega) (by omega) hob2 (vals := [.int .i64 t, .int .i64 u]) rfl hz (by simp [Value.oneCell']) (by have := Hm24.out; omega)
        have hsd : wk.drew.heap.size = wk.heap.size := rfl
        have hB3 : Below w3.heap.size w3 W3 := (HB2.out.trans (((drew_b wk 1).trans hbz).mono HB2.out.size)).trans (hK3.below (by have := HB2.out.size; have := hbz.size; omega) (fun j hj e => by have := Hob.out j e; omega))
        have hv4 : ∀ j, v'.ownBlock = some j → w3.heap.size ≤ j := by
          intro j hj
          rcases hv3 with e | ⟨e, _⟩
          · rw [e] at hj; exact Hob.out j hj
          · rw [e] at hj; cases hj; have := HB2.out.size; have := hbz.size; omega
        replace hrun : runA Try.prog 22 u8 (.slice (some ⟨wk.heap.size, 0, none⟩) 1 1) (wk.alloc (.cells #[.int .i64 t, .int .i64 u] 56)).drew = .ok (.value v') W3 := run_app hrun
        have HB3 := Lib.hid hB3
        have HV4 := Lib.hid hv4
        have HO3 := Lib.hid hown3
        clear hbz hz hob2 hown3 hK3 hv3 hB3 hv4 hsd
        go_region
        all_goals (go_wp2_with fail)
        go_roundw
        case rel =>
          refine ⟨k + 1, by omega, by go_num, ?_, HV4.out, HB3.out⟩
          rw [Hpt.out, flatR_snoc]
          exact HO3.out
        case measure => simp [intOf]; omega
      · have e' : k = m3 := by omega
        subst e'
        have HB2 := Lib.hid hB2
        obtain ⟨C5, cp5, rfl, hcp5, hi5, hC5⟩ := rgs_own (spnL_len x y k) ho
        have Hi5 := Lib.hid hi5
        have HC5 := Lib.hid (fun b o (e : C5 = some ⟨b, o, none⟩) => hob b (hC5 b o e).1)
        clear ho hob hB2 hi5 hC5 hcp5
        go_wp2_with fail
        refine bodyPost_ret (v := .tuple #[.slice C5 k cp5, .int .i64 0]) (by simp [results, Try.results28, go_sem]) rfl ?_
        have hB6 := Hb.out.trans (((HK.out.trans HK3.out).trans (Keeps.of_new HB2.out)).below Hb.out.size (fun k hk e => by have := HBs.out; omega))
        refine ⟨hB6, .inl ⟨H0.out, x, y, C5, cp5, HX.out, HY.out, by rw [HL.out], by rw [HL.out]; exact Hi5.out, fun b o e => ?_⟩⟩
        have h1 := HC5.out b o e
        have := HK.out.size
        have := HK3.out.size
        have := Hb.out.size
        omega
  · have Hb := Lib.hid hb
    obtain ⟨c, hc⟩ : ∃ c, chkS zs = c := ⟨_, rfl⟩
    rw [hc] at h0 ⊢
    have d0 : (c != 0) = true := by rw [bne_iff_ne]; exact h0
    have Hc := Lib.hid hc
    have H0 := Lib.hid h0
    clear hb h h0 hc
    go_wp2_with fail
    refine bodyPost_ret (v := .tuple #[.slice none 0 0, .int .i64 c]) (by simp [results, Try.results28, go_sem]) rfl ?_
    exact ⟨Hb.out, .inr ⟨by rw [Hc.out]; exact H0.out, by rw [Hc.out]⟩⟩
end Go.Proofs.Ytdfdlklglbefiaa
