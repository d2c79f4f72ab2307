/- Stage 5: what the chapter's example comes to. -/
import Derived.Test.YtnodkgejggnehaaCx
import Derived.Test.YtnodkgejggnehaaSo
import Derived.Test.YtnodkgejggnehaaDj
import Derived.Test.YtnodkgejggnehaaCv
import Derived.Test.YtnodkgejggnehaaKs
import Derived.Test.YtnodkgejggnehaaIt
import Derived.Test.YtnodkgejggnehaaAp
import Derived.Test.YtnodkgejggnehaaSc
import Derived.Laws.ResultCell
import Derived.Deep.QuietTactic
import Derived.ArgAppend
import Derived.Test.YtnodkgejggnehaaAs
import Derived.Test.YtnodkgejggnehaaIi
namespace Go.Proofs.Ytnodkgejggnehaa
set_option linter.unusedSimpArgs false
set_option linter.unusedVariables false
/-- A list that rises within bounds. -/
theorem ris_of {c : Int} {L : List Int} (h : L.Pairwise (· < ·)) (hb : ∀ x ∈ L, 0 ≤ x ∧ x < c) : risI c L = true := by
  unfold risI risK
  rw [List.all_eq_true]
  intro j hj
  have hj := List.mem_range.1 hj
  have hx := hb (L[j]) (List.getElem_mem hj)
  rw [Bool.and_eq_true, decide_eq_true_eq, decide_eq_true_eq, iAt_eq hj]
  refine ⟨?_, hx.2⟩
  unfold prvI
  by_cases h0 : j = 0
  · rw [if_pos h0]; omega
  · rw [if_neg h0, iAt_eq (by omega)]
    exact List.pairwise_iff_getElem.1 h (j - 1) j (by omega) hj (by omega)
theorem ris_pw {c : Int} {L : List Int} (h : risI c L = true) : L.Pairwise (· < ·) := by
  rw [List.pairwise_iff_getElem]
  have key : ∀ (d i : Nat), i + d + 1 < L.length → iAt L i < iAt L (i + d + 1) := by
    intro d
    induction d with
    | zero =>
      intro i hi
      have := (ris_at h (i + 1) hi).2.2 (by omega)
      simpa using this
    | succ d ih =>
      intro i hi
      have h1 := ih i (by omega)
      have h2 := (ris_at h (i + (d + 1) + 1) hi).2.2 (by omega)
      rw [show i + (d + 1) + 1 - 1 = i + d + 1 by omega] at h2
      omega
  intro i j hi hj hij
  have := key (j - i - 1) i (by omega)
  rw [show i + (j - i - 1) + 1 = j by omega, iAt_eq hi, iAt_eq hj] at this
  exact this
theorem ris_rng {c : Int} {L : List Int} (h : risI c L = true) : ∀ x ∈ L, 0 ≤ x ∧ x < c := fun x hx => by
  obtain ⟨j, hj, rfl⟩ := List.getElem_of_mem hx
  have := ris_at (n := L.length) h j hj
  rw [iAt_eq hj] at this
  omega
theorem ris_iff {c : Int} {L : List Int} : risI c L = true ↔ L.Pairwise (· < ·) ∧ ∀ x ∈ L, 0 ≤ x ∧ x < c := ⟨fun h => ⟨ris_pw h, ris_rng h⟩, fun h => ris_of h.1 h.2⟩
/-- Names of a filter. -/
def fI (p : Nat → Bool) (n : Nat) : List Int := ((List.range n).filter p).map fun k : Nat => (k : Int)
theorem mem_fI {p : Nat → Bool} {n : Nat} {x : Int} : x ∈ fI p n ↔ ∃ k : Nat, k < n ∧ p k = true ∧ x = (k : Int) := by
  unfold fI
  rw [List.mem_map]
  constructor
  · rintro ⟨k, hk, rfl⟩; rw [List.mem_filter, List.mem_range] at hk; exact ⟨k, hk.1, hk.2, rfl⟩
  · rintro ⟨k, h1, h2, rfl⟩; exact ⟨k, List.mem_filter.2 ⟨List.mem_range.2 h1, h2⟩, rfl⟩
theorem fI_ris (p : Nat → Bool) (n : Nat) : risI (n : Int) (fI p n) = true := by
  refine ris_of ?_ (fun x hx => ?_)
  · unfold fI
    rw [List.pairwise_map]
    exact (List.pairwise_lt_range.filter p).imp (fun h => by omega)
  · obtain ⟨k, h1, -, rfl⟩ := mem_fI.1 hx; omega
/-- Names of which no two meet. -/
theorem ap_of {n : Nat} {zs : List Rg} (hz : ZOk n zs) {L : List Nat} (hL : ∀ k ∈ L, k < n) (hm : Mat (mtB zs) L) : apB zs (L.map fun k : Nat => (k : Int)) = true := by
  unfold apB
  rw [Bool.and_eq_true, decide_eq_true_eq, decide_eq_true_eq]
  unfold lfS rtS List.Nodup
  rw [List.map_map, List.map_map, List.pairwise_map, List.pairwise_map]
  have key : ∀ l, l < 2 → L.Pairwise fun a b => eN zs l a ≠ eN zs l b := fun l hl => hm.imp (fun {a b} h e => by
    have := nomeet (by rw [h]; simp : ¬ mtB zs a b = true)
    rcases (by omega : l = 0 ∨ l = 1) with rfl | rfl
    · exact this.1 e
    · exact this.2 e)
  constructor
  · refine List.Pairwise.imp_of_mem ?_ (key 0 (by omega))
    intro a b ha hb hne e
    simp only [Function.comp, Int.toNat_natCast, (hz.at (hL a ha)).1, (hz.at (hL b hb)).1] at e
    exact hne (by omega)
  · refine List.Pairwise.imp_of_mem ?_ (key 1 (by omega))
    intro a b ha hb hne e
    simp only [Function.comp, Int.toNat_natCast, (hz.at (hL a ha)).1, (hz.at (hL b hb)).1] at e
    exact hne (by omega)
theorem ap_mat {n : Nat} {zs : List Rg} (hz : ZOk n zs) {L : List Nat} (hL : ∀ k ∈ L, k < n) (h : apB zs (L.map fun k : Nat => (k : Int)) = true) : Mat (mtB zs) L := by
  unfold apB at h
  rw [Bool.and_eq_true, decide_eq_true_eq, decide_eq_true_eq] at h
  unfold lfS rtS List.Nodup at h
  rw [List.map_map, List.map_map, List.pairwise_map, List.pairwise_map] at h
  refine List.Pairwise.imp_of_mem ?_ (h.1.and h.2)
  rintro a b ha hb ⟨h1, h2⟩
  simp only [Function.comp, Int.toNat_natCast, (hz.at (hL a ha)).1, (hz.at (hL b hb)).1] at h1 h2
  unfold mtB
  rw [Bool.or_eq_false_iff, decide_eq_false_iff_not, decide_eq_false_iff_not]
  exact ⟨fun e => h1 (by rw [e]), fun e => h2 (by rw [e])⟩
theorem jA_mat {n : Nat} {zs : List Rg} {pt : Nat → Int} (hz : ZOk n zs) (h : Cons n zs pt) : Mat (mtB zs) (jA n zs pt) := by
  unfold Mat
  refine List.Pairwise.imp_of_mem ?_ (nd_filter _)
  intro a b ha hb hne
  have ha := mem_jA.1 ha
  have hb := mem_jA.1 hb
  exact h.not_meet hz ha.1 hb.1 ha.2 hb.2 hne
section
variable {sl sr : Int} {n : Nat} {zs : List Rg} {ks : List Int} {pt : Nat → Int}
theorem GB.has {op : Nat → Bool} {J : List Nat} (hg : GB n zs op pt J) {k : Nat} (hk : k ∈ J) : k ∈ jA n zs pt := mem_jA.2 ⟨(hg.jk k hk).1, (hg.jk k hk).2.2⟩
theorem gb_chk (he : chkS sl sr zs ks = 0) (hn : zs.length = n) (hg : GB n zs (opnL n zs ks) pt (kNt ks)) : chkJ sl sr zs ks (jI n zs pt) = 0 := by
  subst hn
  have S := shg_of he
  refine chj_0 he ?_ ?_
  · exact fI_ris _ _
  · rw [Bool.and_eq_true]
    refine ⟨ap_of S.zok (fun k hk => (mem_jA.1 hk).1) (jA_mat S.zok hg.cons), ?_⟩
    unfold subI
    rw [List.all_eq_true]
    intro x hx
    rw [decide_eq_true_eq]
    obtain ⟨k, hk, rfl⟩ := S.nm x hx
    exact List.mem_map.2 ⟨k, hg.has ((mem_kNt S.nm).2 hx), rfl⟩
theorem gb_len (he : chkS sl sr zs ks = 0) (hn : zs.length = n) (hg : GB n zs (opnL n zs ks) pt (kNt ks)) : (jI n zs pt).length = sizeF n zs (opnL n zs ks) ks.length := by
  subst hn
  have S := shg_of he
  rw [jI_len, hg.total S.zok, show (kNt ks).length = ks.length from by simp [kNt]]
  rfl
theorem srt_mem {L : List Int} {x : Int} : x ∈ srtL L ↔ x ∈ L := (srtL_perm L).mem_iff
theorem srt_lt {L : List Int} (h : L.Nodup) : (srtL L).Pairwise (· < ·) := by
  have h1 := srtL_sorted L
  have h2 : (srtL L).Nodup := (srtL_perm L).nodup_iff.2 h
  exact (h1.and h2).imp (fun ⟨a, b⟩ => by omega)
theorem cv_ok {lk : Nat → Bool} (he : chkS sl sr zs ks = 0) (hn : zs.length = n) (hg : GB n zs (opnL n zs ks) pt (kNt ks)) (hc : CoI n zs (opnL n zs ks) pt lk sl.toNat) :
    chkC sl sr zs ks (srtL (cvL n zs (opnL n zs ks) pt lk)) (srtL (cvR n zs (opnL n zs ks) pt lk)) = 0 ∧ szC sl sr zs ks (srtL (cvL n zs (opnL n zs ks) pt lk)) (srtL (cvR n zs (opnL n zs ks) pt lk)) = ((sizeF n zs (opnL n zs ks) ks.length : Nat) : Int) := by
  subst hn
  have S := shg_of he
  have hL : risI sl (srtL (cvL zs.length zs (opnL zs.length zs ks) pt lk)) = true := ris_of (srt_lt (jL_ends (l := 0) S.zok hg.cons (by omega) _)) (fun x hx => by
    obtain ⟨k, hk, rfl⟩ := List.mem_map.1 (srt_mem.1 hx)
    have := S.e0 k (mem_jL.1 (List.mem_filter.1 hk).1).1
    omega)
  have hR : risI sr (srtL (cvR zs.length zs (opnL zs.length zs ks) pt lk)) = true := ris_of (srt_lt (jL_ends (l := 1) S.zok hg.cons (by omega) _)) (fun x hx => by
    obtain ⟨k, hk, rfl⟩ := List.mem_map.1 (srt_mem.1 hx)
    have := S.e1 k (mem_jL.1 (List.mem_filter.1 hk).1).1
    omega)
  have hV : cvK zs ks (srtL (cvL zs.length zs (opnL zs.length zs ks) pt lk)) (srtL (cvR zs.length zs (opnL zs.length zs ks) pt lk)) zs.length = true := by
    unfold cvK
    rw [List.all_eq_true]
    intro k hk
    have hk := List.mem_range.1 hk
    unfold cvB
    cases ht : tkB zs ks k
    · have ho : opnL zs.length zs ks k = true := by unfold opnL; rw [ht, decide_eq_true hk]; rfl
      have := cv_cov S.zok hg hc (fun k hk => by have := S.e0 k hk; omega) hk ho
      rw [(S.zok.at hk).1]
      rcases this with h | h
      · rw [decide_eq_true (srt_mem.2 h)]; simp
      · rw [decide_eq_true (srt_mem.2 h)]; simp
    · simp
  have h0 := chc_0 he (by rw [hL, hR]; rfl) hV
  refine ⟨h0, ?_⟩
  rw [szc_0 h0, srtL_len, srtL_len]
  have h1 := cv_len zs.length zs (opnL zs.length zs ks) pt lk
  have h2 := hg.kon.mm S.zok hg.cons
  unfold sizeF
  omega
end
end Go.Proofs.Ytnodkgejggnehaa

namespace Go.Proofs.Ytnodkgejggnehaa
set_option linter.unusedSimpArgs false
set_option linter.unusedVariables false
open Go.RowKit Go.Shelf
def eqB (a b : List Int) (k : Nat) : Bool := (List.range k).all fun i => decide (iAt a i = iAt b i)
theorem eqB_succ (a b : List Int) (k : Nat) : eqB a b (k + 1) = (eqB a b k && decide (iAt a k = iAt b k)) := by simp [eqB, List.range_succ]
theorem eqB_iff {a b : List Int} {n : Nat} (hp : a.length = n) (hq : b.length = n) : eqB a b n = true ↔ a = b := by
  unfold eqB
  rw [List.all_eq_true]
  constructor
  · intro h
    apply List.ext_getElem (by omega)
    intro i h1 h2
    have := h i (List.mem_range.2 (by omega))
    rw [decide_eq_true_iff, iAt_eq h1, iAt_eq h2] at this
    exact this
  · rintro rfl i _
    simp
set_option maxRecDepth 100000 in
set_option maxHeartbeats 8000000 in
theorem ints29 (A : Option Addr) (n c : Nat) (a : List Int) (A2 : Option Addr) (n2 c2 : Nat) (b : List Int) (w : World) (h : Ints w A n a) (h2 : Ints w A2 n2 b) (hn8 : n ≤ 10000) :
    Calls Try.prog 29 #[.slice A n c, .slice A2 n2 c2] w fun e w' => e = .returned (.bool (decide (a = b))) ∧ Below w.heap.size w w' := by
  have HA := Lib.hid h
  have HB := Lib.hid h2
  clear h h2
  by_cases hnn : n = n2
  rotate_left
  · have d0 : ((n : Int) != (n2 : Int)) = true := by rw [bne_iff_ne]; omega
    have HF := Lib.hid (show decide (a = b) = false from decide_eq_false (fun e => hnn (by rw [← HA.out.1, ← HB.out.1, e])))
    clear hnn
    go_enter Try.func29, Try.ntmps29
    go_wp2_with fail
    go_ret
    exact ⟨by rw [HF.out]; rfl, Below.refl _ _⟩
  subst hnn
  have Heq := Lib.hid (eqB_iff HA.out.1 HB.out.1)
  go_enter Try.func29, Try.ntmps29
  go_wp2_with fail
  go_loopw [5] (fun i wr => ∃ k : Nat, k ≤ n ∧ i = .int .i64 (k : Int) ∧ Hid (eqB a b k = true) ∧ Below w.heap.size w wr) (fun i _ => n - (intOf i).toNat)
  case atStart => exact ⟨0, Nat.zero_le _, rfl, Lib.hid rfl, Below.refl _ _⟩
  case round =>
    obtain ⟨k, hk, rfl, HT, hb⟩ := hrel
    by_cases hlt : k < n
    · obtain ⟨ab, ao, rfl, ac⟩ := HA.out.2 (by omega)
      obtain ⟨bb, bo, rfl, bc⟩ := HB.out.2 (by omega)
      have x0 := (hb.cell (p := ⟨ab, ao + k, none⟩) (lt_of_cell (ac k hlt))).trans (ac k hlt)
      have y0 := (hb.cell (p := ⟨bb, bo + k, none⟩) (lt_of_cell (bc k hlt))).trans (bc k hlt)
      have Hs := Lib.hid (eqB_succ a b k)
      rw [HT.out, Bool.true_and] at Hs
      obtain ⟨x, hx⟩ : ∃ x, iAt a k = x := ⟨_, rfl⟩
      obtain ⟨y, hy⟩ : ∃ y, iAt b k = y := ⟨_, rfl⟩
      have Hf := Lib.hid (show x ≠ y → a ≠ b from fun e e2 => e (by rw [← hx, ← hy, e2]))
      rw [hx] at x0 Hs
      rw [hy] at y0 Hs
      have HB0 := Lib.hid hb
      have i0 : (0 : Int) ≤ (k : Int) := by omega
      have i1 : (k : Int) < (n : Int) := by omega
      clear ac bc hx hy hb HT
      by_cases hxy : x = y
      · rw [decide_eq_true hxy] at Hs
        subst hxy
        clear Hf
        go_wp2_with fail
        go_quiet (fail)
        have HN := Lib.hid (HB0.out.trans ((drew_b wr nq).mono HB0.out.size))
        go_wp2_with fail
        go_roundw
        case rel => exact ⟨k + 1, by omega, by go_num, Lib.hid Hs.out, HN.out⟩
        case measure => simp [intOf]; omega
      · have HF := Lib.hid (show decide (a = b) = false from decide_eq_false (Hf.out hxy))
        have d1 : (x != y) = true := by rw [bne_iff_ne]; exact hxy
        clear Hf Hs
        go_wp2_with fail
        go_quiet (fail)
        have HN := Lib.hid (HB0.out.trans ((drew_b wr nq).mono HB0.out.size))
        go_wp2_with fail
        go_ret
        exact ⟨by rw [HF.out]; rfl, HN.out⟩
    · obtain rfl : k = n := by omega
      have HB0 := Lib.hid hb
      clear hb
      go_wp2_with fail
      go_ret
      exact ⟨by rw [decide_eq_true (Heq.out.1 HT.out)]; rfl, HB0.out⟩
theorem results_cell1 {fn : Func} {p : Tmp} {ty : TypeId} (h : fn.results = #[.cell p ty]) (tmps : Array Value) (P : Program) (w : World) :
    (results fn tmps).run P w = ((asAddr (tmps.getD p undef)).run P w).andThen fun a w₁ => (loadVar ty a).run P w₁ := by
  simp only [results, h]
  simp [Sem.run_bind, Result.andThen]
set_option maxRecDepth 100000 in
set_option maxHeartbeats 4000000 in
theorem link37 (x y : Int) (w : World) : Calls Try.prog 37 #[.int .i64 x, .int .i64 y] w fun e w' => e = .returned (.agg #[.int .i64 x, .int .i64 y]) ∧ Below w.heap.size w w' := by
  go_enter Try.func37, Try.ntmps37
  go_wp2_with fail
  have hb1 := below_alloc_ w (.cells #[.int .i64 x, .int .i64 y] 55)
  have hr1 := heap_alloc_new_ w (.cells #[.int .i64 x, .int .i64 y] 55)
  obtain ⟨w1, hV⟩ : ∃ w1, w.alloc (.cells #[.int .i64 x, .int .i64 y] 55) = w1 := ⟨_, rfl⟩
  rw [hV] at hb1 hr1 ⊢
  have z0 : w1.cell? ⟨w.heap.size, 0, none⟩ = some (.int .i64 x) := by rw [cell_row hr1]; rfl
  have z1 : w1.cell? ⟨w.heap.size, 1, none⟩ = some (.int .i64 y) := by rw [cell_row hr1]; rfl
  refine bodyPost_ret (v := .agg #[.int .i64 x, .int .i64 y]) (by rw [results_cell1 Try.results37]; simp [go_sem, z0, z1]) rfl ⟨rfl, hb1⟩
/-- The links of the chapter's example. -/
def zE : List Rg := [⟨0, 0⟩, ⟨0, 1⟩, ⟨1, 0⟩, ⟨2, 1⟩, ⟨2, 2⟩]
theorem flat_rgs {W : World} {B : Nat} {t : TypeId} (l : List Rg) (h : W.heap[B]? = some (.cells (flatR l).toArray t)) : Rgs W (some ⟨B, 0, none⟩) l.length l := by
  refine ⟨rfl, fun _ => ⟨B, 0, rfl, fun j hj => ?_⟩⟩
  obtain ⟨h1, h2⟩ := flatR_at l j hj
  rw [Nat.zero_add, cell_row h, cell_row h]
  exact ⟨by simpa using h1, by simpa using h2⟩
set_option maxRecDepth 100000 in
set_option maxHeartbeats 8000000 in
theorem sheet38 (w : World) : Calls Try.prog 38 #[] w fun e w' => ∃ D, e = .returned (.agg #[.int .i64 3, .int .i64 3, .slice (some ⟨D, 0, none⟩) 5 5, .slice none 0 0]) ∧ w.heap.size ≤ D ∧ w'.heap[D]? = some (.cells (flatR zE).toArray 55) ∧ Below w.heap.size w w' := by
  have hb0 := below_alloc_ w (.cells #[.int .i64 0, .int .i64 0, .slice none 0 0, .slice none 0 0] 25)
  have hr0 := heap_alloc_new_ w (.cells #[.int .i64 0, .int .i64 0, .slice none 0 0, .slice none 0 0] 25)
  obtain ⟨w0, hW0⟩ : ∃ w0, w.alloc (.cells #[.int .i64 0, .int .i64 0, .slice none 0 0, .slice none 0 0] 25) = w0 := ⟨_, rfl⟩
  obtain ⟨R, hR⟩ : ∃ R, w.heap.size = R := ⟨_, rfl⟩
  rw [hW0] at hb0 hr0
  rw [hR] at hr0
  have B := Lib.hid hb0
  have H := Lib.hid hr0
  have HW0 := Lib.hid hW0
  have HR := Lib.hid hR
  clear hb0 hr0 hW0 hR
  have hb0 := below_alloc_ w (.cells #[.int .i64 0, .int .i64 0, .slice none 0 0, .slice none 0 0] 25)
  have hr0 := heap_alloc_new_ w (.cells #[.int .i64 0, .int .i64 0, .slice none 0 0, .slice none 0 0] 25)
  obtain ⟨w0, hW0⟩ : ∃ w0, w.alloc (.cells #[.int .i64 0, .int .i64 0, .slice none 0 0, .slice none 0 0] 25) = w0 := ⟨_, rfl⟩
  obtain ⟨R, hR⟩ : ∃ R, w.heap.size = R := ⟨_, rfl⟩
  rw [hW0] at hb0 hr0
  rw [hR] at hr0
  have B := Lib.hid hb0
  have H := Lib.hid hr0
  have HW0 := Lib.hid hW0
  have HR := Lib.hid hR
  clear hb0 hr0 hW0 hR
  have hb0 := below_alloc_ w (.cells #[.int .i64 0, .int .i64 0, .slice none 0 0, .slice none 0 0] 25)
  have hr0 := heap_alloc_new_ w (.cells #[.int .i64 0, .int .i64 0, .slice none 0 0, .slice none 0 0] 25)
  obtain ⟨w0, hW0⟩ : ∃ w0, w.alloc (.cells #[.int .i64 0, .int .i64 0, .slice none 0 0, .slice none 0 0] 25) = w0 := ⟨_, rfl⟩
  obtain ⟨R, hR⟩ : ∃ R, w.heap.size = R := ⟨_, rfl⟩
  rw [hW0] at hb0 hr0
  rw [hR] at hr0
  have B := Lib.hid hb0
  have H := Lib.hid hr0
  have HW0 := Lib.hid hW0
  have HR := Lib.hid hR
  clear hb0 hr0 hW0 hR
  have hb0 := below_alloc_ w (.cells #[.int .i64 0, .int .i64 0, .slice none 0 0, .slice none 0 0] 25)
  have hr0 := heap_alloc_new_ w (.cells #[.int .i64 0, .int .i64 0, .slice none 0 0, .slice none 0 0] 25)
  obtain ⟨w0, hW0⟩ : ∃ w0, w.alloc (.cells #[.int .i64 0, .int .i64 0, .slice none 0 0, .slice none 0 0] 25) = w0 := ⟨_, rfl⟩
  obtain ⟨R, hR⟩ : ∃ R, w.heap.size = R := ⟨_, rfl⟩
  rw [hW0] at hb0 hr0
  rw [hR] at hr0
  have B := Lib.hid hb0
  have H := Lib.hid hr0
  have HW0 := Lib.hid hW0
  have HR := Lib.hid hR
  clear hb0 hr0 hW0 hR
  have hb0 := below_alloc_ w (.cells #[.int .i64 0, .int .i64 0, .slice none 0 0, .slice none 0 0] 25)
  have hr0 := heap_alloc_new_ w (.cells #[.int .i64 0, .int .i64 0, .slice none 0 0, .slice none 0 0] 25)
  obtain ⟨w0, hW0⟩ : ∃ w0, w.alloc (.cells #[.int .i64 0, .int .i64 0, .slice none 0 0, .slice none 0 0] 25) = w0 := ⟨_, rfl⟩
  obtain ⟨R, hR⟩ : ∃ R, w.heap.size = R := ⟨_, rfl⟩
  rw [hW0] at hb0 hr0
  rw [hR] at hr0
  have B := Lib.hid hb0
  have H := Lib.hid hr0
  have HW0 := Lib.hid hW0
  have HR := Lib.hid hR
  clear hb0 hr0 hW0 hR
  have hb0 := below_alloc_ w (.cells #[.int .i64 0, .int .i64 0, .slice none 0 0, .slice none 0 0] 25)
  have hr0 := heap_alloc_new_ w (.cells #[.int .i64 0, .int .i64 0, .slice none 0 0, .slice none 0 0] 25)
  obtain ⟨w0, hW0⟩ : ∃ w0, w.alloc (.cells #[.int .i64 0, .int .i64 0, .slice none 0 0, .slice none 0 0] 25) = w0 := ⟨_, rfl⟩
  obtain ⟨R, hR⟩ : ∃ R, w.heap.size = R := ⟨_, rfl⟩
  rw [hW0] at hb0 hr0
  rw [hR] at hr0
  have B := Lib.hid hb0
  have H := Lib.hid hr0
  have HW0 := Lib.hid hW0
  have HR := Lib.hid hR
  clear hb0 hr0 hW0 hR
  have hb0 := below_alloc_ w (.cells #[.int .i64 0, .int .i64 0, .slice none 0 0, .slice none 0 0] 25)
  have hr0 := heap_alloc_new_ w (.cells #[.int .i64 0, .int .i64 0, .slice none 0 0, .slice none 0 0] 25)
  obtain ⟨w0, hW0⟩ : ∃ w0, w.alloc (.cells #[.int .i64 0, .int .i64 0, .slice none 0 0, .slice none 0 0] 25) = w0 := ⟨_, rfl⟩
  obtain ⟨R, hR⟩ : ∃ R, w.heap.size = R := ⟨_, rfl⟩
  rw [hW0] at hb0 hr0
  rw [hR] at hr0
  have B := Lib.hid hb0
  have H := Lib.hid hr0
  have HW0 := Lib.hid hW0
  have HR := Lib.hid hR
  clear hb0 hr0 hW0 hR
  have hb0 := below_alloc_ w (.cells #[.int .i64 0, .int .i64 0, .slice none 0 0, .slice none 0 0] 25)
  have hr0 := heap_alloc_new_ w (.cells #[.int .i64 0, .int .i64 0, .slice none 0 0, .slice none 0 0] 25)
  obtain ⟨w0, hW0⟩ : ∃ w0, w.alloc (.cells #[.int .i64 0, .int .i64 0, .slice none 0 0, .slice none 0 0] 25) = w0 := ⟨_, rfl⟩
  obtain ⟨R, hR⟩ : ∃ R, w.heap.size = R := ⟨_, rfl⟩
  rw [hW0] at hb0 hr0
  rw [hR] at hr0
  have B := Lib.hid hb0
  have H := Lib.hid hr0
  have HW0 := Lib.hid hW0
  have HR := Lib.hid hR
  clear hb0 hr0 hW0 hR
  have hb0 := below_alloc_ w (.cells #[.int .i64 0, .int .i64 0, .slice none 0 0, .slice none 0 0] 25)
  have hr0 := heap_alloc_new_ w (.cells #[.int .i64 0, .int .i64 0, .slice none 0 0, .slice none 0 0] 25)
  obtain ⟨w0, hW0⟩ : ∃ w0, w.alloc (.cells #[.int .i64 0, .int .i64 0, .slice none 0 0, .slice none 0 0] 25) = w0 := ⟨_, rfl⟩
  obtain ⟨R, hR⟩ : ∃ R, w.heap.size = R := ⟨_, rfl⟩
  rw [hW0] at hb0 hr0
  rw [hR] at hr0
  have B := Lib.hid hb0
  have H := Lib.hid hr0
  have HW0 := Lib.hid hW0
  have HR := Lib.hid hR
  clear hb0 hr0 hW0 hR
  go_enter Try.func38, Try.ntmps38
  go_wp2_with fail
  try rw [HW0.out]
  try rw [HR.out]
  try go_wp2_with fail
  refine (link37 0 0 w0).mono ?_
  rintro en w1 ⟨rfl, hb⟩
  replace B := Lib.hid (B.out.trans (hb.mono B.out.size))
  replace H := Lib.hid ((hb.block _ (lt_of_block H.out)).trans H.out)
  clear hb
  go_wp2_with fail
  refine (link37 0 1 w1).mono ?_
  rintro en w2 ⟨rfl, hb⟩
  replace B := Lib.hid (B.out.trans (hb.mono B.out.size))
  replace H := Lib.hid ((hb.block _ (lt_of_block H.out)).trans H.out)
  clear hb
  go_wp2_with fail
  refine (link37 1 0 w2).mono ?_
  rintro en w3 ⟨rfl, hb⟩
  replace B := Lib.hid (B.out.trans (hb.mono B.out.size))
  replace H := Lib.hid ((hb.block _ (lt_of_block H.out)).trans H.out)
  clear hb
  go_wp2_with fail
  refine (link37 2 1 w3).mono ?_
  rintro en w4 ⟨rfl, hb⟩
  replace B := Lib.hid (B.out.trans (hb.mono B.out.size))
  replace H := Lib.hid ((hb.block _ (lt_of_block H.out)).trans H.out)
  clear hb
  go_wp2_with fail
  refine (link37 2 2 w4).mono ?_
  rintro en w5 ⟨rfl, hb⟩
  replace B := Lib.hid (B.out.trans (hb.mono B.out.size))
  replace H := Lib.hid ((hb.block _ (lt_of_block H.out)).trans H.out)
  clear hb
  have hRl := lt_of_block H.out
  have f0 := fun o : Nat => frozen_row (k := o) H.out
  have x0 : w5.cell? ⟨R, 0, none⟩ = some (.int .i64 0) := by rw [cell_row H.out]; rfl
  have x1 : w5.cell? ⟨R, 1, none⟩ = some (.int .i64 0) := by rw [cell_row H.out]; rfl
  have x2 : w5.cell? ⟨R, 2, none⟩ = some (.slice none 0 0) := by rw [cell_row H.out]; rfl
  have x3 : w5.cell? ⟨R, 3, none⟩ = some (.slice none 0 0) := by rw [cell_row H.out]; rfl
  have hne : R ≠ w5.heap.size := by omega
  go_wp2_with fail
  have k1 := ((keeps_setCell w5 R 0 (.int .i64 3)).trans (keeps_setCell _ R 1 (.int .i64 3))).trans ((keeps_setCell _ R 2 (.slice (some ⟨w5.heap.size, 0, none⟩) 5 5)).trans (keeps_setCell _ R 3 (.slice none 0 0)))
  have r1 := set_same 3 (.slice none 0 0) (set_same 2 (.slice (some ⟨w5.heap.size, 0, none⟩) 5 5) (set_same 1 (.int .i64 3) (set_same 0 (.int .i64 3) H.out)))
  have hs : ((((w5.setCell ⟨R, 0, none⟩ (.int .i64 3)).setCell ⟨R, 1, none⟩ (.int .i64 3)).setCell ⟨R, 2, none⟩ (.slice (some ⟨w5.heap.size, 0, none⟩) 5 5)).setCell ⟨R, 3, none⟩ (.slice none 0 0)).heap.size = w5.heap.size := by simp
  obtain ⟨X, hX⟩ : ∃ X, (((w5.setCell ⟨R, 0, none⟩ (.int .i64 3)).setCell ⟨R, 1, none⟩ (.int .i64 3)).setCell ⟨R, 2, none⟩ (.slice (some ⟨w5.heap.size, 0, none⟩) 5 5)).setCell ⟨R, 3, none⟩ (.slice none 0 0) = X := ⟨_, rfl⟩
  rw [hX] at k1 r1 hs ⊢
  have hb := below_alloc_ X (.cells #[.int .i64 0, .int .i64 0, .int .i64 0, .int .i64 1, .int .i64 1, .int .i64 0, .int .i64 2, .int .i64 1, .int .i64 2, .int .i64 2] 55)
  have hr := heap_alloc_new_ X (.cells #[.int .i64 0, .int .i64 0, .int .i64 0, .int .i64 1, .int .i64 1, .int .i64 0, .int .i64 2, .int .i64 1, .int .i64 2, .int .i64 2] 55)
  have r2 := (hb.block _ (lt_of_block r1)).trans r1
  obtain ⟨Y, hY⟩ : ∃ Y, X.alloc (.cells #[.int .i64 0, .int .i64 0, .int .i64 0, .int .i64 1, .int .i64 1, .int .i64 0, .int .i64 2, .int .i64 1, .int .i64 2, .int .i64 2] 55) = Y := ⟨_, rfl⟩
  rw [hY] at hb hr r2 ⊢
  rw [hs] at hr
  have z0 : Y.cell? ⟨R, 0, none⟩ = some (.int .i64 3) := by rw [cell_row r2]; rfl
  have z1 : Y.cell? ⟨R, 1, none⟩ = some (.int .i64 3) := by rw [cell_row r2]; rfl
  have z2 : Y.cell? ⟨R, 2, none⟩ = some (.slice (some ⟨w5.heap.size, 0, none⟩) 5 5) := by rw [cell_row r2]; rfl
  have z3 : Y.cell? ⟨R, 3, none⟩ = some (.slice none 0 0) := by rw [cell_row r2]; rfl
  have hB := B.out
  have hRw := HR.out
  refine bodyPost_ret (v := .agg #[.int .i64 3, .int .i64 3, .slice (some ⟨w5.heap.size, 0, none⟩) 5 5, .slice none 0 0]) (by rw [results_cell1 Try.results38]; simp [go_sem, z0, z1, z2, z3]) rfl ⟨_, rfl, hB.size, hr, ?_⟩
  exact (hB.trans (k1.below hB.size (fun j hj e => by omega))).trans (hb.mono (Nat.le_trans hB.size (Nat.le_of_eq hs.symm)))
/-- The links of the example without the one with the number 2. -/
def oE : List Rg := [⟨0, 0⟩, ⟨0, 1⟩, ⟨2, 1⟩, ⟨2, 2⟩]
theorem info55_ : (Try.prog.info? 55).map (fun i => (i.zero, i.size, i.bytes)) = some (some (.agg #[.int .i64 0, .int .i64 0]), 2, 16) := by kernel_rfl
theorem app_open {W : World} {D : Nat} (h : W.heap[D]? = some (.cells (flatR zE).toArray 55)) :
    ∃ C c W', runA Try.prog 22 (.slice (some ⟨D, 0, none⟩) 2 2) (.slice (some ⟨D, 6, none⟩) 2 2) W = .ok (.value (.slice C 4 c)) W' ∧ 4 ≤ c ∧ Rgs W' C 4 oE ∧ (∀ a, C = some a → W.heap.size ≤ a.block) ∧ Below W.heap.size W W' := by
  obtain ⟨i, hif, hz, hs, hb⟩ := info_parts info55_
  obtain ⟨v', W', q2, q3, q4⟩ := run_append_arg_grows (P := Try.prog) W 22 22 55 i _ 2 16 Try.underlying22 hif hz hs hb rfl (by omega) ⟨D, 0, none⟩ 2 2 ((flatR zE).take 4) rfl (fun j u hj => by
      rw [Addr.add_lit, cell_row h, Nat.zero_add]
      rw [List.getElem?_take] at hj
      split at hj
      · simpa using hj
      · cases hj) ⟨D, 6, none⟩ 2 2 ((flatR zE).drop 6) rfl (fun j u hj => by
      rw [Addr.add_lit, cell_row h]
      rw [List.getElem?_drop] at hj
      simpa using hj) (by omega) (by unfold maxLen; omega) (by omega)
  have own : W'.ownsRow 0 55 2 v' 4 (flatR oE) ∧ ∀ b, v'.ownBlock = some b → W.heap.size ≤ b := by
    rcases q3.2 with ⟨_, e2⟩ | ⟨g, cp, cur, e, hg, r⟩
    · omega
    · exact ⟨⟨rfl, .inr ⟨g, cp, cur, e, Nat.zero_le _, r⟩⟩, fun b hb => by rw [e] at hb; have h8 : g = b := Option.some.inj hb; omega⟩
  obtain ⟨own, hnew⟩ := own
  obtain ⟨C, cap, rfl, hc, hr, hob⟩ := rgs_own (l := oE) (n := 4) rfl own
  refine ⟨C, cap, W', run_app q2, hc, hr, ?_, ?_⟩
  · rintro ⟨b, o, x⟩ e
    obtain ⟨b2, o2, e2, -⟩ := hr.2 (by omega)
    rw [e] at e2
    cases e2
    exact hnew b (hob b o e).1
  exact (Keeps.of_grown q4 (Mut := fun _ => False) (fun r e => by cases e)).new
section
attribute [local go_sem ↓] exec_app at_app
attribute [local go_sem] Oper.semAt_some
set_option maxRecDepth 100000 in
set_option maxHeartbeats 8000000 in
theorem open39 (w : World) : Calls Try.prog 39 #[] w fun e w' => ∃ C c, e = .returned (.agg #[.int .i64 3, .int .i64 3, .slice C 4 c, .slice none 0 0]) ∧ 4 ≤ c ∧ Rgs w' C 4 oE ∧ Below w.heap.size w w' := by
  have hb0 := below_alloc_ w (.cells #[.int .i64 0, .int .i64 0, .slice none 0 0, .slice none 0 0] 25)
  have hr0 := heap_alloc_new_ w (.cells #[.int .i64 0, .int .i64 0, .slice none 0 0, .slice none 0 0] 25)
  obtain ⟨w0, hW0⟩ : ∃ w0, w.alloc (.cells #[.int .i64 0, .int .i64 0, .slice none 0 0, .slice none 0 0] 25) = w0 := ⟨_, rfl⟩
  obtain ⟨R, hR⟩ : ∃ R, w.heap.size = R := ⟨_, rfl⟩
  rw [hW0] at hb0 hr0
  rw [hR] at hr0
  have B := Lib.hid hb0
  have H := Lib.hid hr0
  have HW0 := Lib.hid hW0
  have HR := Lib.hid hR
  clear hb0 hr0 hW0 hR
  refine (callsIn_wide (n := 5)).1 ?_
  refine callsIn_of_wp Try.func39 rfl trivial ?_ rfl
  simp only [Try.ntmps39, List.size_toArray, List.length_cons, List.length_nil, Nat.reduceAdd, Nat.reduceSub, Array.replicate_succ, Array.replicate_zero, List.push_toArray, List.append_toArray, List.nil_append, List.cons_append]
  gi_wp2_with fail
  try rw [HW0.out]
  try rw [HR.out]
  try gi_wp2_with fail
  refine ⟨trivial, (callsIn_wide.2 (sheet38 w0)).mono ?_⟩
  rintro en w1 ⟨D, rfl, hD, hrow, hb⟩
  replace B := Lib.hid (B.out.trans (hb.mono B.out.size))
  have hRw := lt_of_block H.out
  replace H := Lib.hid ((hb.block _ (lt_of_block H.out)).trans H.out)
  have hRD : R < D := by omega
  have HD := Lib.hid hrow
  clear hb hrow hD hRw
  have hb := below_alloc_ w1 (.cells #[.int .i64 3, .int .i64 3, .slice (some ⟨D, 0, none⟩) 5 5, .slice none 0 0] 25)
  have hr := heap_alloc_new_ w1 (.cells #[.int .i64 3, .int .i64 3, .slice (some ⟨D, 0, none⟩) 5 5, .slice none 0 0] 25)
  obtain ⟨w2, hW2⟩ : ∃ w2, w1.alloc (.cells #[.int .i64 3, .int .i64 3, .slice (some ⟨D, 0, none⟩) 5 5, .slice none 0 0] 25) = w2 := ⟨_, rfl⟩
  obtain ⟨Z, hZ⟩ : ∃ Z, w1.heap.size = Z := ⟨_, rfl⟩
  have hRw := lt_of_block H.out
  have hDw := lt_of_block HD.out
  have hRZ : R < Z := by omega
  have hwZ : w.heap.size ≤ Z := by have := B.out.size; omega
  rw [hW2] at hb hr
  replace B := Lib.hid (B.out.trans (hb.mono B.out.size))
  replace H := Lib.hid ((hb.block _ (lt_of_block H.out)).trans H.out)
  replace HD := Lib.hid ((hb.block _ (lt_of_block HD.out)).trans HD.out)
  rw [hZ] at hr
  have HZr := Lib.hid hr
  have x2 : w2.cell? ⟨Z, 2, none⟩ = some (.slice (some ⟨D, 0, none⟩) 5 5) := by rw [cell_row hr]; rfl
  have HW2 := Lib.hid hW2
  have HZ := Lib.hid hZ
  clear hb hr hW2 hZ hRw hDw
  gi_wp2_with fail
  try rw [HW2.out]
  try rw [HZ.out]
  refine Out.region_R (z := 8) (S := fun w' => Below w2.heap.size w2 w') (by kernel_rfl) ?_
  have hS0 : Below w2.heap.size w2 w2.drew := drew_b w2 1
  refine Out.anyR_take (i := 0) (oi := { dst := some 3, op := Go.Op.fieldAddr 25 (Go.Operand.tmp 1) 2, type := 0, pos := "law.go:21", after := #[], guard := none }) (v := .pointer (some ⟨Z, 2, none⟩)) rfl (by decide) (by kernel_rfl) (by kernel_rfl) (by kernel_rfl) (by kernel_rfl) (fun _ _ _ h => h) (Or.inl ⟨by rfl, by intro W' hSw; (try dsimp only at hSw); have e2 := (hSw.cell (lt_of_cell x2)).trans x2; go_simp⟩) hS0 ?_
  try simp only [Act.put, List.setIfInBounds_toArray, List.set_cons_zero, List.set_cons_succ]
  refine Out.anyR_take (i := 1) (oi := { dst := some 4, op := Go.Op.load 22 (Go.Operand.tmp 3), type := 22, pos := "law.go:21", after := #[{ on := 0, ground := Go.Ground.data }], guard := none }) (v := .slice (some ⟨D, 0, none⟩) 5 5) rfl (by decide) (by kernel_rfl) (by kernel_rfl) (by kernel_rfl) (by kernel_rfl) (fun _ _ _ h => h) (Or.inl ⟨by rfl, by intro W' hSw; (try dsimp only at hSw); have e2 := (hSw.cell (lt_of_cell x2)).trans x2; go_simp⟩) hS0 ?_
  try simp only [Act.put, List.setIfInBounds_toArray, List.set_cons_zero, List.set_cons_succ]
  refine Out.anyR_take (i := 2) (oi := { dst := some 5, op := Go.Op.slice 22 (Go.Operand.tmp 4) none (some (Go.Operand.const (Go.Value.int Go.IntKind.i64 2))) (some (Go.Operand.const (Go.Value.int Go.IntKind.i64 2))), type := 22, pos := "law.go:21", after := #[{ on := 1, ground := Go.Ground.data }], guard := none }) (v := .slice (some ⟨D, 0, none⟩) 2 2) rfl (by decide) (by kernel_rfl) (by kernel_rfl) (by kernel_rfl) (by kernel_rfl) (fun _ _ _ h => h) (Or.inl ⟨by rfl, by intro W' hSw; (try dsimp only at hSw); have e2 := (hSw.cell (lt_of_cell x2)).trans x2; go_simp⟩) hS0 ?_
  try simp only [Act.put, List.setIfInBounds_toArray, List.set_cons_zero, List.set_cons_succ]
  refine Out.anyR_take (i := 3) (oi := { dst := some 6, op := Go.Op.fieldAddr 25 (Go.Operand.tmp 1) 2, type := 0, pos := "law.go:21", after := #[], guard := none }) (v := .pointer (some ⟨Z, 2, none⟩)) rfl (by decide) (by kernel_rfl) (by kernel_rfl) (by kernel_rfl) (by kernel_rfl) (fun _ _ _ h => h) (Or.inl ⟨by rfl, by intro W' hSw; (try dsimp only at hSw); have e2 := (hSw.cell (lt_of_cell x2)).trans x2; go_simp⟩) hS0 ?_
  try simp only [Act.put, List.setIfInBounds_toArray, List.set_cons_zero, List.set_cons_succ]
  refine Out.anyR_take (i := 4) (oi := { dst := some 7, op := Go.Op.load 22 (Go.Operand.tmp 6), type := 22, pos := "law.go:21", after := #[{ on := 3, ground := Go.Ground.data }], guard := none }) (v := .slice (some ⟨D, 0, none⟩) 5 5) rfl (by decide) (by kernel_rfl) (by kernel_rfl) (by kernel_rfl) (by kernel_rfl) (fun _ _ _ h => h) (Or.inl ⟨by rfl, by intro W' hSw; (try dsimp only at hSw); have e2 := (hSw.cell (lt_of_cell x2)).trans x2; go_simp⟩) hS0 ?_
  try simp only [Act.put, List.setIfInBounds_toArray, List.set_cons_zero, List.set_cons_succ]
  refine Out.anyR_take (i := 5) (oi := { dst := some 8, op := Go.Op.slice 22 (Go.Operand.tmp 7) (some (Go.Operand.const (Go.Value.int Go.IntKind.i64 3))) none none, type := 22, pos := "law.go:21", after := #[{ on := 4, ground := Go.Ground.data }], guard := none }) (v := .slice (some ⟨D, 6, none⟩) 2 2) rfl (by decide) (by kernel_rfl) (by kernel_rfl) (by kernel_rfl) (by kernel_rfl) (fun _ _ _ h => h) (Or.inl ⟨by rfl, by intro W' hSw; (try dsimp only at hSw); have e2 := (hSw.cell (lt_of_cell x2)).trans x2; go_simp⟩) hS0 ?_
  try simp only [Act.put, List.setIfInBounds_toArray, List.set_cons_zero, List.set_cons_succ]
  obtain ⟨X, hX⟩ : ∃ X, w2.drew = X := ⟨_, rfl⟩
  rw [hX] at hS0 ⊢
  clear hX
  obtain ⟨C, c, V, hrun, hc, hr9, hnw, hb9⟩ := app_open (W := X) (D := D) ((hS0.block _ (lt_of_block HD.out)).trans HD.out)
  refine Out.anyR_one (i := 6) (o := { dst := some 9, op := Go.Op.call { callee := Go.Callee.builtin Go.Builtin.append, args := #[Go.Operand.tmp 5, Go.Operand.tmp 8], argTypes := #[22, 22] }, type := 22, pos := "law.go:21", after := #[{ on := 2, ground := Go.Ground.data }, { on := 5, ground := Go.Ground.data }], guard := none }) (by kernel_rfl) rfl (by rfl) ?_
  intro K hK
  have HKK := Lib.hid hK
  clear hK
  go_simp
  try rw [hrun]
  try go_simp
  have hB9 := hS0.trans (hb9.mono hS0.size)
  refine HKK.out _ _ (fun _ _ => hB9) ?_
  clear HKK K hb9 hrun
  have HR4 := Lib.hid hr9
  have HNw := Lib.hid (show ∀ a, C = some a → Z < a.block from fun a e => by have h1 := hnw a e; have h2 := hS0.size; have h3 := lt_of_block HZr.out; omega)
  have hZV := (hB9.block _ (lt_of_block HZr.out)).trans HZr.out
  have H' := (hB9.block _ (lt_of_block H.out)).trans H.out
  clear hr9 hS0 hnw
  try simp only [Act.put, List.setIfInBounds_toArray, List.set_cons_zero, List.set_cons_succ]
  refine Out.anyR_take (i := 7) (oi := { dst := some 10, op := Go.Op.fieldAddr 25 (Go.Operand.tmp 1) 2, type := 0, pos := "law.go:21", after := #[{ on := 0, ground := Go.Ground.phase }, { on := 1, ground := Go.Ground.phase }, { on := 2, ground := Go.Ground.phase }, { on := 3, ground := Go.Ground.phase }, { on := 4, ground := Go.Ground.phase }, { on := 5, ground := Go.Ground.phase }, { on := 6, ground := Go.Ground.phase }], guard := none }) (v := .pointer (some ⟨Z, 2, none⟩)) rfl (by decide) (by kernel_rfl) (by kernel_rfl) (by kernel_rfl) (by kernel_rfl) (fun _ _ _ h => h) (Or.inl ⟨by rfl, by intro W' hSw; (try dsimp only at hSw); go_simp⟩) hB9 ?_
  try simp only [Act.put, List.setIfInBounds_toArray, List.set_cons_zero, List.set_cons_succ]
  refine Out.anyR_one (i := 8) (by kernel_rfl) rfl (by rfl) ?_
  intro K hK
  have HKK := Lib.hid hK
  clear hK
  have s1 : V.cell? ⟨Z, 2, none⟩ = some (.slice (some ⟨D, 0, none⟩) 5 5) := by rw [cell_row hZV]; rfl
  have fS := fun o : Nat => frozen_row (k := o) hZV
  go_simp
  refine HKK.out _ _ (fun h => absurd rfl h) ?_
  clear HKK K
  try simp only [Act.put, List.setIfInBounds_toArray, List.set_cons_zero, List.set_cons_succ]
  refine Out.anyR_done (by kernel_rfl) ?_ _
  have hk := keeps_setCell V Z 2 (.slice C 4 c)
  have hZ3 := set_same 2 (.slice C 4 c) hZV
  have H3 := (hk.block _ (lt_of_block H') (show ¬ R = Z by omega)).trans H'
  have HF := Lib.hid (B.out.trans (hB9.mono B.out.size))
  have HR5 := Lib.hid (show Rgs (V.setCell ⟨Z, 2, none⟩ (.slice C 4 c)) C 4 oE from ⟨rfl, fun _ => by
    obtain ⟨b, o, rfl, hcell⟩ := HR4.out.2 (by omega)
    refine ⟨b, o, rfl, fun j hj => ?_⟩
    have hcj := hcell j hj
    have hbZ : ¬ b = Z := fun e => by have : Z < b := HNw.out _ rfl; omega
    exact ⟨(keep_cells hk (lt_of_cell hcj.1) hbZ _).trans hcj.1, (keep_cells hk (lt_of_cell hcj.1) hbZ _).trans hcj.2⟩⟩)
  have HF2 := Lib.hid (show Below w.heap.size w (V.setCell ⟨Z, 2, none⟩ (.slice C 4 c)) from HF.out.trans (hk.below HF.out.size (fun j hj e => by omega)))
  obtain ⟨U, hU⟩ : ∃ U, V.setCell ⟨Z, 2, none⟩ (.slice C 4 c) = U := ⟨_, rfl⟩
  rw [hU] at hZ3 H3 HR5 HF2 ⊢
  have f0 := fun o : Nat => frozen_row (k := o) H3
  have y0 : U.cell? ⟨R, 0, none⟩ = some (.int .i64 0) := by rw [cell_row H3]; rfl
  have y1 : U.cell? ⟨R, 1, none⟩ = some (.int .i64 0) := by rw [cell_row H3]; rfl
  have y2 : U.cell? ⟨R, 2, none⟩ = some (.slice none 0 0) := by rw [cell_row H3]; rfl
  have y3 : U.cell? ⟨R, 3, none⟩ = some (.slice none 0 0) := by rw [cell_row H3]; rfl
  have z0 : U.cell? ⟨Z, 0, none⟩ = some (.int .i64 3) := by rw [cell_row hZ3]; rfl
  have z1 : U.cell? ⟨Z, 1, none⟩ = some (.int .i64 3) := by rw [cell_row hZ3]; rfl
  have z2 : U.cell? ⟨Z, 2, none⟩ = some (.slice C 4 c) := by rw [cell_row hZ3]; rfl
  have z3 : U.cell? ⟨Z, 3, none⟩ = some (.slice none 0 0) := by rw [cell_row hZ3]; rfl
  have HK3 := Lib.hid H3
  clear hZ3 H3 hZV H' hk hU HF s1 fS x2 hB9
  gi_wp2_with fail
  have k1 := ((keeps_setCell U R 0 (.int .i64 3)).trans (keeps_setCell _ R 1 (.int .i64 3))).trans ((keeps_setCell _ R 2 (.slice C 4 c)).trans (keeps_setCell _ R 3 (.slice none 0 0)))
  have r1 := set_same 3 (.slice none 0 0) (set_same 2 (.slice C 4 c) (set_same 1 (.int .i64 3) (set_same 0 (.int .i64 3) HK3.out)))
  have hRw := HR.out
  obtain ⟨Y, hY⟩ : ∃ Y, (((U.setCell ⟨R, 0, none⟩ (.int .i64 3)).setCell ⟨R, 1, none⟩ (.int .i64 3)).setCell ⟨R, 2, none⟩ (.slice C 4 c)).setCell ⟨R, 3, none⟩ (.slice none 0 0) = Y := ⟨_, rfl⟩
  rw [hY] at k1 r1 ⊢
  have q0 : Y.cell? ⟨R, 0, none⟩ = some (.int .i64 3) := by rw [cell_row r1]; rfl
  have q1 : Y.cell? ⟨R, 1, none⟩ = some (.int .i64 3) := by rw [cell_row r1]; rfl
  have q2 : Y.cell? ⟨R, 2, none⟩ = some (.slice C 4 c) := by rw [cell_row r1]; rfl
  have q3 : Y.cell? ⟨R, 3, none⟩ = some (.slice none 0 0) := by rw [cell_row r1]; rfl
  refine bodyPost_ret (v := .agg #[.int .i64 3, .int .i64 3, .slice C 4 c, .slice none 0 0]) (by rw [results_cell1 Try.results39]; simp [go_sem, q0, q1, q2, q3]) rfl ⟨C, c, rfl, hc, ⟨rfl, fun _ => ?_⟩, ?_⟩
  · obtain ⟨b, o, rfl, hcell⟩ := HR5.out.2 (by omega)
    refine ⟨b, o, rfl, fun j hj => ?_⟩
    have hcj := hcell j hj
    have hbR : ¬ b = R := fun e => by have : Z < b := HNw.out _ rfl; omega
    exact ⟨(keep_cells k1 (lt_of_cell hcj.1) (by simpa using hbR) _).trans hcj.1, (keep_cells k1 (lt_of_cell hcj.1) (by simpa using hbR) _).trans hcj.2⟩
  · exact HF2.out.trans (k1.below HF2.out.size (fun j hj e => by omega))
end
end Go.Proofs.Ytnodkgejggnehaa

namespace Go.Proofs.Ytnodkgejggnehaa
set_option linter.unusedSimpArgs false
set_option linter.unusedVariables false
theorem e_chkS : chkS 3 3 zE [] = 0 := by decide +kernel
theorem e_chkO : chkS 3 3 oE [] = 0 := by decide +kernel
theorem e_chkJ : chkJ 3 3 zE [] [1, 2, 4] = 0 := by decide +kernel
theorem e_kinds : kindsK 5 zE (opnL 5 zE []) (kNt []) 5 = [0, 2, 2, 0, 2] := by decide +kernel
theorem e_kindo : kindsK 4 oE (opnL 4 oE []) (kNt []) 4 = [1, 1, 1, 1] := by decide +kernel
theorem e_items : ikL 4 oE (opnL 4 oE []) (kNt []) 0 3 = [2, 0, 2] := by decide +kernel
theorem e_ask : askQ 4 oE (opnL 4 oE []) (kNt []) = some 0 := by decide +kernel
theorem e_rest : restS 4 oE (opnL 4 oE []) (kNt []) 0 = 2 := by decide +kernel
theorem e_none : askQ 5 zE (opnL 5 zE []) (kNt []) = none := by decide +kernel
theorem e_size : sizeF 5 zE (opnL 5 zE []) 0 = 3 := by decide +kernel
theorem e_great {pt : Nat → Int} (hg : GB 5 zE (opnL 5 zE []) pt (kNt [])) : jI 5 zE pt = [1, 2, 4] := by
  have h1 : (jI 5 zE pt).length = sizeF 5 zE (opnL 5 zE []) 0 := gb_len (n := 5) (sl := 3) (sr := 3) (zs := zE) (ks := []) e_chkS rfl hg
  rw [e_size, jI_len] at h1
  have hz : ZOk 5 zE := (shg_of e_chkS).zok
  have hm := fun (j k : Nat) (hj : j < 5) (hk : k < 5) (a : pt (0 * 12 + eN zE 0 j) = (j : Int)) (b : pt (0 * 12 + eN zE 0 k) = (k : Int)) (h : j ≠ k) => hg.cons.not_meet hz hj hk a b h
  have m02 := hm 0 2 (by omega) (by omega)
  have m01 := hm 0 1 (by omega) (by omega)
  have m13 := hm 1 3 (by omega) (by omega)
  have m34 := hm 3 4 (by omega) (by omega)
  rw [show mtB zE 0 2 = true by decide +kernel] at m02
  rw [show mtB zE 0 1 = true by decide +kernel] at m01
  rw [show mtB zE 1 3 = true by decide +kernel] at m13
  rw [show mtB zE 3 4 = true by decide +kernel] at m34
  unfold jI
  unfold jA at h1 ⊢
  generalize hp : (fun k : Nat => pt (0 * 12 + eN zE 0 k) == (k : Int)) = p at h1 ⊢
  have hpk : ∀ k, pt (0 * 12 + eN zE 0 k) = (k : Int) ↔ p k = true := fun k => by rw [← hp]; simp
  rw [hpk, hpk] at m02 m01 m13 m34
  rw [show List.range 5 = [0, 1, 2, 3, 4] from rfl] at h1 ⊢
  simp only [List.filter_cons, List.filter_nil] at h1 ⊢
  generalize p 0 = p0, p 1 = p1, p 2 = p2, p 3 = p3, p 4 = p4 at *
  cases p0 <;> cases p1 <;> cases p2 <;> cases p3 <;> cases p4 <;> simp_all
end Go.Proofs.Ytnodkgejggnehaa
