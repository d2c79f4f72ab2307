/- Stage 3: put: a number more in an increasing list. -/
import Derived.Test.YtdfdlklglbefiaaFin
namespace Go.Proofs.Ytdfdlklglbefiaa
set_option linter.unusedSimpArgs false
set_option linter.unusedVariables false
open Go.RowKit Go.Shelf
attribute [local go_sem ↓] exec_app

def putL (l : List Int) (x : Int) : List Int := l.filter (fun y => decide (y < x)) ++ x :: l.filter (fun y => decide (x < y))
theorem putL_mem {l : List Int} {x y : Int} : y ∈ putL l x ↔ y = x ∨ y ∈ l := by
  unfold putL
  simp only [List.mem_append, List.mem_cons, List.mem_filter, decide_eq_true_eq]
  constructor
  · rintro (⟨h, _⟩ | h | ⟨h, _⟩)
    · exact .inr h
    · exact .inl h
    · exact .inr h
  · rintro (h | h)
    · exact .inr (.inl h)
    · rcases Int.lt_trichotomy y x with e | e | e
      · exact .inl ⟨h, e⟩
      · exact .inr (.inl e)
      · exact .inr (.inr ⟨h, e⟩)
theorem putL_incr {l : List Int} (h : Incr l) (x : Int) : Incr (putL l x) := by
  unfold putL Incr
  rw [List.pairwise_append, List.pairwise_cons]
  refine ⟨List.Pairwise.filter _ h, ⟨fun y hy => by simpa using (List.mem_filter.1 hy).2, List.Pairwise.filter _ h⟩, fun a ha b hb => ?_⟩
  have ha2 := (List.mem_filter.1 ha).2
  simp only [decide_eq_true_eq] at ha2
  rcases List.mem_cons.1 hb with rfl | hb
  · exact ha2
  · have hb2 := (List.mem_filter.1 hb).2
    simp only [decide_eq_true_eq] at hb2
    omega
theorem putL_len (l : List Int) (x : Int) (h : Incr l) : (putL l x).length ≤ l.length + 1 := by
  have := nodup_sub_len (putL l x) (x :: l) (incr_nodup (putL_incr h x)) (fun y hy => by simpa using putL_mem.1 hy)
  simpa using this
theorem putL_all {l : List Int} {x : Int} (h : ∀ y ∈ l, y < x) : putL l x = l ++ [x] := by
  unfold putL
  rw [List.filter_eq_self.2 (fun y hy => by simpa using h y hy), List.filter_eq_nil_iff.2 (fun y hy => by have := h y hy; simp; omega)]
theorem putL_snoc {l : List Int} {x q : Int} (h : x < q) : putL (l ++ [q]) x = putL l x ++ [q] := by
  unfold putL
  rw [List.filter_append, List.filter_append]
  have e1 : List.filter (fun y => decide (y < x)) [q] = [] := by simp; omega
  have e2 : List.filter (fun y => decide (x < y)) [q] = [q] := by simp [h]
  rw [e1, e2]
  simp
theorem putL_same {l : List Int} {x : Int} (h : ∀ y ∈ l, y < x) : putL (l ++ [x]) x = l ++ [x] := by
  unfold putL
  have e1 : l.filter (fun y => decide (y < x)) = l := List.filter_eq_self.2 (fun y hy => by simpa using h y hy)
  have e2 : l.filter (fun y => decide (x < y)) = [] := List.filter_eq_nil_iff.2 (fun y hy => by have := h y hy; simp; omega)
  rw [List.filter_append, List.filter_append, e1, e2]
  simp
/-- What the rounds of put know. -/
def PutI (l : List Int) (x : Int) (k : Nat) (dn : Bool) (o : List Int) : Prop :=
  (dn = false ∧ o = l.take k ∧ ∀ y ∈ l.take k, y < x) ∨ (dn = true ∧ o = putL (l.take k) x ∧ ∃ y ∈ l.take k, x ≤ y)
/-- One number more in a row of one's own. -/
theorem own_snc {w0 wr : World} {N : Nat} {v : Value} {o : List Int} (ho : wr.ownsRow 0 2 1 v o.length (flatI o)) (hob : ∀ j, v.ownBlock = some j → N ≤ j) (hB : Below N w0 wr) (hN : N ≤ wr.heap.size) (x : Int) (hl : o.length ≤ 1000) :
    ∃ v' W', runA Try.prog 23 v (.slice (some ⟨wr.heap.size, 0, none⟩) 1 1) (wr.alloc (.cells #[.int .i64 x] 2)) = .ok (.value v') W' ∧ W'.ownsRow 0 2 1 v' (o ++ [x]).length (flatI (o ++ [x])) ∧ (∀ j, v'.ownBlock = some j → N ≤ j) ∧ Below N w0 W' ∧ N ≤ W'.heap.size := by
  have hbz := below_alloc_ wr (.cells #[.int .i64 x] 2)
  have hz := heap_alloc_new_ wr (.cells #[.int .i64 x] 2)
  have hob2 := own_keep (Mut := fun _ => False) ho (Keeps.of_new hbz) (fun _ _ e => e)
  obtain ⟨v', W3, hrun, hown3, hK3, hv3⟩ := app_one Try.underlying23 info2b_ rfl (by omega) (by omega) hob2 (vals := [.int .i64 x]) rfl hz (by simp [Value.oneCell']) (by omega)
  have hB1 : Below N w0 (wr.alloc (.cells #[.int .i64 x] 2)) := hB.trans (hbz.mono hN)
  have hs : N ≤ (wr.alloc (.cells #[.int .i64 x] 2)).heap.size := Nat.le_trans hN hbz.size
  refine ⟨v', W3, run_app hrun, ?_, fun j hj => ?_, hB1.trans (hK3.below hs (fun j hj e => by have := hob j e; omega)), Nat.le_trans hs hK3.size⟩
  · rw [flatI_snoc, List.length_append]; exact hown3
  · rcases hv3 with e | ⟨e, _⟩
    · rw [e] at hj; exact hob j hj
    · rw [e] at hj; cases hj; exact hs
set_option maxRecDepth 100000 in
set_option maxHeartbeats 40000000 in
theorem put59 (A : Option Addr) (n cap : Nat) (l : List Int) (x : Int) (w : World) (h : Ints w A n l) (hi : Incr l) (hn : n ≤ 100) :
    Calls Try.prog 59 #[.slice A n cap, .int .i64 x] w fun en w' => ∃ D cp, en = .returned (.slice D (putL l x).length cp) ∧ (putL l x).length ≤ cp ∧ Ints w' D (putL l x).length (putL l x) ∧ (∀ b o, D = some ⟨b, o, none⟩ → w.heap.size ≤ b) ∧ Below w.heap.size w w' := by
  have H := Lib.hid h
  have Hl := Lib.hid h.1
  have HI := Lib.hid hi
  clear h hi
  go_enter Try.func59, Try.ntmps59
  go_wp2_with fail
  go_loopw [5, 6, 7] (fun v d i wr => ∃ k : Nat, k ≤ n ∧ i = .int .i64 (k : Int) ∧ ∃ dn : Bool, d = .bool dn ∧ Hid (∃ o, wr.ownsRow 0 2 1 v o.length (flatI o) ∧ PutI l x k dn o ∧ (∀ j, v.ownBlock = some j → w.heap.size ≤ j) ∧ Below w.heap.size w wr ∧ o.length ≤ k + 1)) (fun _ _ i _ => n - (intOf i).toNat)
  case atStart => exact ⟨0, Nat.zero_le _, rfl, false, rfl, Lib.hid ⟨[], own_nil _ _ _, .inl ⟨rfl, rfl, by simp⟩, fun j e => (by cases e), Below.refl _ _, by simp⟩⟩
  case round =>
    obtain ⟨k, hk, rfl, dn, rfl, HR⟩ := hrel
    obtain ⟨wk, rfl⟩ : ∃ wk, wk = wr := ⟨_, rfl⟩
    obtain ⟨o, ho, hp, hob, hB, hol⟩ := HR.out
    by_cases hlt : k < n
    · have hkl : k < l.length := by rw [Hl.out]; exact hlt
      obtain ⟨b, oo, rfl, hc⟩ := (H.out.below hB (Nat.le_refl _)).2 (by omega)
      have x0 := hc k hlt
      have htk : l.take (k + 1) = l.take k ++ [iAt l k] := by rw [List.take_succ_eq_append_getElem hkl, iAt_eq hkl]
      have hnx : ∀ y ∈ l.take k, y < iAt l k := fun y hy => by
        obtain ⟨j, hj, rfl⟩ := List.mem_iff_getElem.1 hy
        rw [List.length_take] at hj
        rw [List.getElem_take, iAt_eq hkl]
        exact incr_lt HI.out hkl (by omega)
      obtain ⟨q, hq⟩ : ∃ q, iAt l k = q := ⟨_, rfl⟩
      rw [hq] at x0 htk hnx
      have Hq := Lib.hid hq
      have Htk := Lib.hid htk
      have Hnx := Lib.hid hnx
      have Hob := Lib.hid hob
      have HB := Lib.hid hB
      have Ho := Lib.hid ho
      have i0 : (0 : Int) ≤ (k : Int) := by omega
      have i1 : (k : Int) < (n : Int) := by omega
      clear hc htk hnx hq hob hB ho
      cases dn with
      | true =>
        obtain ⟨h1, _⟩ | ⟨_, rfl, y, hy, hxy⟩ := hp
        · cases h1
        have hxq : x < q := by have := Hnx.out y hy; omega
        have Hxq := Lib.hid hxq
        have Hy := Lib.hid (show ∃ y ∈ l.take k, x ≤ y from ⟨y, hy, hxy⟩)
        obtain ⟨v', W', hrun, hown, hob', hB', _⟩ := own_snc Ho.out Hob.out HB.out HB.out.size q (by omega)
        have HO := Lib.hid hown
        have HOb := Lib.hid hob'
        have HB2 := Lib.hid hB'
        have Hol := Lib.hid hol
        clear hy hxy hxq hown hob' hB' hol
        go_wp2_with fail
        go_roundw
        case rel => exact ⟨k + 1, by omega, by go_num, true, rfl, Lib.hid ⟨_, HO.out, .inr ⟨rfl, by rw [Htk.out, putL_snoc Hxq.out], by obtain ⟨y, h1, h2⟩ := Hy.out; exact ⟨y, by rw [Htk.out]; simp [h1], h2⟩⟩, HOb.out, HB2.out, by have := Hol.out; simp; omega⟩⟩
        case measure => simp [intOf]; omega
      | false =>
        obtain ⟨_, rfl, hall⟩ | ⟨h1, _⟩ := hp
        rotate_left
        · cases h1
        have Hall := Lib.hid hall
        have hlt2 : (l.take k).length = k := by rw [List.length_take]; omega
        have Hlt2 := Lib.hid hlt2
        by_cases hqx : q < x
        · obtain ⟨v', W', hrun, hown, hob', hB', _⟩ := own_snc Ho.out Hob.out HB.out HB.out.size q (by omega)
          have HO := Lib.hid hown
          have HOb := Lib.hid hob'
          have HB2 := Lib.hid hB'
          have Hqx := Lib.hid (show ∀ y ∈ l.take (k + 1), y < x from fun y hy => by
            rw [Htk.out] at hy
            rcases List.mem_append.1 hy with h | h
            · exact hall y h
            · rw [List.mem_singleton.1 h]; exact hqx)
          have d1 : ¬ (x ≤ q) := by omega
          clear hown hob' hB' hol hall hlt2
          go_wp2_with fail
          go_roundw
          case rel => exact ⟨k + 1, by omega, by go_num, false, rfl, Lib.hid ⟨_, HO.out, .inl ⟨rfl, Htk.out.symm, Hqx.out⟩, HOb.out, HB2.out, by have := Hlt2.out; simp; omega⟩⟩
          case measure => simp [intOf]; omega
        · have d1 : x ≤ q := by omega
          by_cases hxq : x < q
          · obtain ⟨v1, W1, hrun1, hown1, hob1, hB1, hN1⟩ := own_snc Ho.out Hob.out HB.out HB.out.size x (by omega)
            obtain ⟨v2, W2, hrun2, hown2, hob2, hB2, _⟩ := own_snc hown1 hob1 hB1 hN1 q (by simp; omega)
            have HO := Lib.hid hown2
            have HOb := Lib.hid hob2
            have HB2 := Lib.hid hB2
            have Hxq := Lib.hid hxq
            obtain ⟨b2, oo2, he2, hc2⟩ := (H.out.below hB1 (Nat.le_refl _)).2 (by omega)
            cases he2
            have x2 := hc2 k hlt
            rw [Hq.out] at x2
            clear hown1 hown2 hob1 hob2 hB1 hN1 hB2 hol hall hlt2 hc2
            go_wp2_with fail
            go_roundw
            case rel =>
              refine ⟨k + 1, by omega, by go_num, true, rfl, Lib.hid ⟨_, HO.out, .inr ⟨rfl, ?_, q, by rw [Htk.out]; simp, by have := Hxq.out; omega⟩, HOb.out, HB2.out, by have := Hlt2.out; simp; omega⟩⟩
              rw [Htk.out, putL_snoc Hxq.out, putL_all Hall.out]
            case measure => simp [intOf]; omega
          · have e : q = x := by omega
            subst e
            obtain ⟨v', W', hrun, hown, hob', hB', _⟩ := own_snc Ho.out Hob.out HB.out HB.out.size q (by omega)
            have HO := Lib.hid hown
            have HOb := Lib.hid hob'
            have HB2 := Lib.hid hB'
            clear hown hob' hB' hol hall hlt2
            go_wp2_with fail
            go_roundw
            case rel =>
              refine ⟨k + 1, by omega, by go_num, true, rfl, Lib.hid ⟨_, HO.out, .inr ⟨rfl, ?_, q, by rw [Htk.out]; simp, Int.le_refl _⟩, HOb.out, HB2.out, by have := Hlt2.out; simp; omega⟩⟩
              rw [Htk.out, putL_same Hall.out]
            case measure => simp [intOf]; omega
    · have e : k = n := by omega
      subst e
      have Hob := Lib.hid hob
      have HB := Lib.hid hB
      have htk : l.take k = l := List.take_of_length_le (by rw [Hl.out]; exact Nat.le_refl _)
      cases dn with
      | true =>
        obtain ⟨h1, _⟩ | ⟨_, rfl, y, hy, hxy⟩ := hp
        · cases h1
        rw [htk] at ho
        obtain ⟨C3, cp3, rfl, hcp3, hi3, hC3⟩ := ints_own rfl ho
        have Hi3 := Lib.hid hi3
        have HC3 := Lib.hid (fun b o (e : C3 = some ⟨b, o, none⟩) => hob b (hC3 b o e).1)
        obtain ⟨ln, hln⟩ : ∃ ln, (putL l x).length = ln := ⟨_, rfl⟩
        rw [hln] at Hi3 hcp3
        have Hln := Lib.hid hln
        have Hcp := Lib.hid hcp3
        rw [hln]
        clear ho hob hB hi3 hC3 hcp3 hln htk hy hxy hol HR
        go_wp2_with fail
        go_ret
        exact ⟨C3, cp3, by rw [Hln.out]; rfl, by rw [Hln.out]; exact Hcp.out, by rw [Hln.out]; exact Hi3.out, HC3.out, HB.out⟩
      | false =>
        obtain ⟨_, rfl, hall⟩ | ⟨h1, _⟩ := hp
        rotate_left
        · cases h1
        rw [htk] at ho hall hol
        obtain ⟨v', W', hrun, hown, hob', hB', _⟩ := own_snc ho hob hB hB.size x (by omega)
        rw [← putL_all hall] at hown
        obtain ⟨C3, cp3, rfl, hcp3, hi3, hC3⟩ := ints_own rfl hown
        have Hi3 := Lib.hid hi3
        have HC3 := Lib.hid (fun b o (e : C3 = some ⟨b, o, none⟩) => hob' b (hC3 b o e).1)
        have HB2 := Lib.hid hB'
        obtain ⟨ln, hln⟩ : ∃ ln, (putL l x).length = ln := ⟨_, rfl⟩
        rw [hln] at Hi3 hcp3 hrun
        have Hln := Lib.hid hln
        have Hcp := Lib.hid hcp3
        clear ho hob hB hi3 hC3 hcp3 hln htk hall hol HR hown hob' hB'
        go_wp2_with fail
        go_ret
        exact ⟨C3, cp3, by rw [Hln.out]; rfl, by rw [Hln.out]; exact Hcp.out, by rw [Hln.out]; exact Hi3.out, HC3.out, HB2.out⟩
end Go.Proofs.Ytdfdlklglbefiaa
