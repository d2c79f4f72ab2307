/- Stage 5: a sheet with one link known. -/
import Derived.Test.YtnodkgejggnehaaAp
import Derived.Test.YtnodkgejggnehaaRs
import Derived.LoopIn
import Derived.Deep.Cut
namespace Go.Proofs.Ytnodkgejggnehaa
set_option linter.unusedSimpArgs false
set_option linter.unusedVariables false
open Go.RowKit Go.Shelf
attribute [local go_sem ↓] exec_app at_app
attribute [local go_sem] Oper.semAt_some
/-- Some of the known links with one more in its place. -/
def kwP (k : Int) (ks : List Int) : Nat → List Int × Bool
  | 0 => ([], false)
  | q + 1 => if (!(kwP k ks q).2 && decide (k < iAt ks q)) = true then ((kwP k ks q).1 ++ [k] ++ [iAt ks q], true) else ((kwP k ks q).1 ++ [iAt ks q], (kwP k ks q).2)
def knwL (k : Int) (ks : List Int) : List Int := if (kwP k ks ks.length).2 = true then (kwP k ks ks.length).1 else (kwP k ks ks.length).1 ++ [k]
theorem kwP_len (k : Int) (ks : List Int) : ∀ q, (kwP k ks q).1.length = q + if (kwP k ks q).2 = true then 1 else 0
  | 0 => rfl
  | q + 1 => by
    have ih := kwP_len k ks q
    unfold kwP
    split
    · rename_i h
      simp only [Bool.and_eq_true, Bool.not_eq_true'] at h
      rw [h.1] at ih
      simp at ih ⊢
      omega
    · simp only [List.length_append, List.length_singleton]
      omega
theorem knwL_len (k : Int) (ks : List Int) : (knwL k ks).length = ks.length + 1 := by
  unfold knwL
  have h := kwP_len k ks ks.length
  split
  · rename_i e; rw [e] at h; simpa using h
  · rename_i e; rw [if_neg e] at h; simp; omega
theorem kwP_yes {k : Int} {ks : List Int} {q : Nat} {l : List Int} (h : kwP k ks q = (l, false)) (h2 : k < iAt ks q) : kwP k ks (q + 1) = (l ++ [k] ++ [iAt ks q], true) := by
  show (if _ then _ else _) = _
  rw [h, if_pos (by simp [h2])]
theorem kwP_no {k : Int} {ks : List Int} {q : Nat} {l : List Int} (h : kwP k ks q = (l, false)) (h2 : ¬ k < iAt ks q) : kwP k ks (q + 1) = (l ++ [iAt ks q], false) := by
  show (if _ then _ else _) = _
  rw [h, if_neg (by simp [h2])]
theorem kwP_in {k : Int} {ks : List Int} {q : Nat} {l : List Int} (h : kwP k ks q = (l, true)) : kwP k ks (q + 1) = (l ++ [iAt ks q], true) := by
  show (if _ then _ else _) = _
  rw [h, if_neg (by simp)]
theorem res35 {tmps : Array Value} {W : World} {R : Nat} {x y z u : Value} (h2 : tmps.getD 4 undef = .pointer (some ⟨R, 0, none⟩)) (hR : W.heap[R]? = some (.cells #[x, y, z, u] 25 (0, 0))) :
    (results Try.f35 tmps).run Try.prog W = .ok (.agg #[x, y, z, u]) W := by
  have z0 : W.cell? ⟨R, 0, none⟩ = some x := by rw [cell_row hR]; rfl
  have z1 : W.cell? ⟨R, 1, none⟩ = some y := by rw [cell_row hR]; rfl
  have z2 : W.cell? ⟨R, 2, none⟩ = some z := by rw [cell_row hR]; rfl
  have z3 : W.cell? ⟨R, 3, none⟩ = some u := by rw [cell_row hR]; rfl
  have hr : (results Try.f35 tmps).run Try.prog W = ((asAddr (tmps.getD 4 undef)).run Try.prog W).andThen fun a w₁ => (loadVar 25 a).run Try.prog w₁ := by
    simp only [results, Try.results35]
    simp [Sem.run_bind, Result.andThen]
  rw [hr, h2]
  simp [go_sem, z0, z1, z2, z3]
set_option maxRecDepth 100000 in
set_option maxHeartbeats 16000000 in
theorem knowing35 (sl sr : Int) (A : Option Addr) (n cap : Nat) (zs : List Rg) (A2 : Option Addr) (kn kc : Nat) (ks : List Int) (k : Int) (w : World) (hI : Ints w A2 kn ks) (hk : kn ≤ 1000) :
    Calls Try.prog 35 #[.agg #[.int .i64 sl, .int .i64 sr, .slice A n cap, .slice A2 kn kc], .int .i64 k] w fun e w' => ∃ C c, e = .returned (.agg #[.int .i64 sl, .int .i64 sr, .slice A n cap, .slice C (kn + 1) c]) ∧ kn + 1 ≤ c ∧ Ints w' C (kn + 1) (knwL k ks) ∧ (∀ a, C = some a → w.heap.size ≤ a.block) ∧ Below w.heap.size w w' := by
  have hb0 := below_alloc_ w (.cells #[.int .i64 sl, .int .i64 sr, .slice A n cap, .slice A2 kn kc] 25)
  have hr0 := heap_alloc_new_ w (.cells #[.int .i64 sl, .int .i64 sr, .slice A n cap, .slice A2 kn kc] 25)
  have hs0 : (w.alloc (.cells #[.int .i64 sl, .int .i64 sr, .slice A n cap, .slice A2 kn kc] 25)).heap.size = w.heap.size + 1 := by simp
  obtain ⟨w0, hW0⟩ : ∃ w0, w.alloc (.cells #[.int .i64 sl, .int .i64 sr, .slice A n cap, .slice A2 kn kc] 25) = w0 := ⟨_, rfl⟩
  rw [hW0] at hb0 hr0 hs0
  have hb2 := below_alloc_ w0 (.cells #[.int .i64 0, .int .i64 0, .slice none 0 0, .slice none 0 0] 25)
  have hr2 := heap_alloc_new_ w0 (.cells #[.int .i64 0, .int .i64 0, .slice none 0 0, .slice none 0 0] 25)
  have hs2 : (w0.alloc (.cells #[.int .i64 0, .int .i64 0, .slice none 0 0, .slice none 0 0] 25)).heap.size = w0.heap.size + 1 := by simp
  obtain ⟨w2, hW2⟩ : ∃ w2, w0.alloc (.cells #[.int .i64 0, .int .i64 0, .slice none 0 0, .slice none 0 0] 25) = w2 := ⟨_, rfl⟩
  rw [hW2] at hb2 hr2 hs2
  obtain ⟨R, hR⟩ : ∃ R, w.heap.size = R := ⟨_, rfl⟩
  have hbb : Below w.heap.size w w2 := hb0.trans (hb2.mono hb0.size)
  replace hr0 := (hb2.block _ (lt_of_block hr0)).trans hr0
  rw [hs0] at hr2
  rw [hR] at hr0 hr2
  have hsz : w2.heap.size = R + 2 := by omega
  have hI2 := hI.below hbb (Nat.le_refl _)
  have hkl := hI.1
  have x3 : w2.cell? ⟨R, 3, none⟩ = some (.slice A2 kn kc) := by rw [cell_row hr0]; rfl
  have HI := Lib.hid hI2
  have HB := Lib.hid hbb
  have HW0 := Lib.hid hW0
  have HW2 := Lib.hid hW2
  have HR := Lib.hid hR
  have Hr0 := Lib.hid hr0
  have Hr2 := Lib.hid hr2
  have Hkl := Lib.hid hkl
  have Hsz := Lib.hid hsz
  clear hI hb0 hr0 hW0 hR hs0 hb2 hr2 hW2 hbb hI2 hs2 hkl hsz
  go_enter Try.func35, Try.ntmps35
  go_wp2_with fail
  try rw [HW0.out]
  try rw [HW2.out]
  try rw [HR.out]
  try go_wp2_with fail
  go_loopw [5, 6, 7] (fun v f i wr => ∃ q : Nat, q ≤ kn ∧ i = .int .i64 (q : Int) ∧ Hid (∃ a : Bool, f = .bool a ∧ ∃ l : List Int, kwP k ks q = (l, a) ∧ wr.ownsRow 0 3 1 v l.length (flatI l) ∧ (∀ j, v.ownBlock = some j → R + 2 ≤ j) ∧ Below w2.heap.size w2 wr)) (fun v f i _ => kn - (intOf i).toNat)
  case atStart => exact ⟨0, by omega, rfl, Lib.hid ⟨false, rfl, [], rfl, ⟨rfl, .inl ⟨rfl, rfl⟩⟩, fun j e => (by cases e), Below.refl _ _⟩⟩
  case round =>
    obtain ⟨q, hq9, rfl, HV⟩ := hrel
    obtain ⟨wk, rfl⟩ : ∃ wk, wk = wr := ⟨_, rfl⟩
    obtain ⟨a, rfl, l, hl, hown, hnew, hbk⟩ := HV.out
    have hrk := (hbk.block _ (lt_of_block Hr0.out)).trans Hr0.out
    have x3 : wk.cell? ⟨R, 3, none⟩ = some (.slice A2 kn kc) := by rw [cell_row hrk]; rfl
    have hlen := kwP_len k ks q
    rw [hl] at hlen
    simp only at hlen
    have hl1 : l.length ≤ q + 1 := by split at hlen <;> omega
    by_cases hlt : q < kn
    · have hik := HI.out.below hbk (Nat.le_refl _)
      obtain ⟨b2, o2, ez, hcz⟩ := hik.2 (by omega)
      subst ez
      have z0 := hcz q hlt
      have i0 : (0 : Int) ≤ (q : Int) := by omega
      have i1 : (q : Int) < (kn : Int) := by omega
      obtain ⟨g, hg⟩ : ∃ g, iAt ks q = g := ⟨_, rfl⟩
      rw [hg] at z0
      have NEXT := Lib.hid (show ∀ (W' : World) (v' : Value) (l' : List Int) (x : Int), Below w2.heap.size w2 W' → W'.ownsRow 0 3 1 v' l'.length (flatI l') → (∀ j, v'.ownBlock = some j → R + 2 ≤ j) → l'.length ≤ 2000 → ∃ C c W1, runA Try.prog 23 v' (.slice (some ⟨W'.heap.size, 0, none⟩) 1 1) (W'.alloc (.cells #[.int .i64 x] 3)) = .ok (.value (.slice C (l'.length + 1) c)) W1 ∧ W1.ownsRow 0 3 1 (.slice C (l'.length + 1) c) (l' ++ [x]).length (flatI (l' ++ [x])) ∧ (∀ j, (Value.slice C (l'.length + 1) c).ownBlock = some j → R + 2 ≤ j) ∧ Below w2.heap.size w2 W1 from by
        intro W' v' l' x hB ho hn hll
        obtain ⟨C, c, W1, r1, o1, k1, d1⟩ := app_int ho x (by omega)
        have hs := hB.size
        have hz := Hsz.out
        refine ⟨C, c, W1, r1, by rw [List.length_append]; exact o1, fun j e => ?_, hB.trans (k1.below hB.size (fun j hj e => by have := hn j e; omega))⟩
        rcases d1 j e with e2 | e2
        · exact hn j e2
        · omega)
      have Hg := Lib.hid hg
      have Hl := Lib.hid hl
      have Ho := Lib.hid hown
      have Hn := Lib.hid hnew
      have Hbk := Lib.hid hbk
      have HcZ := Lib.hid (show wk.cell? ⟨b2, o2 + q, none⟩ = some (.int .i64 g) from z0)
      have Hrk := Lib.hid hrk
      clear HV hl hown hnew hbk hik hcz hg hlen hrk
      rcases a with _ | _
      · by_cases hgt : k < g
        · have d1 : (g > k) := hgt
          obtain ⟨C, c, W1, r1, o1, n1, B1⟩ := NEXT.out wk u5 l k Hbk.out Ho.out Hn.out (by omega)
          have hb9 := B1
          have hrk1 := (B1.block _ (lt_of_block Hr0.out)).trans Hr0.out
          have y3 : W1.cell? ⟨R, 3, none⟩ = some (.slice (some ⟨b2, o2, none⟩) kn kc) := by rw [cell_row hrk1]; rfl
          obtain ⟨b3, o3, ez, hcz⟩ := (HI.out.below B1 (Nat.le_refl _)).2 (by omega)
          cases ez
          have y4 := hcz q hlt
          rw [Hg.out] at y4
          obtain ⟨C3, c3, W3, r3, oo3, n3, B3⟩ := NEXT.out W1 _ (l ++ [k]) g B1 o1 n1 (by simp; omega)
          rw [List.length_append, List.length_singleton] at r3
          have HN := Lib.hid (show ∃ l', kwP k ks (q + 1) = (l', true) ∧ W3.ownsRow 0 3 1 (.slice C3 ((l ++ [k]).length + 1) c3) l'.length (flatI l') ∧ (∀ j, (Value.slice C3 ((l ++ [k]).length + 1) c3).ownBlock = some j → R + 2 ≤ j) ∧ Below w2.heap.size w2 W3 from
            ⟨_, by rw [kwP_yes Hl.out (by rw [Hg.out]; exact hgt), Hg.out], oo3, n3, B3⟩)
          rw [List.length_append, List.length_singleton] at HN
          clear o1 n1 B1 hb9 hrk1 hcz oo3 n3 B3 NEXT
          go_wp2_with fail
          go_roundw
          case rel => exact ⟨q + 1, by omega, by go_num, Lib.hid ⟨true, rfl, HN.out⟩⟩
          case measure => simp [intOf]; omega
        · have d1 : ¬ (g > k) := hgt
          have d2 : (g ≤ k) := by omega
          obtain ⟨C, c, W1, r1, o1, n1, B1⟩ := NEXT.out wk u5 l g Hbk.out Ho.out Hn.out (by omega)
          have HN := Lib.hid (show ∃ l', kwP k ks (q + 1) = (l', false) ∧ W1.ownsRow 0 3 1 (.slice C (l.length + 1) c) l'.length (flatI l') ∧ (∀ j, (Value.slice C (l.length + 1) c).ownBlock = some j → R + 2 ≤ j) ∧ Below w2.heap.size w2 W1 from
            ⟨_, by rw [kwP_no Hl.out (by rw [Hg.out]; exact hgt), Hg.out], o1, n1, B1⟩)
          clear o1 n1 B1 NEXT hgt
          go_wp2_with fail
          go_roundw
          case rel => exact ⟨q + 1, by omega, by go_num, Lib.hid ⟨false, rfl, HN.out⟩⟩
          case measure => simp [intOf]; omega
      · obtain ⟨C, c, W1, r1, o1, n1, B1⟩ := NEXT.out wk u5 l g Hbk.out Ho.out Hn.out (by omega)
        have HN := Lib.hid (show ∃ l', kwP k ks (q + 1) = (l', true) ∧ W1.ownsRow 0 3 1 (.slice C (l.length + 1) c) l'.length (flatI l') ∧ (∀ j, (Value.slice C (l.length + 1) c).ownBlock = some j → R + 2 ≤ j) ∧ Below w2.heap.size w2 W1 from
          ⟨_, by rw [kwP_in Hl.out, Hg.out], o1, n1, B1⟩)
        clear o1 n1 B1 NEXT
        go_wp2_with fail
        go_roundw
        case rel => exact ⟨q + 1, by omega, by go_num, Lib.hid ⟨true, rfl, HN.out⟩⟩
        case measure => simp [intOf]; omega
    · obtain rfl : kn = q := by omega
      clear hlt x3
      have x3 : wk.cell? ⟨R, 3, none⟩ = some (.slice A2 kn kc) := by rw [cell_row hrk]; rfl
      have hq1 := kwP_len k ks kn
      have Hl := Lib.hid hl
      have Ho := Lib.hid hown
      have Hn := Lib.hid hnew
      have Hbk := Lib.hid hbk
      clear HV hl hown hnew hbk hrk hlen hq1
      rcases a with _ | _
      · have hk9 : knwL k ks = l ++ [k] := by
          unfold knwL; rw [Hkl.out, Hl.out]; rfl
        have hlF : (knwL k ks).length = kn + 1 := by rw [knwL_len, Hkl.out]
        obtain ⟨C9, c9, W1, r1, o1, k1, d1⟩ := app_int Ho.out k (by omega)
        have hll : l.length = kn := by rw [hk9, List.length_append, List.length_singleton] at hlF; omega
        have B1 : Below w2.heap.size w2 W1 := Hbk.out.trans (k1.below Hbk.out.size (fun j hj e => by have := Hn.out j e; have := Hsz.out; omega))
        have n1 : ∀ j, (Value.slice C9 (l.length + 1) c9).ownBlock = some j → R + 2 ≤ j := fun j e => by
          rcases d1 j e with e2 | e2
          · exact Hn.out j e2
          · have := Hbk.out.size; have := Hsz.out; omega
        rw [← hk9] at o1
        rw [hll] at r1 o1 n1
        clear k1 d1 hk9
        have hrk9 := (B1.block _ (lt_of_block Hr0.out)).trans Hr0.out
        have hrz9 := (B1.block _ (lt_of_block Hr2.out)).trans Hr2.out
        have s0 : W1.cell? ⟨R, 0, none⟩ = some (.int .i64 sl) := by rw [cell_row hrk9]; rfl
        have s1 : W1.cell? ⟨R, 1, none⟩ = some (.int .i64 sr) := by rw [cell_row hrk9]; rfl
        have s2 : W1.cell? ⟨R, 2, none⟩ = some (.slice A n cap) := by rw [cell_row hrk9]; rfl
        have t0 : W1.cell? ⟨R + 1, 0, none⟩ = some (.int .i64 0) := by rw [cell_row hrz9]; rfl
        have t1 : W1.cell? ⟨R + 1, 1, none⟩ = some (.int .i64 0) := by rw [cell_row hrz9]; rfl
        have t2 : W1.cell? ⟨R + 1, 2, none⟩ = some (.slice none 0 0) := by rw [cell_row hrz9]; rfl
        have t3 : W1.cell? ⟨R + 1, 3, none⟩ = some (.slice none 0 0) := by rw [cell_row hrz9]; rfl
        have fR := fun o : Nat => frozen_row (k := o) hrz9
        have hRR := set_same 3 (.slice C9 (kn + 1) c9) (set_same 2 (.slice A n cap) (set_same 1 (.int .i64 sr) (set_same 0 (.int .i64 sl) hrz9)))
        have hkR := (((keeps_setCell W1 (R + 1) 0 (.int .i64 sl)).trans (keeps_setCell _ (R + 1) 1 (.int .i64 sr))).trans (keeps_setCell _ (R + 1) 2 (.slice A n cap))).trans (keeps_setCell _ (R + 1) 3 (.slice C9 (kn + 1) c9))
        have oF := own_keep o1 hkR (fun g hg (e : g = R + 1) => by have := n1 g hg; omega)
        have HRR := Lib.hid hRR
        have HoF := Lib.hid oF
        have hB1 : Below w.heap.size w W1 := HB.out.trans (B1.mono HB.out.size)
        have HBF := Lib.hid (hB1.trans (hkR.below hB1.size (fun j hj e => by have := HR.out; omega)))
        clear hB1
        have Hn1 := Lib.hid n1
        clear o1 n1 B1 hrk9 hrz9 hRR hkR oF
        go_wp2_with fail
        obtain ⟨C8, c8, e8, hcap, hrgs, -⟩ := ints_own hlF HoF.out
        cases e8
        exact bodyPost_ret (v := .agg #[.int .i64 sl, .int .i64 sr, .slice A n cap, .slice C9 (kn + 1) c9]) (res35 (by rfl) HRR.out) rfl ⟨C9, c9, rfl, hcap, hrgs, fun a e => by have := Hn1.out a.block (by rw [e]; rfl); have := HR.out; omega, HBF.out⟩
      · have hk9 : knwL k ks = l := by
          unfold knwL; rw [Hkl.out, Hl.out]; rfl
        have hlF : (knwL k ks).length = kn + 1 := by rw [knwL_len, Hkl.out]
        have hll : l.length = kn + 1 := by rw [hk9] at hlF; exact hlF
        have o1 := Ho.out
        have n1 := Hn.out
        have B1 := Hbk.out
        obtain ⟨W1, rfl⟩ : ∃ W1, W1 = wk := ⟨_, rfl⟩
        rw [← hk9, hlF] at o1
        obtain ⟨C9, c9, rfl, -, -, -⟩ := ints_own hlF o1
        clear hk9
        have hrk9 := (B1.block _ (lt_of_block Hr0.out)).trans Hr0.out
        have hrz9 := (B1.block _ (lt_of_block Hr2.out)).trans Hr2.out
        have s0 : W1.cell? ⟨R, 0, none⟩ = some (.int .i64 sl) := by rw [cell_row hrk9]; rfl
        have s1 : W1.cell? ⟨R, 1, none⟩ = some (.int .i64 sr) := by rw [cell_row hrk9]; rfl
        have s2 : W1.cell? ⟨R, 2, none⟩ = some (.slice A n cap) := by rw [cell_row hrk9]; rfl
        have t0 : W1.cell? ⟨R + 1, 0, none⟩ = some (.int .i64 0) := by rw [cell_row hrz9]; rfl
        have t1 : W1.cell? ⟨R + 1, 1, none⟩ = some (.int .i64 0) := by rw [cell_row hrz9]; rfl
        have t2 : W1.cell? ⟨R + 1, 2, none⟩ = some (.slice none 0 0) := by rw [cell_row hrz9]; rfl
        have t3 : W1.cell? ⟨R + 1, 3, none⟩ = some (.slice none 0 0) := by rw [cell_row hrz9]; rfl
        have fR := fun o : Nat => frozen_row (k := o) hrz9
        have hRR := set_same 3 (.slice C9 (kn + 1) c9) (set_same 2 (.slice A n cap) (set_same 1 (.int .i64 sr) (set_same 0 (.int .i64 sl) hrz9)))
        have hkR := (((keeps_setCell W1 (R + 1) 0 (.int .i64 sl)).trans (keeps_setCell _ (R + 1) 1 (.int .i64 sr))).trans (keeps_setCell _ (R + 1) 2 (.slice A n cap))).trans (keeps_setCell _ (R + 1) 3 (.slice C9 (kn + 1) c9))
        have oF := own_keep o1 hkR (fun g hg (e : g = R + 1) => by have := n1 g hg; omega)
        have HRR := Lib.hid hRR
        have HoF := Lib.hid oF
        have hB1 : Below w.heap.size w W1 := HB.out.trans (B1.mono HB.out.size)
        have HBF := Lib.hid (hB1.trans (hkR.below hB1.size (fun j hj e => by have := HR.out; omega)))
        clear hB1
        have Hn1 := Lib.hid n1
        clear o1 n1 B1 hrk9 hrz9 hRR hkR oF
        go_wp2_with fail
        obtain ⟨C8, c8, e8, hcap, hrgs, -⟩ := ints_own hlF HoF.out
        cases e8
        exact bodyPost_ret (v := .agg #[.int .i64 sl, .int .i64 sr, .slice A n cap, .slice C9 (kn + 1) c9]) (res35 (by rfl) HRR.out) rfl ⟨C9, c9, rfl, hcap, hrgs, fun a e => by have := Hn1.out a.block (by rw [e]; rfl); have := HR.out; omega, HBF.out⟩
end Go.Proofs.Ytnodkgejggnehaa
