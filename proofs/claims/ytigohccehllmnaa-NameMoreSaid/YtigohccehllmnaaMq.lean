/- Stage 6: a link more, and one that is told otherwise. -/
import Derived.Test.YtigohccehllmnaaMm
import Derived.Test.YtigohccehllmnaaGa
import Derived.Test.YtigohccehllmnaaG3
namespace Go.Proofs.Ytigohccehllmnaa
set_option linter.unusedSimpArgs false
set_option linter.unusedVariables false
open Go.RowKit Go.Shelf

/-- A row of links, with room behind it. -/
def RwN (W : World) (g : Nat) (zs : List Nl) : Prop := ∃ rest : List Value, W.heap[g]? = some (.cells (flatN zs ++ rest).toArray 60 (0, 0))
theorem RwN.cell {W : World} {g : Nat} {zs : List Nl} (h : RwN W g zs) {j : Nat} (hj : j < zs.length) : W.cell? ⟨g, j * 3, none⟩ = some (.int .i64 (lAt zs j).one) ∧ W.cell? ⟨g, j * 3 + 1, none⟩ = some (.int .i64 (lAt zs j).two) ∧ W.cell? ⟨g, j * 3 + 2, none⟩ = some (.int .i64 (lAt zs j).tr) := by
  obtain ⟨rest, h⟩ := h
  obtain ⟨a, b, c⟩ := flatN_at zs j hj
  have hl := flatN_len zs
  refine ⟨?_, ?_, ?_⟩
  · rw [cell_row h, List.getElem?_toArray, List.getElem?_append_left (by omega)]; exact a
  · rw [cell_row h, List.getElem?_toArray, List.getElem?_append_left (by omega)]; exact b
  · rw [cell_row h, List.getElem?_toArray, List.getElem?_append_left (by omega)]; exact c
theorem RwN.fz {W : World} {g : Nat} {zs : List Nl} (h : RwN W g zs) (j : Nat) : W.frozen? ⟨g, j, none⟩ = false := by
  obtain ⟨rest, h⟩ := h
  exact frozen_row (k := j) h
theorem RwN.lt {W : World} {g : Nat} {zs : List Nl} (h : RwN W g zs) : g < W.heap.size := by
  obtain ⟨rest, h⟩ := h
  exact lt_of_block h
theorem RwN.keep {W W' : World} {g : Nat} {zs : List Nl} {Mut : Nat → Prop} (h : RwN W g zs) (hK : Keeps Mut W W') (hm : ¬ Mut g) : RwN W' g zs := by
  obtain ⟨rest, h⟩ := h
  exact ⟨rest, (hK.block g (lt_of_block h) hm).trans h⟩
theorem RwN.below {W W' : World} {g Bs : Nat} {zs : List Nl} (h : RwN W g zs) (hb : Below Bs W W') (hB : W.heap.size ≤ Bs) : RwN W' g zs := by
  have hl := h.lt
  obtain ⟨rest, h⟩ := h
  exact ⟨rest, (hb.block g (by omega)).trans h⟩
theorem RwN.nls {W : World} {g : Nat} {zs : List Nl} (h : RwN W g zs) : Nls W (some ⟨g, 0, none⟩) zs.length zs :=
  ⟨rfl, fun _ => ⟨g, 0, rfl, fun j hj => by rw [Nat.zero_add]; exact h.cell hj⟩⟩
theorem RwN.set {W : World} {g : Nat} {zs : List Nl} (h : RwN W g zs) {j : Nat} (hj : j < zs.length) (d : Int) : RwN (W.setCell ⟨g, j * 3 + 2, none⟩ (.int .i64 ((lAt zs j).tr + d))) g (zs.set j ⟨(lAt zs j).one, (lAt zs j).two, (lAt zs j).tr + d⟩) := by
  obtain ⟨rest, h⟩ := h
  refine ⟨rest, ?_⟩
  have := set_same (j * 3 + 2) (.int .i64 ((lAt zs j).tr + d)) h
  rw [this]
  congr 3
  rw [List.setIfInBounds_toArray, List.set_append_left _ _ (by rw [flatN_len]; omega), flatN_set zs j hj ⟨(lAt zs j).one, (lAt zs j).two, (lAt zs j).tr + d⟩ rfl rfl]
theorem rwN_own {W : World} {v : Value} {n : Nat} {zs : List Nl} (hn : 0 < n) (h : W.ownsRow 0 60 3 v n (flatN zs)) : ∃ g cap, v = .slice (some ⟨g, 0, none⟩) n cap ∧ n ≤ cap ∧ RwN W g zs ∧ v.ownBlock = some g := by
  rcases h.2 with ⟨e, h0⟩ | ⟨g', cap, cur, e, hb, hg, hc2, _, hsz, htake⟩
  · omega
  · subst e
    refine ⟨g', cap, rfl, hc2, ⟨cur.toList.drop (n * 3), ?_⟩, rfl⟩
    rw [← htake, List.take_append_drop]
    exact hg
theorem more_list2 {W0 W : World} {D m c8 g : Nat} {zs : List Nl} {N : Int} {v2 v3 : Value} (hb : Below W0.heap.size W0 W) (hD : W.heap[D]? = some (.cells #[.int .i64 0, .slice none 0 0, .slice none 0 0, .slice none 0 0] 25 (0, 0))) (hD0 : W0.heap.size ≤ D) (hr : RwN W g zs) (hne : g ≠ D) :
    ((((W.setCell ⟨D, 0, none⟩ (.int .i64 N)).setCell ⟨D, 1, none⟩ (.slice (some ⟨g, 0, none⟩) m c8)).setCell ⟨D, 2, none⟩ v2).setCell ⟨D, 3, none⟩ v3).heap[D]? = some (.cells #[.int .i64 N, .slice (some ⟨g, 0, none⟩) m c8, v2, v3] 25 (0, 0)) ∧
    RwN ((((W.setCell ⟨D, 0, none⟩ (.int .i64 N)).setCell ⟨D, 1, none⟩ (.slice (some ⟨g, 0, none⟩) m c8)).setCell ⟨D, 2, none⟩ v2).setCell ⟨D, 3, none⟩ v3) g zs ∧
    Below W0.heap.size W0 ((((W.setCell ⟨D, 0, none⟩ (.int .i64 N)).setCell ⟨D, 1, none⟩ (.slice (some ⟨g, 0, none⟩) m c8)).setCell ⟨D, 2, none⟩ v2).setCell ⟨D, 3, none⟩ v3) := by
  have k1 := ((keeps_setCell W D 0 (.int .i64 N)).trans (keeps_setCell _ D 1 (.slice (some ⟨g, 0, none⟩) m c8))).trans ((keeps_setCell _ D 2 v2).trans (keeps_setCell _ D 3 v3))
  have r1 := set_same 3 v3 (set_same 2 v2 (set_same 1 (.slice (some ⟨g, 0, none⟩) m c8) (set_same 0 (.int .i64 N) hD)))
  exact ⟨r1, hr.keep k1 (fun e => hne e), hb.trans (k1.below hb.size (fun j hj e => by omega))⟩
/-- Links that are dropped, with one more. -/
def dqP (xa xb k : Nat) : Int → Bool := fun i => dpP xa xb i || decide (i = (k : Int))
theorem groups_more {l : NL} {W : World} (hn : NLs W l) (hch : chkL l = 0) (xa xb : Nat) {k : Nat} (hk : k < l.n) :
    (docG l (nmK (dpP xa xb) l.n)).length ≤ (docG l (nmK (dqP xa xb k) l.n)).length ∧ (docG l (nmK (dqP xa xb k) l.n)).length ≤ (docG l (nmK (dpP xa xb) l.n)).length + 1 ∧
    ∀ g ∈ docG l (nmK (dqP xa xb k) l.n), ∃ h ∈ docG l (nmK (dpP xa xb) l.n), g.all (fun y => decide (y ∈ h)) = true := by
  cases hp : dpP xa xb (k : Int)
  · rw [docG_ok (layE_dp hch _), docG_ok (layE_dp hch _)]
    have hz := okl_list hn hch
    have hzl := hn.zs.1
    obtain ⟨ds, hds⟩ : ∃ v, nmK (dpP xa xb) l.n = v := ⟨_, rfl⟩
    obtain ⟨es, hes⟩ : ∃ v, nmK (dqP xa xb k) l.n = v := ⟨_, rfl⟩
    have hkd : (k : Int) ∉ ds := by
      rw [← hds, mem_nmK, hp]; simp
    have hee : ∀ x : Int, x ∈ es ↔ x ∈ ds ∨ x = (k : Int) := fun x => by
      rw [← hes, ← hds, mem_nmK, mem_nmK]
      unfold dqP
      rw [Bool.or_eq_true, decide_eq_true_iff]
      constructor
      · rintro ⟨a, b, c | c⟩
        · exact .inl ⟨a, b, c⟩
        · exact .inr c
      · rintro (⟨a, b, c⟩ | c)
        · exact ⟨a, b, .inl c⟩
        · exact ⟨by omega, by omega, .inr c⟩
    rw [hds, hes]
    have hA : ∀ w : Wy, isWay l.zs w → ((fun w : Wy => !decide ((w.link : Int) ∈ ds)) w = true ↔ (w.link : Int) ∉ ds) := fun w _ => by simp
    have hB : ∀ w : Wy, isWay l.zs w → ((fun w : Wy => !decide ((w.link : Int) ∈ es)) w = true ↔ (w.link : Int) ∉ es) := fun w _ => by simp
    have hlen : l.n = l.zs.length := hzl.symm
    rw [hlen]
    have hkl : k < l.zs.length := by omega
    have hR : ∀ x : Int, 0 ≤ x ∧ x < (l.N.toNat : Int) → (0 ≤ labG l.zs es l.zs.length l.N.toNat x ∧ labG l.zs es l.zs.length l.N.toNat x < (l.N.toNat : Int)) ∧ labG l.zs es l.zs.length l.N.toNat (labG l.zs es l.zs.length l.N.toNat x) = labG l.zs es l.zs.length l.N.toNat x := fun x hx => by
      obtain ⟨P, hP⟩ := rs_exists hz (fun w : Wy => !decide ((w.link : Int) ∈ es)) (fs := [x]) (fun z hz2 => by rw [List.mem_singleton] at hz2; rw [hz2]; exact hx)
      have h1 := (labG_leastI (ds := es) hz hB hx hP).1
      exact ⟨rs_range hz hx hP h1, (lab_same hz hB hx hP h1).symm⟩
    have ok := hz k hkl
    have h1 := hR (lAt l.zs k).one ⟨ok.1.1, ok.1.2⟩
    have h2 := hR (lAt l.zs k).two ⟨ok.2.1.1, ok.2.1.2⟩
    exact dg_merge (fun x hx => lab_drop_one hz hA hB hkl hkd hee ⟨by omega, by omega⟩) (fun x hx => (hR x ⟨by omega, by omega⟩).1) (fun x hx => (hR x ⟨by omega, by omega⟩).2) ⟨h1.2, h1.1⟩ ⟨h2.2, h2.1⟩
  · have e : nmK (dqP xa xb k) l.n = nmK (dpP xa xb) l.n := nmK_congr fun x hx => by
      unfold dqP
      by_cases h : (x : Int) = (k : Int)
      · rw [h, hp]; rfl
      · rw [decide_eq_false h, Bool.or_false]
    rw [e]
    exact ⟨Nat.le_refl _, by omega, fun g hg => ⟨g, hg, List.all_eq_true.2 fun y hy => decide_eq_true hy⟩⟩
/-- A group lies in one of the first others. -/
def inK (g : List Int) (al : List (List Int)) (m : Nat) : Bool := (List.range m).any fun j => g.all fun y => decide (y ∈ al.getD j [])
theorem inK_succ (g : List Int) (al : List (List Int)) (m : Nat) : inK g al (m + 1) = (inK g al m || g.all fun y => decide (y ∈ al.getD m [])) := by
  unfold inK; rw [List.range_succ, List.any_append]; simp
theorem inK_yes {g : List Int} {al : List (List Int)} {n : Nat} (hn : al.length = n) (h : ∃ h ∈ al, g.all (fun y => decide (y ∈ h)) = true) : inK g al n = true := by
  obtain ⟨x, hx, e⟩ := h
  obtain ⟨j, hj, e2⟩ := List.mem_iff_getElem.1 hx
  refine List.any_eq_true.2 ⟨j, List.mem_range.2 (by omega), ?_⟩
  have : al.getD j [] = x := by simp [List.getD, hj, e2]
  rw [this]; exact e
theorem cost_nn {l : NL} {W : World} (hn : NLs W l) (hch : chkL l = 0) (S : Int → Bool) : 0 ≤ costS l.zs S := by
  unfold costS
  have h := sumN_le (n := l.zs.length) (g := fun _ => 0) (h := fun k => ind (cutB l.zs S k) (lAt l.zs k).tr) (fun k hk => (ind_in (chk_tr hch hn k (by rw [← hn.zs.1]; exact hk)).1).1)
  rw [sumN_zero] at h
  exact h
/-- The list with a link more: how much it costs. -/
theorem more_cost {l : NL} {r : Nl} (h0 : 0 ≤ r.tr) {P Q : Int → Bool} {A : Option Addr} {cap : Nat} (hP : Cheap l.zs l.ls l.rs P) (hQ : Cheap (lkX l A cap (l.zs ++ [r])).zs (lkX l A cap (l.zs ++ [r])).ls (lkX l A cap (l.zs ++ [r])).rs Q) : costS l.zs P ≤ costS (l.zs ++ [r]) Q ∧ costS (l.zs ++ [r]) Q ≤ costS l.zs P + r.tr :=
  cheap_more (fun S => by rw [cost_snoc]; have := ind_in (b := S r.one != S r.two) h0; omega) hP hQ
theorem set_cost {l : NL} {k : Nat} (hk : k < l.zs.length) {d : Int} (h0 : 0 ≤ d) {P Q : Int → Bool} {A : Option Addr} {cap : Nat} (hP : Cheap l.zs l.ls l.rs P) (hQ : Cheap (l.zs.set k ⟨(lAt l.zs k).one, (lAt l.zs k).two, (lAt l.zs k).tr + d⟩) l.ls l.rs Q) : costS l.zs P ≤ costS (l.zs.set k ⟨(lAt l.zs k).one, (lAt l.zs k).two, (lAt l.zs k).tr + d⟩) Q ∧ costS (l.zs.set k ⟨(lAt l.zs k).one, (lAt l.zs k).two, (lAt l.zs k).tr + d⟩) Q ≤ costS l.zs P + d :=
  cheap_more (fun S => by rw [cost_set l.zs hk]; have := ind_in (b := cutB l.zs S k) h0; omega) hP hQ
theorem more_tr {l : NL} {A : Option Addr} {cap : Nat} {r : Nl} (h : chkL (lkX l A cap (l.zs ++ [r])) = 0) : 0 ≤ r.tr ∧ r.tr ≤ 1000000 := by
  have := (chk_zero h).2.2.2.2.1
  have h2 := List.all_eq_true.1 this r (by show r ∈ l.zs ++ [r]; simp)
  unfold okN at h2
  simp only [Bool.and_eq_true, inB_iff] at h2
  omega
end Go.Proofs.Ytigohccehllmnaa
