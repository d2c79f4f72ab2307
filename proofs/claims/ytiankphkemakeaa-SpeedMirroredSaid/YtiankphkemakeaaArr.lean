/- Two arrays are compared; arrays and reaches in blocks: loads and stores of the whole. -/
import Derived.Test.YtiankphkemakeaaSeq
import Derived.ChangeKeysEq
namespace Go.Proofs.Ytiankphkemakeaa
set_option linter.unusedSimpArgs false
set_option linter.unusedVariables false
open Go.RowKit Go.Shelf

theorem run_part2 (w : World) (p : List Int) (i : Nat) (h : i < p.length) : (part 2 (pv p) i).run Try.prog w = .ok (.int .i64 (nth p i)) w := by
  have h2 := pv_at p i h
  have hi : i < (pv p).size := by rw [pv_size]; exact h
  simp [part, go_sem, Try.underlying2, h2]

theorem run_items2 (d : Nat) (p q : List Int) (hp : p.length = q.length) : ∀ (is : List Nat) (w : World), (∀ i ∈ is, i < p.length) → (Op.eqItems (d + 1) 2 1 (pv p) (pv q) is).run Try.prog w = .ok (is.all fun i => nth p i == nth q i) w
  | [], w, _ => by simp [Op.eqItems]
  | i :: is, w, h => by
    have h1 := run_part2 w p i (h i (by simp))
    have h2 := run_part2 w q i (by rw [← hp]; exact h i (by simp))
    have h3 := run_equalIn_int (P := Try.prog) w d 2 .i64 .i64 (nth p i) (nth q i) Try.underlying2
    have ih := run_items2 d p q hp is w (fun j hj => h j (by simp [hj]))
    simp only [Op.eqItems, Sem.run_bind, Nat.mul_one, h1, h2, h3, Result.andThen_ok, List.all_cons]
    cases hq : (nth p i == nth q i)
    · simp
    · simpa using ih

theorem all_eq (p q : List Int) (hp : p.length = 21) (hq : q.length = 21) : ((List.range 21).all fun i => nth p i == nth q i) = decide (p = q) := by
  rw [Bool.eq_iff_iff, List.all_eq_true, decide_eq_true_eq]
  constructor
  · intro h
    exact eq_of_nth (by omega) (fun j hj => by simpa using h j (by simp; omega))
  · rintro rfl i _
    simp
theorem run_eqlArr (d : Nat) (w : World) (p q : List Int) (hp : p.length = 21) (hq : q.length = 21) : (Op.equalIn (d + 1 + 1) 87 (.agg (pv p)) (.agg (pv q))).run Try.prog w = .ok (decide (p = q)) w := by
  obtain ⟨i, hi, _⟩ := info_parts Try.info2
  have hc : Try.prog.cellsOf 2 = 1 := by kernel_rfl
  rw [run_equalIn_array (P := Try.prog) w (d + 1) (pv p) (pv q) Try.underlying87 hi, hc, run_items2 d p q (by omega) (List.range 21) w (fun i hi => by simp at hi; omega), all_eq p q hp hq]

theorem run_eql87 (w : World) (p q : List Int) (hp : p.length = 21) (hq : q.length = 21) : (binOp .eql 87 (.agg (pv p)) (.agg (pv q))).run Try.prog w = .ok (.bool (decide (p = q))) w := by
  rw [run_eql_struct, run_eqlArr 9998 w p q hp hq]
  rfl

/-! ### Loads and stores of the whole, inside a fence, by their runs -/
theorem wpListIn_load {F : Fence} {n : Nat} {P : Program} {ops : Array Oper} {rest : List Oper} {o : Oper} {a : Act} {w : World} {Q : Exit → Act → World → Prop} (hw : Region.wanted o (yielded ops a.tmps) = true) (ty : TypeId) (x : Operand) (ho : o.op = .load ty x)
    (V v : Value) (hx : a.eval x = V) (hrun : (Instr.loadAt ty V).run P w = .ok v w)
    (h : wpListIn F n P ops Q rest (a.put o.dst v) w) : wpListIn F n P ops Q (o :: rest) a w := by
  refine BigFrame.wpListIn_want hw fun K' hK' => ?_
  unfold Oper.wpIn
  refine ⟨by simp [Oper.about, ho], ?_⟩
  rw [Oper.semAt_plain F _ _ (by rw [ho]; intro c hc'; cases hc')]
  simp [execOp, ho, hx, hrun, Result.andThen]
  exact hK' _ _ h
theorem wpListIn_store {F : Fence} {n : Nat} {P : Program} {ops : Array Oper} {rest : List Oper} {o : Oper} {a : Act} {w w' : World} {Q : Exit → Act → World → Prop} (hw : Region.wanted o (yielded ops a.tmps) = true) (ty : TypeId) (x y : Operand) (ho : o.op = .store ty x y)
    (V v : Value) (hx : a.eval x = V) (hy : a.eval y = v) (hrun : (Instr.storeAt ty V v).run P w = .ok () w')
    (h : wpListIn F n P ops Q rest (a.put o.dst undef) w') : wpListIn F n P ops Q (o :: rest) a w := by
  refine BigFrame.wpListIn_want hw fun K' hK' => ?_
  unfold Oper.wpIn
  refine ⟨by simp [Oper.about, ho], ?_⟩
  rw [Oper.semAt_plain F _ _ (by rw [ho]; intro c hc'; cases hc')]
  simp [execOp, ho, hx, hy, hrun, Result.andThen]
  exact hK' _ _ h

/-- The cells of a reach: the speeds, and the map. -/
def fv (p : List Int) (M : Nat) : Array Value := (p.map (Value.int .i64) ++ [Value.map (some M)]).toArray
theorem fv_size (p : List Int) (M : Nat) : (fv p M).size = p.length + 1 := by simp [fv]
theorem fv_at (p : List Int) (M : Nat) (i : Nat) (h : i < p.length) : (fv p M)[i]? = some (.int .i64 (nth p i)) := by
  simp [fv, nth_eq p i h, List.getElem?_append_left, h]
theorem fv_map (p : List Int) (M : Nat) (hp : p.length = 21) : (fv p M)[21]? = some (.map (some M)) := by
  simp [fv, List.getElem?_append_right, hp]
theorem fv_set (p : List Int) (M : Nat) (i : Nat) (h : i < p.length) (x : Int) : (fv p M).setIfInBounds i (.int .i64 x) = fv (p.set i x) M := by
  unfold fv
  simp only [List.setIfInBounds_toArray, List.map_set]
  rw [List.set_append_left _ _ (by simpa using h)]
theorem pv_set (p : List Int) (i : Nat) (x : Int) : (pv p).setIfInBounds i (.int .i64 x) = pv (p.set i x) := by
  unfold pv
  simp only [List.setIfInBounds_toArray, List.map_set]

theorem load87_pre {w : World} {G : Nat} {t : TypeId} {p : List Int} {M : Nat} (h : w.heap[G]? = some (.cells (fv p M) t (0, 0))) (hp : p.length = 21) :
    (Instr.loadAt 87 (.pointer (some ⟨G, 0, none⟩))).run Try.prog w = .ok (.agg (pv p)) w :=
  run_loadAt_mid w G 0 87 (p.map (Value.int .i64)) (.array 21 2) (fun j v hv => by
    have hj : j < p.length := by have := (List.getElem?_eq_some_iff.1 hv).1; simpa using this
    rw [Nat.zero_add, cell_of_row w G j _ _ _ h, fv_at p M j hj, ← hv]
    simp [nth_eq p j hj, hj]) Try.underlying87 rfl (by rw [List.length_map, hp]; kernel_rfl)
theorem load97 {w : World} {G : Nat} {t : TypeId} {p : List Int} {M : Nat} (h : w.heap[G]? = some (.cells (fv p M) t (0, 0))) (hp : p.length = 21) :
    (Instr.loadAt 97 (.pointer (some ⟨G, 0, none⟩))).run Try.prog w = .ok (.agg (fv p M)) w :=
  run_loadAt_mid w G 0 97 (p.map (Value.int .i64) ++ [Value.map (some M)]) _ (fun j v hv => by
    rw [Nat.zero_add, cell_of_row w G j _ _ _ h]; simpa [fv] using hv) Try.underlying97 rfl (by rw [List.length_append, List.length_map, hp]; kernel_rfl)

theorem setCells_alloc (W : World) (t : TypeId) : ∀ (vs : List Value) (o : Nat) (c : Array Value), (W.alloc (.cells c t)).setCells W.heap.size o vs = W.alloc (.cells (vs.zipIdx o |>.foldl (fun c (v, i) => c.setIfInBounds i v) c) t)
  | [], _, _ => rfl
  | v :: vs, o, c => by
    rw [World.setCells, World.setCell_alloc_new, setCells_alloc W t vs (o + 1)]
    simp [List.zipIdx_cons]
theorem foldl_set (vs : List Value) : ∀ (o : Nat) (pre post : List Value), pre.length = o → post.length = vs.length → (vs.zipIdx o).foldl (fun (c : Array Value) (x : Value × Nat) => c.setIfInBounds x.2 x.1) (pre ++ post).toArray = (pre ++ vs).toArray := by
  induction vs with
  | nil =>
    intro o pre post _ h
    have : post = [] := List.eq_nil_of_length_eq_zero (by simpa using h)
    simp [this]
  | cons v vs ih =>
    intro o pre post ho h
    obtain ⟨x, post, rfl⟩ : ∃ x post', post = x :: post' := by
      cases post with
      | nil => simp at h
      | cons x p => exact ⟨x, p, rfl⟩
    simp only [List.zipIdx_cons, List.foldl_cons, List.setIfInBounds_toArray]
    rw [List.set_append_right _ _ (by omega), ho, Nat.sub_self, List.set_cons_zero]
    have := ih (o + 1) (pre ++ [v]) post (by simp [ho]) (by simpa using h)
    simpa using this
/-- A whole stored into a block that was just made. -/
theorem setCells_new (W : World) (t : TypeId) (c : Array Value) (vs : List Value) (h : c.size = vs.length) : (W.alloc (.cells c t)).setCells W.heap.size 0 vs = W.alloc (.cells vs.toArray t) := by
  rw [setCells_alloc]
  have := foldl_set vs 0 [] c.toList rfl (by simpa using h)
  simp only [List.nil_append] at this
  rw [← this]

theorem store87_new {W : World} {B : Nat} {c : Array Value} {p : List Int} (hB : B = W.heap.size) (hc : c.size = 21) (hp : p.length = 21) :
    (Instr.storeAt 87 (.pointer (some ⟨B, 0, none⟩)) (.agg (pv p))).run Try.prog (W.alloc (.cells c 87)) = .ok () (W.alloc (.cells (pv p) 87)) := by
  subst hB
  have := run_storeAt_mid (P := Try.prog) (W.alloc (.cells c 87)) W.heap.size 0 87 (pv p) (fun j hj => by
    rw [pv_size, hp] at hj
    refine ⟨?_, World.frozen?_alloc_new _ _ _ _⟩
    rw [World.cell?_alloc_new, Nat.zero_add, Array.getElem?_eq_getElem (by omega)]; rfl) (by rw [pv_size, hp]; kernel_rfl) (all_oneCell_toArray (ints_oneCell _ _))
  rw [this, setCells_new _ _ _ _ (by rw [hc]; simp [pv, hp])]
theorem fv_one (p : List Int) (M : Nat) : ∀ v ∈ p.map (Value.int .i64) ++ [Value.map (some M)], v.oneCell' = true := by
  intro v hv
  rcases List.mem_append.1 hv with h | h
  · exact ints_oneCell _ _ v h
  · simp at h; subst h; rfl
theorem heap_setCells (b : Nat) (t : TypeId) : ∀ (vs : List Value) (o : Nat) (w : World) (c : Array Value), w.heap[b]? = some (.cells c t (0, 0)) → (w.setCells b o vs).heap[b]? = some (.cells ((vs.zipIdx o).foldl (fun (c : Array Value) (x : Value × Nat) => c.setIfInBounds x.2 x.1) c) t (0, 0))
  | [], _, _, _, h => h
  | v :: vs, o, w, c, h => by
    rw [World.setCells, heap_setCells b t vs (o + 1) _ _ (heap_setCell_same w b o c t v h)]
    simp [List.zipIdx_cons]
theorem heap_setCells_other (b : Nat) : ∀ (vs : List Value) (o : Nat) (w : World) (k : Nat), k ≠ b → (w.setCells b o vs).heap[k]? = w.heap[k]?
  | [], _, _, _, _ => rfl
  | v :: vs, o, w, k, h => by
    rw [World.setCells, heap_setCells_other b vs (o + 1) _ k h, heap_setCell_other _ _ _ _ h]
theorem setCells_rest (b : Nat) : ∀ (vs : List Value) (o : Nat) (w : World), (w.setCells b o vs).os = w.os ∧ (w.setCells b o vs).tape = w.tape ∧ (w.setCells b o vs).output = w.output ∧ (w.setCells b o vs).heap.size = w.heap.size
  | [], _, _ => ⟨rfl, rfl, rfl, rfl⟩
  | v :: vs, o, w => by
    obtain ⟨h1, h2, h3, h4⟩ := setCells_rest b vs (o + 1) (w.setCell ⟨b, o, none⟩ v)
    exact ⟨h1, h2, h3, by rw [World.setCells, h4]; simp [World.setCell]⟩
/-- A reach stored into a block of 22 cells: the block, and that nothing else has turned. -/
theorem store97 {w : World} {B : Nat} {c : Array Value} {p : List Int} {M : Nat} {t : TypeId} (h : w.heap[B]? = some (.cells c t (0, 0))) (hc : c.size = 22) (hp : p.length = 21) :
    ∃ w', (Instr.storeAt 97 (.pointer (some ⟨B, 0, none⟩)) (.agg (fv p M))).run Try.prog w = .ok () w' ∧ w'.heap[B]? = some (.cells (fv p M) t (0, 0)) ∧ w.grownBy w' (some B) := by
  have hlt := lt_of_block h
  refine ⟨_, run_storeAt_mid (P := Try.prog) w B 0 97 (fv p M) (fun j hj => ?_) (by rw [fv_size, hp]; kernel_rfl) (all_oneCell_toArray (fv_one p M)), ?_, ?_⟩
  · rw [fv_size, hp] at hj
    rw [Nat.zero_add, cell_of_row w B j _ _ _ h, frozen_of_row w B j _ _ h, Array.getElem?_eq_getElem (by omega)]
    exact ⟨rfl, rfl⟩
  · rw [heap_setCells B t _ 0 w c h]
    have := foldl_set (fv p M).toList 0 [] c.toList rfl (by simp [fv_size, hp, hc])
    simp only [List.nil_append] at this
    rw [show c = c.toList.toArray from rfl, this]
  · obtain ⟨h1, h2, h3, h4⟩ := setCells_rest B (fv p M).toList 0 w
    exact ⟨h1, h2, h3, Nat.le_of_eq h4.symm, fun k _ hk => heap_setCells_other B _ 0 w k (fun e => hk (by rw [e]))⟩

theorem store97_new {W : World} {B : Nat} {c cs : Array Value} (hB : B = W.heap.size) (hc : c.size = 22) (hs : cs.size = 22) (h1 : cs.all (·.oneCell') = true) :
    (Instr.storeAt 97 (.pointer (some ⟨B, 0, none⟩)) (.agg cs)).run Try.prog (W.alloc (.cells c 97)) = .ok () (W.alloc (.cells cs 97)) := by
  subst hB
  have := run_storeAt_mid (P := Try.prog) (W.alloc (.cells c 97)) W.heap.size 0 97 cs (fun j hj => by
    refine ⟨?_, World.frozen?_alloc_new _ _ _ _⟩
    rw [World.cell?_alloc_new, Nat.zero_add, Array.getElem?_eq_getElem (by omega)]; rfl) (by rw [hs]; kernel_rfl) h1
  rw [this, setCells_new _ _ _ _ (by rw [hc]; simp [hs])]
end Go.Proofs.Ytiankphkemakeaa
