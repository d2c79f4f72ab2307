/- Stage 3: apart: tones that are apart, in the order of their ends. -/
import Derived.Test.YtdfdlklglbefiaaOrd
import Derived.Test.YtdfdlklglbefiaaRnd
import Derived.Test.YtdfdlklglbefiaaRno
import Derived.Test.YtdfdlklglbefiaaMk
import Derived.Test.YtdfdlklglbefiaaMet
import Derived.Scope
import Derived.ControlIn
import Derived.Laws.CopyRow
import Derived.Laws.MakeOwn
namespace Go.Proofs.Ytdfdlklglbefiaa
set_option linter.unusedSimpArgs false
set_option linter.unusedVariables false
open Go.RowKit Go.Shelf

section
variable {F : Fence} {n : Nat} {P : Program} {b : Frame} {a : Act} {k : List Item} {cs : List Frame} {w : World} {Q : Exit → Act → World → Prop}
theorem stepR_scope_ {c : Code} : step P (lone (b.atR a (.code (.scope c) :: k)) cs w) = .next (lone (b.atR a (.code c :: .inScope c :: k)) cs w) :=
  step_lone_go (by simp [stepG, stepG.exec, Frame.atR])
theorem stepR_inScope_ {c : Code} : step P (lone (b.atR a (.inScope c :: k)) cs w) = .next (lone (b.atR a k) cs w) :=
  step_lone_go (by simp [stepG, stepG.exec, Frame.atR])
theorem wpIn_scope_ {c : Code} (h : c.wpIn F n P (Exit.noGoto Q) a w) : (Code.scope c).wpIn F n P Q a w := by
  intro b k cs hro hb hr
  have h0 : (lone (b.atR a (.code (.scope c) :: k)) cs w).fenced P F := fenced_calm hb hr rfl
  obtain ⟨e, a₁, w₁, hq, harr⟩ := h b (.inScope c :: k) cs hro hb hr
  cases e with
  | normal => exact ⟨.normal, a₁, w₁, hq, .head h0 stepR_scope_ (StepsIn.trans harr (.one (fenced_calm hb hr rfl) stepR_inScope_))⟩
  | exit id =>
    have hx : exitTo id (.inScope c :: k) = exitTo id k := by simp [exitTo]
    exact ⟨.exit id, a₁, w₁, hq, fun k' hk => .head h0 stepR_scope_ (harr.1 k' (by rw [hx]; exact hk)),
      fun hr' hk => let ⟨k₁, h1, h2⟩ := harr.2 hr' (by rw [hx]; exact hk); ⟨k₁, h1, .head h0 stepR_scope_ h2⟩⟩
  | goto l => exact hq.elim
  | ret => exact ⟨_, a₁, w₁, hq, .of_steps (.one h0 stepR_scope_) harr⟩
  | panic ch => exact ⟨_, a₁, w₁, hq, .of_steps (.one h0 stepR_scope_) harr⟩
  | outgrown => exact ⟨_, a₁, w₁, hq, .of_steps (.one h0 stepR_scope_) harr⟩
end

/-! The marks are cleared. -/
def runC (P : Program) (x : Value) (W : World) : Result Next :=
  (execOp (fun _ => x) { dst := none, op := Op.call { callee := .builtin .clear, args := #[.tmp 0], argTypes := #[104] }, type := 0, pos := "", after := #[], guard := none }).run P W
theorem exec_clear (ρ : Operand → Value) (d : Option Tmp) (i : Tmp) (pos : String) (af : Array Edge) (g : Option (Nat × Bool)) (W : World) :
    (execOp ρ { dst := d, op := Op.call { callee := Callee.builtin Builtin.clear, args := #[.tmp i], argTypes := #[104] }, type := 0, pos := pos, after := af, guard := g }).run Try.prog W = runC Try.prog (ρ (.tmp i)) W := by
  unfold runC execOp
  simp only [resolve, invoke, builtin, List.map_toArray, List.map_cons, List.map_nil]
theorem at_clear (r : Option Nat) (ρ : Operand → Value) (d : Option Tmp) (i : Tmp) (pos : String) (af : Array Edge) (g : Option (Nat × Bool)) (W : World) :
    (Oper.semAt r ρ { dst := d, op := Op.call { callee := Callee.builtin Builtin.clear, args := #[.tmp i], argTypes := #[104] }, type := 0, pos := pos, after := af, guard := g }).run Try.prog W = runC Try.prog (ρ (.tmp i)) W := by
  rw [at_plain _ _ _ (fun c => by simp)]; exact exec_clear ρ d i pos af g W
theorem run_clear {W : World} {B : Nat} {t : TypeId} {v : Value} {mt al : Nat → Bool} (h : W.heap[B]? = some (.cells (brdV v mt al) t (0, 0))) :
    runC Try.prog (.slice (some ⟨B, 1, none⟩) 24 24) W = .ok (.value (.tuple #[])) (W.setRow B (brdV v (fun _ => false) al)) := by
  obtain ⟨i, hi, hz, hs, hb⟩ := info_parts info4_
  have hst := run_storeCells_at Try.prog B 1 t ((List.range 24).map fun _ => Value.bool false) 0 (brdV v mt al) W h (by rw [brdV_size]; simp) (by simp [Value.oneCell'])
  have e : (Builtin.zeroCells #[Value.bool false] 24).toList = (List.range 24).map fun _ => Value.bool false := by kernel_rfl
  have e2 : ((brdV v mt al).toList.take (1 + 0) ++ ((List.range 24).map fun _ => Value.bool false) ++ (brdV v mt al).toList.drop (1 + 0 + ((List.range 24).map fun _ => Value.bool false).length)).toArray = brdV v (fun _ => false) al := by
    unfold brdV
    simp
  rw [e2] at hst
  obtain ⟨L, hL⟩ : ∃ L, ((List.range 24).map fun _ => Value.bool false) = L := ⟨_, rfl⟩
  rw [hL] at hst e
  clear e2 hL
  unfold runC
  simp [execOp, resolve, invoke, builtin, Builtin.clear_, run_underlying Try.underlying104, go_sem, e, hst]

theorem arrayLen105 : Try.prog.arrayLen 105 = 24 := by kernel_rfl
theorem elem105 : Try.prog.elem 105 = 78 := by kernel_rfl
theorem arrayLen74 : Try.prog.arrayLen 74 = 24 := by kernel_rfl
theorem elem74 : Try.prog.elem 74 = 4 := by kernel_rfl
theorem slice105 (B n : Nat) (hn : n ≤ 24) (W : World) : (Instr.sliceAt 105 (.pointer (some ⟨B, 0, none⟩)) none (some (.int .i64 0)) (some (.int .i64 (n : Int)))).run Try.prog W = .ok (.slice (some ⟨B, 0, none⟩) 0 n) W := by
  rw [run_sliceAt_array_hm W 105 ⟨B, 0, none⟩ (by rw [arrayLen105, elem105]; exact Try.underlying105) .i64 .i64 0 (n : Int) (by omega) (by omega) (by rw [arrayLen105]; omega)]
  rw [elem105]
  obtain ⟨i, hi, hz, hs, hb⟩ := info_parts info78_
  simp [sizeOf, typeInfo, hi, slicedAt, Addr.add_lit]
theorem slice74 (B : Nat) (W : World) : (Instr.sliceAt 74 (.pointer (some ⟨B, 1, none⟩)) none none none).run Try.prog W = .ok (.slice (some ⟨B, 1, none⟩) 24 24) W := by kernel_rfl
theorem append72 (R W0 k n : Nat) (t : Tn) (W : World) (hk : k < n) (h0 : W.cell? ⟨W0, 0, none⟩ = some (.int .i64 t.r.lo)) (h1 : W.cell? ⟨W0, 1, none⟩ = some (.int .i64 t.r.hi)) (h2 : W.cell? ⟨W0, 2, none⟩ = some (.int .i64 (t.nm : Int)))
    (hc : ∀ j, j < 3 → (W.cell? ⟨R, k * 3 + j, none⟩).isSome = true) (hf : ∀ j, j < 3 → W.frozen? ⟨R, k * 3 + j, none⟩ = false) :
    (Builtin.append_ #[72, 72] 72 #[.slice (some ⟨R, 0, none⟩) k n, .slice (some ⟨W0, 0, none⟩) 1 1]).run Try.prog W = .ok (.slice (some ⟨R, 0, none⟩) (k + 1) n) (putT W R k t) := by
  obtain ⟨i, hi, hz, hs, hb⟩ := info_parts info78_
  have h := run_append_room_cells (P := Try.prog) W 72 72 78 i Try.underlying72 hi R 0 k n ⟨W0, 0, none⟩ 1 1 [.int .i64 t.r.lo, .int .i64 t.r.hi, .int .i64 (t.nm : Int)] (by rw [hs]; rfl) (by
      intro j u hj
      match j with
      | 0 => simp at hj; subst hj; exact h0
      | 1 => simp at hj; subst hj; simpa [Addr.add_lit] using h1
      | 2 => simp at hj; subst hj; simpa [Addr.add_lit] using h2
      | j + 3 => simp at hj) (by simp [Value.oneCell']) (by omega) (by rw [hs]; simpa using hc) (by rw [hs]; simpa using hf)
  rw [h, hs]
  simp [World.setCells, putT]
theorem make72 (n : Nat) (hn : n ≤ 24) (W : World) : ∃ R : Array Value, R.size = n * 3 ∧ (Instr.makeSlice 72 (.int .i64 (n : Int)) (.int .i64 (n : Int))).run Try.prog W = .ok (.slice (some ⟨W.heap.size, 0, none⟩) n n) (W.alloc (.cells R 78)) := by
  obtain ⟨i, hi, hz, hs, hb⟩ := info_parts info78_
  have h := run_makeSlice (P := Try.prog) W 72 78 i _ Try.underlying72 hi hz .i64 .i64 (n : Int) (n : Int) (by omega) (by omega) (by rw [hs]; omega) (by rw [hb]; omega) (by omega)
  simp only [Int.toNat_natCast] at h
  refine ⟨_, ?_, h⟩
  rw [size_madeCells, hs]
theorem copy72 (G B n k : Nat) (cur : Array Value) (cs : List Value) (W : World) (hg : W.heap[G]? = some (.cells cur 78 (0, 0))) (hcs : cs.length = n * 3) (hcur : cur.size = n * 3)
    (hsrc : ∀ j v, cs[j]? = some v → W.cell? ⟨B, j, none⟩ = some v) (h1 : ∀ v ∈ cs, v.oneCell' = true) :
    (Builtin.copy_ #[72, 72] 3 #[.slice (some ⟨G, 0, none⟩) n n, .slice (some ⟨B, 0, none⟩) n k]).run Try.prog W = .ok (.int .i64 (n : Int)) (W.setRow G cs.toArray) := by
  obtain ⟨i, hi, hz, hs, hb⟩ := info_parts info78_
  have hl := run_loadCells_list (P := Try.prog) W ⟨B, 0, none⟩ cs (fun j v hj => by simpa [Addr.add_lit] using hsrc j v hj)
  have hst := run_storeCells_at Try.prog G 0 78 cs 0 cur W hg (by omega) h1
  have hm : Nat.min n n = n := Nat.min_self n
  simp [Builtin.copy_, run_underlying Try.underlying72, Builtin.lenOf, Builtin.firstCells, sizeOf, typeInfo, hi, hs, ← hcs, hl, hst, goInt]
  have hd : List.drop cs.length cur.toList = [] := List.drop_eq_nil_of_le (by simp; omega)
  rw [hd, List.append_nil]

/-- The points of tones. -/
def ptsE (e : Bool) (G : List Tn) : List Int := G.map (ofE e)
/-- The first tones in order that the points before them do not meet. -/
def grE (e : Bool) (G : List Tn) : List Tn → List Tn
  | [] => G
  | t :: ts => if meets (ptsE e G) t.r then grE e G ts else grE e (G ++ [t]) ts
theorem grE_append (e : Bool) (G pre post : List Tn) : grE e G (pre ++ post) = grE e (grE e G pre) post := by
  induction pre generalizing G with
  | nil => rfl
  | cons t ts ih =>
    simp only [List.cons_append, grE]
    split <;> exact ih _
theorem grE_all (e : Bool) (G ts : List Tn) (h : ∀ t ∈ ts, meets (ptsE e G) t.r = true) : grE e G ts = G := by
  induction ts with
  | nil => rfl
  | cons t ts ih =>
    simp only [grE]
    rw [if_pos (h t (by simp))]
    exact ih (fun t ht => h t (by simp [ht]))
theorem grE_len (e : Bool) (G ts : List Tn) : (grE e G ts).length ≤ G.length + ts.length := by
  induction ts generalizing G with
  | nil => simp [grE]
  | cons t ts ih =>
    simp only [grE]
    split
    · have := ih G; simp; omega
    · have := ih (G ++ [t]); simp at this ⊢; omega
theorem grE_one (e : Bool) (G pre : List Tn) (t : Tn) : grE e G (pre ++ [t]) = if meets (ptsE e (grE e G pre)) t.r then grE e G pre else grE e G pre ++ [t] := by
  rw [grE_append]; rfl
/-- The room holds the tones. -/
def RoomV (Rv : Array Value) (G : List Tn) : Prop := Rv.size = 72 ∧ ∀ j, j < G.length → Rv[j * 3]? = some (.int .i64 (tAt G j).r.lo) ∧ Rv[j * 3 + 1]? = some (.int .i64 (tAt G j).r.hi) ∧ Rv[j * 3 + 2]? = some (.int .i64 ((tAt G j).nm : Int))
theorem RoomV.append {Rv : Array Value} {G : List Tn} (h : RoomV Rv G) (hG : G.length < 24) (t : Tn) : RoomV (((Rv.setIfInBounds (G.length * 3) (.int .i64 t.r.lo)).setIfInBounds (G.length * 3 + 1) (.int .i64 t.r.hi)).setIfInBounds (G.length * 3 + 2) (.int .i64 (t.nm : Int))) (G ++ [t]) := by
  refine ⟨by simp [h.1], fun j hj => ?_⟩
  have hsz := h.1
  rw [List.length_append, List.length_singleton] at hj
  by_cases hjl : j < G.length
  · obtain ⟨h1, h2, h3⟩ := h.2 j hjl
    have e : tAt (G ++ [t]) j = tAt G j := by rw [tAt_eq (by simp; omega), tAt_eq hjl, List.getElem_append_left hjl]
    rw [e]
    refine ⟨?_, ?_, ?_⟩
    · rw [Array.getElem?_setIfInBounds_ne (by omega), Array.getElem?_setIfInBounds_ne (by omega), Array.getElem?_setIfInBounds_ne (by omega)]; exact h1
    · rw [Array.getElem?_setIfInBounds_ne (by omega), Array.getElem?_setIfInBounds_ne (by omega), Array.getElem?_setIfInBounds_ne (by omega)]; exact h2
    · rw [Array.getElem?_setIfInBounds_ne (by omega), Array.getElem?_setIfInBounds_ne (by omega), Array.getElem?_setIfInBounds_ne (by omega)]; exact h3
  · obtain rfl : j = G.length := by omega
    have e : tAt (G ++ [t]) G.length = t := by rw [tAt_eq (by simp)]; simp
    rw [e]
    refine ⟨?_, ?_, ?_⟩
    · rw [Array.getElem?_setIfInBounds_ne (by omega), Array.getElem?_setIfInBounds_ne (by omega), Array.getElem?_setIfInBounds_self_of_lt (by omega)]
    · rw [Array.getElem?_setIfInBounds_ne (by omega), Array.getElem?_setIfInBounds_self_of_lt (by simp; omega)]
    · rw [Array.getElem?_setIfInBounds_self_of_lt (by simp; omega)]
/-- What changes in the search. -/
def ApM (B R : Nat) : Nat → Prop := fun k => k = B ∨ k = R ∨ k = R + 1
/-- What the search keeps. -/
structure ApI (e : Bool) (B R n cap : Nat) (C : Option Addr) (zs : List Rg) (V : World) (pre : List Tn) (W : World) : Prop where
  bd : W.heap[B]? = some (.cells (brdV (.slice C n cap) (metS zs (ptsE e (grE e [] pre))) (fun i => decide (i < n))) 76 (0, 0))
  room : ∃ Rv, W.heap[R]? = some (.cells Rv 105 (0, 0)) ∧ RoomV Rv (grE e [] pre)
  grown : W.heap[R + 1]? = some (.cells #[.slice (some ⟨R, 0, none⟩) (grE e [] pre).length n] 72 (0, 0))
  keep : Keeps (ApM B R) V W
theorem ApI.to {e : Bool} {B R n cap : Nat} {C : Option Addr} {zs : List Rg} {V : World} {pre : List Tn} {W W' : World} {Mut : Nat → Prop} (h : ApI e B R n cap C zs V pre W) (hK : Keeps Mut W W') (hV : V.heap.size ≤ W.heap.size) (h1 : ∀ k, k < V.heap.size → ¬ Mut k) (hB : B < V.heap.size) (hR : R + 1 < V.heap.size) : ApI e B R n cap C zs V pre W' :=
  ⟨(hK.block _ (by omega) (h1 _ (by omega))).trans h.bd, h.room.imp (fun Rv hr => ⟨(hK.block _ (by omega) (h1 _ (by omega))).trans hr.1, hr.2⟩), (hK.block _ (by omega) (h1 _ (by omega))).trans h.grown,
    ⟨hK.os.trans h.keep.os, hK.tape.trans h.keep.tape, hK.output.trans h.keep.output, Nat.le_trans h.keep.size hK.size, fun k hk hm => (hK.block k (Nat.lt_of_lt_of_le hk h.keep.size) (h1 k hk)).trans (h.keep.block k hk hm)⟩⟩
theorem ApI.abides {e : Bool} {B R n cap : Nat} {C : Option Addr} {zs : List Rg} {V : World} {pre : List Tn} (hB : B < V.heap.size) (hR : R + 1 < V.heap.size) : Abides V.heap.size (ApI e B R n cap C zs V pre) := fun W W' h hK => h.to hK h.keep.size (fun k hk e => by omega) hB hR
theorem all_met {zs : List Rg} {st : List Int} (h : zs.all (meets st) = true) {ys : List Tn} (hy : ∀ t ∈ ys, t.r ∈ zs) : ∀ t ∈ ys, meets st t.r = true := fun t ht => List.all_eq_true.1 h _ (hy t ht)
theorem mem_tnOf {zs : List Rg} {t : Tn} (h : t ∈ tnOf zs) : t.nm < zs.length ∧ gAt zs t.nm = t.r := by
  unfold tnOf tnK at h
  obtain ⟨i, hi, rfl⟩ := List.mem_map.1 h
  exact ⟨by simpa using hi, rfl⟩
theorem mem_tnOf_r {zs : List Rg} {t : Tn} (h : t ∈ tnOf zs) : t.r ∈ zs := by
  obtain ⟨h1, h2⟩ := mem_tnOf h
  rw [← h2, gAt_eq h1]; exact List.getElem_mem _
theorem metS_at {zs : List Rg} {st : List Int} {t : Tn} (h : t ∈ tnOf zs) : metS zs st t.nm = meets st t.r := by
  obtain ⟨h1, h2⟩ := mem_tnOf h
  unfold metS
  rw [decide_eq_true h1, h2]; rfl
theorem ptsE_snoc (e : Bool) (G : List Tn) (t : Tn) : ptsE e (G ++ [t]) = ptsE e G ++ [ofE e t] := by simp [ptsE]

attribute [local go_sem] Oper.semAt_some
attribute [local go_sem ↓] exec_app
attribute [local go_sem ↓] exec_load74
attribute [local go_sem ↓] exec_cmp74
attribute [local go_sem ↓] exec_clear
attribute [local go_sem ↓] at_app
attribute [local go_sem ↓] at_load74
attribute [local go_sem ↓] at_cmp74
attribute [local go_sem ↓] at_clear

/-- What apart hands back: the tones, in the order in which they were found. -/
def ApPost (e : Bool) (B : Nat) (C : Option Addr) (n cap : Nat) (zs : List Rg) (w : World) (en : Ending) (w' : World) : Prop :=
  ∃ ys D, GoodO (plE e) (tnOf zs) n ys ∧ en = .returned (.slice (some ⟨D, 0, none⟩) (grE e [] ys).length (grE e [] ys).length) ∧ RowT w' D (grE e [] ys) ∧ w.heap.size ≤ D ∧ Bd w' B C n cap zs (metS zs (ptsE e (grE e [] ys))) ∧ Keeps (fun k => k = B) w w'
set_option maxRecDepth 100000 in
set_option maxHeartbeats 4000000 in
theorem apart48 (e : Bool) (B : Nat) (C : Option Addr) (n cap : Nat) (zs : List Rg) (mt : Nat → Bool) (w : World) (h : Bd w B C n cap zs mt) (hn1 : 1 ≤ n) (hn : n ≤ 24) :
    Calls Try.prog 48 #[.pointer (some ⟨B, 0, none⟩), .bool e] w (ApPost e B C n cap zs w) := by
  have hB := h.row
  have hlt := lt_of_block hB
  have hK2 : Keeps (fun _ => False) w ((w.alloc (.cells #[.pointer (some ⟨B, 0, none⟩)] 69)).alloc (.cells #[.bool e] 85)) := (keep_alloc _ _ _).trans (keep_alloc _ _ _)
  have hclr := run_clear (W := (w.alloc (.cells #[.pointer (some ⟨B, 0, none⟩)] 69)).alloc (.cells #[.bool e] 85)) ((hK2.block _ hlt (fun e => e)).trans hB)
  have hs74 := fun W => slice74 B W
  have e0 : ((w.alloc (.cells #[.pointer (some ⟨B, 0, none⟩)] 69)).alloc (.cells #[.bool e] 85)).heap[w.heap.size]? = some (.cells #[.pointer (some ⟨B, 0, none⟩)] 69 (0, 0)) := hal_old (heap_alloc_new_ _ _)
  have e1 : ((w.alloc (.cells #[.pointer (some ⟨B, 0, none⟩)] 69)).alloc (.cells #[.bool e] 85)).heap[w.heap.size + 1]? = some (.cells #[.bool e] 85 (0, 0)) := hal_new (by simp)
  have eB := (hK2.block _ hlt (fun e => e)).trans hB
  have hs2 : ((w.alloc (.cells #[.pointer (some ⟨B, 0, none⟩)] 69)).alloc (.cells #[.bool e] 85)).heap.size = w.heap.size + 2 := by simp
  refine (callsIn_wide (n := 5)).1 ?_
  refine callsIn_of_wp_marks Try.func48 rfl trivial ?_ rfl
  simp only [Try.ntmps48, List.size_toArray, List.length_cons, List.length_nil, Nat.reduceAdd, Nat.reduceSub, Array.replicate_succ, Array.replicate_zero, List.push_toArray, List.append_toArray, List.nil_append, List.cons_append]
  have hrow := keeps_setRow ((w.alloc (.cells #[.pointer (some ⟨B, 0, none⟩)] 69)).alloc (.cells #[.bool e] 85)) B (brdV (.slice C n cap) (fun _ => false) (fun i => decide (i < n)))
  have hsr := setRow_size ((w.alloc (.cells #[.pointer (some ⟨B, 0, none⟩)] 69)).alloc (.cells #[.bool e] 85)) B (brdV (.slice C n cap) (fun _ => false) (fun i => decide (i < n)))
  have fB := setRow_same (brdV (.slice C n cap) (fun _ => false) (fun i => decide (i < n))) eB
  have f0 := (hrow.block _ (lt_of_block e0) (by omega)).trans e0
  have f1 := (hrow.block _ (lt_of_block e1) (by omega)).trans e1
  obtain ⟨V2, hV2⟩ : ∃ V2, ((w.alloc (.cells #[.pointer (some ⟨B, 0, none⟩)] 69)).alloc (.cells #[.bool e] 85)).setRow B (brdV (.slice C n cap) (fun _ => false) (fun i => decide (i < n))) = V2 := ⟨_, rfl⟩
  rw [hV2] at hclr hrow hsr fB f0 f1
  have hV2s : V2.heap.size = w.heap.size + 2 := hsr.trans hs2
  have g0 : (V2.alloc (.cells Try.zeroCells105 105)).cell? ⟨w.heap.size, 0, none⟩ = some (.pointer (some ⟨B, 0, none⟩)) := by rw [cell_row (hal_old f0)]; rfl
  have gB : (V2.alloc (.cells Try.zeroCells105 105)).cell? ⟨B, 0, none⟩ = some (.slice C n cap) := by rw [cell_row (hal_old fB)]; exact brdV_0 _ _ _
  have HK2 := Lib.hid (show Keeps (fun k => k = B) w V2 from hK2.none.trans hrow)
  have FB := Lib.hid fB
  have F0 := Lib.hid f0
  have F1 := Lib.hid f1
  have HV2s := Lib.hid hV2s
  have hs105 := fun W => slice105 V2.heap.size n hn W
  have HV2 := Lib.hid hV2
  have Hbd := Lib.hid h
  clear hK2 hrow hsr fB f0 f1 e0 e1 eB hs2 hV2 hB h hV2s hlt
  gi_wp2_with fail
  refine wpIn_scope_ ?_
  gi_wp2_with fail
  clear hs105 hs74 hclr g0 gB
  have hk4 : Keeps (fun _ => False) V2 ((V2.alloc (.cells Try.zeroCells105 105)).alloc (.cells #[.slice (some ⟨V2.heap.size, 0, none⟩) 0 n] 72)) := (keep_alloc _ _ _).trans (keep_alloc _ _ _)
  have e2 : ((V2.alloc (.cells Try.zeroCells105 105)).alloc (.cells #[.slice (some ⟨V2.heap.size, 0, none⟩) 0 n] 72)).heap[V2.heap.size]? = some (.cells Try.zeroCells105 105 (0, 0)) := hal_old (heap_alloc_new_ _ _)
  have e3 : ((V2.alloc (.cells Try.zeroCells105 105)).alloc (.cells #[.slice (some ⟨V2.heap.size, 0, none⟩) 0 n] 72)).heap[V2.heap.size + 1]? = some (.cells #[.slice (some ⟨V2.heap.size, 0, none⟩) 0 n] 72 (0, 0)) := hal_new (by simp)
  have hs4 := eq_le (show ((V2.alloc (.cells Try.zeroCells105 105)).alloc (.cells #[.slice (some ⟨V2.heap.size, 0, none⟩) 0 n] 72)).heap.size = V2.heap.size + 2 by simp)
  obtain ⟨V4, hV4⟩ : ∃ V4, (V2.alloc (.cells Try.zeroCells105 105)).alloc (.cells #[.slice (some ⟨V2.heap.size, 0, none⟩) 0 n] 72) = V4 := ⟨_, rfl⟩
  rw [hV4] at hk4 e2 e3 hs4 ⊢
  obtain ⟨R, hR⟩ : ∃ R, V2.heap.size = R := ⟨_, rfl⟩
  have HRe := Lib.hid (show w.heap.size + 2 = R from HV2s.out.symm.trans hR)
  rw [hR] at e2 e3 hs4 ⊢
  have E2 := Lib.hid e2
  have E3 := Lib.hid e3
  have EB := Lib.hid ((hk4.block _ (lt_of_block FB.out) (fun e => e)).trans FB.out)
  have E0 := Lib.hid ((hk4.block _ (lt_of_block F0.out) (fun e => e)).trans F0.out)
  have E1 := Lib.hid ((hk4.block _ (lt_of_block F1.out) (fun e => e)).trans F1.out)
  have HK4 := Lib.hid hk4
  have HS4 := Lib.hid hs4
  clear hV4 hR hk4 e2 e3 hs4
  refine wpIn_label ?_
  have g0 : V4.cell? ⟨w.heap.size, 0, none⟩ = some (.pointer (some ⟨B, 0, none⟩)) := by rw [cell_row E0.out]; rfl
  gi_wp2_with fail
  refine ⟨trivial, (callsIn_wide.2 (order66A B (w.heap.size + 1) V4)).mono ?_⟩
  rintro en w5 ⟨rfl, rfl⟩
  clear g0
  gi_wp2_with fail
  have hk5 : Keeps (fun _ => False) V4 ((V4.alloc (.cells #[.pointer (some ⟨B, 0, none⟩)] 69)).alloc (.cells #[.func (.func 65) #[] #[.pointer (some ⟨w.heap.size + 1, 0, none⟩)]] 102)) := (keep_alloc _ _ _).trans (keep_alloc _ _ _)
  have e4 : ((V4.alloc (.cells #[.pointer (some ⟨B, 0, none⟩)] 69)).alloc (.cells #[.func (.func 65) #[] #[.pointer (some ⟨w.heap.size + 1, 0, none⟩)]] 102)).heap[V4.heap.size]? = some (.cells #[.pointer (some ⟨B, 0, none⟩)] 69 (0, 0)) := hal_old (heap_alloc_new_ _ _)
  have e5 : ((V4.alloc (.cells #[.pointer (some ⟨B, 0, none⟩)] 69)).alloc (.cells #[.func (.func 65) #[] #[.pointer (some ⟨w.heap.size + 1, 0, none⟩)]] 102)).heap[V4.heap.size + 1]? = some (.cells #[.func (.func 65) #[] #[.pointer (some ⟨w.heap.size + 1, 0, none⟩)]] 102 (0, 0)) := hal_new (by simp)
  have hs5 := eq_le (show ((V4.alloc (.cells #[.pointer (some ⟨B, 0, none⟩)] 69)).alloc (.cells #[.func (.func 65) #[] #[.pointer (some ⟨w.heap.size + 1, 0, none⟩)]] 102)).heap.size = V4.heap.size + 2 by simp)
  obtain ⟨V5, hV5⟩ : ∃ V5, (V4.alloc (.cells #[.pointer (some ⟨B, 0, none⟩)] 69)).alloc (.cells #[.func (.func 65) #[] #[.pointer (some ⟨w.heap.size + 1, 0, none⟩)]] 102) = V5 := ⟨_, rfl⟩
  rw [hV5] at hk5 e4 e5 hs5 ⊢
  have D2 := (hk5.block _ (lt_of_block E2.out) (fun e => e)).trans E2.out
  have D3 := (hk5.block _ (lt_of_block E3.out) (fun e => e)).trans E3.out
  have DB := (hk5.block _ (lt_of_block EB.out) (fun e => e)).trans EB.out
  have D0 := Lib.hid ((hk5.block _ (lt_of_block E0.out) (fun e => e)).trans E0.out)
  have D1 := Lib.hid ((hk5.block _ (lt_of_block E1.out) (fun e => e)).trans E1.out)
  have hKw : Keeps (fun k => k = B) w V5 := HK2.out.trans (HK4.out.none.trans hk5.none)
  have hT5 : Tns V5 C n (tnOf zs) := Hbd.out.tns.keep hKw (fun k o h1 h2 => Hbd.out.ne _ _ h2 h1)
  have hBw : B < w.heap.size := lt_of_block Hbd.out.row
  have hRw := HRe.out
  have hs4 := HS4.out
  have hlen := Hbd.out.len
  have c4 : V5.cell? ⟨V4.heap.size, 0, none⟩ = some (.pointer (some ⟨B, 0, none⟩)) := by rw [cell_row e4]; rfl
  have c5 : V5.cell? ⟨V4.heap.size + 1, 0, none⟩ = some (.func (.func 65) #[] #[.pointer (some ⟨w.heap.size + 1, 0, none⟩)]) := by rw [cell_row e5]; rfl
  have cB : V5.cell? ⟨B, 0, none⟩ = some (.slice C n cap) := by rw [cell_row DB]; exact brdV_0 _ _ _
  have c1 : V5.cell? ⟨w.heap.size + 1, 0, none⟩ = some (.bool e) := by rw [cell_row D1.out]; rfl
  have hcmp : ∀ W, Keeps (fun _ => False) V5 W → ∀ S, V5.heap.size ≤ S → CmpOK 78 #[.pointer (some ⟨V4.heap.size + 1, 0, none⟩)] (plE e) S W := by
    intro W hW S hS W' x y hW'
    have hk : Keeps (fun k => k = S) V5 W' := hW.none.trans hW'
    exact cmp78A x y e (w.heap.size + 1) (V4.heap.size + 1) W' (by rw [keep_cells hk (by omega) (by omega)]; exact c5) (by rw [keep_cells hk (by omega) (by omega)]; exact c1)
  have hseq := order_seq V4.heap.size (V4.heap.size + 1) B n cap C (.func (.func 65) #[] #[.pointer (some ⟨w.heap.size + 1, 0, none⟩)]) (plE e) (tnOf zs) V5 c4 cB hT5 hn1 (by omega) hcmp
  have HKw := Lib.hid hKw
  have Hn2 := Lib.hid hlen
  have Hk5 := Lib.hid hk5
  clear hV5 e4 e5 c4 c5 cB c1 hcmp hT5 hKw hlen hk5
  have hI0 : ApI e B R n cap C zs V5 [] V5 := ⟨by rw [show metS zs (ptsE e (grE e [] [])) = fun _ => false from metS_nil zs]; exact DB, ⟨_, D2, by kernel_rfl, fun j hj => by simp [grE] at hj⟩, D3, Keeps.refl _ _⟩
  refine wpIn_rangeG (gf := 75) (lb := #[.pointer (some ⟨V4.heap.size, 0, none⟩), .pointer (some ⟨V4.heap.size + 1, 0, none⟩)]) rfl (enters_of Try.func75 (by kernel_rfl) rfl) hseq (fun k h => h.elim) (fun _ => rfl) (ApM B R) (fun k hk => ⟨by unfold ApM at hk; omega, fun h => h⟩)
    (ApI e B R n cap C zs V5) (fun c pre W => c = .exit 0 ∧ ApI e B R n cap C zs V5 pre W ∧ zs.all (meets (ptsE e (grE e [] pre))) = true) (fun pre => ApI.abides (by omega) (by omega)) (fun c pre A A' hA hK => ⟨hA.1, ApI.abides (by omega) (by omega) A A' hA.2.1 hK, hA.2.2⟩) hI0 ?round ?done ?stop
  case round =>
    intro l ys hgood pre t post W hxs hl1 hl2 hr hI m
    have htm : t ∈ tnOf zs := hgood.1.mem_iff.1 (by rw [hxs]; simp)
    have hpl : pre.length < n := by have := hgood.2.2; rw [hxs] at this; simp at this; omega
    have Htm := Lib.hid htm
    have Hpl := Lib.hid hpl
    have Hby := Lib.hid (heap_alloc_new_ W (.cells #[.int .i64 t.r.lo, .int .i64 t.r.hi, .int .i64 (t.nm : Int)] 78))
    unfold encT tnV
    clear hxs hgood htm hr hI
    gi_wp2_with fail
    refine ⟨keep_alloc _ _ _, ?_⟩
    intro W2 hB2 hI2
    have FT := Lib.hid ((hB2.keeps.block _ (by simp) (by omega)).trans Hby.out)
    obtain ⟨T, hT⟩ : ∃ T, W.heap.size = T := ⟨_, rfl⟩
    have hT2 : W2.heap.size = W.heap.size + 1 := hB2.size.trans (by simp)
    rw [hT] at FT hT2 ⊢
    have hV5W : V5.heap.size ≤ T := by rw [← hT]; exact Nat.le_trans hl1 (Nat.le_of_lt hl2)
    have HI2 := Lib.hid hI2
    have FT2 := Lib.hid hT2
    have F0 := Lib.hid ((hI2.keep.block _ (lt_of_block D0.out) (by unfold ApM; omega)).trans D0.out)
    have F1 := Lib.hid ((hI2.keep.block _ (lt_of_block D1.out) (by unfold ApM; omega)).trans D1.out)
    have HTl := Lib.hid hV5W
    obtain ⟨G, hG⟩ : ∃ G, grE e [] pre = G := ⟨_, rfl⟩
    have HG := Lib.hid hG
    have HGl := Lib.hid (show G.length < n by have := grE_len e [] pre; rw [hG] at this; simp at this; have := Hpl.out; omega)
    have hbd := hI2.bd
    rw [hG] at hbd
    have HBd := Lib.hid hbd
    obtain ⟨MM, hMM⟩ : ∃ MM, metS zs (ptsE e G) = MM := ⟨_, rfl⟩
    rw [hMM] at hbd
    have HMM := Lib.hid hMM
    obtain ⟨sm, hsm⟩ : ∃ sm, sameB MM (fun i => decide (i < n)) = sm := ⟨_, rfl⟩
    have HSm := Lib.hid (show zs.all (meets (ptsE e G)) = sm by rw [← hsm, ← hMM, ← Hn2.out]; exact (sameB_met _ (by rw [Hn2.out]; exact hn)).symm)
    obtain ⟨mk, hmk⟩ : ∃ mk, meets (ptsE e G) t.r = mk := ⟨_, rfl⟩
    have HMk := Lib.hid hmk
    have hmk2 : MM t.nm = mk := by rw [← hMM, metS_at Htm.out, hmk]
    have hnm : t.nm < 24 := by have := (mem_tnOf Htm.out).1; rw [Hn2.out] at this; omega
    clear hT hT2 hB2 hI2 hG hMM hmk hl1 hl2
    -- all of the tones are met?
    obtain ⟨q1, q2⟩ := brd_loads (show W2.drew.heap[B]? = some (.cells (brdV (.slice C n cap) MM (fun i => decide (i < n))) 76 (0, 0)) from hbd)
    have q3 := runQ_eql MM (fun i => decide (i < n)) W2.drew
    rw [hsm] at q3
    have q4 : W2.cell? ⟨w.heap.size, 0, none⟩ = some (.pointer (some ⟨B, 0, none⟩)) := by rw [cell_row F0.out]; rfl
    clear hsm hbd
    gi_wp2_with fail
    refine region_R (z := 100) (S := fun W' => W' = W2.drew) (by kernel_rfl) ?_
    refine anyR_take (i := 0) (oi := { dst := some 26, op := Go.Op.load 69 (Go.Operand.tmp 2), type := 69, pos := "board.go:119", after := #[], guard := none }) (v := .pointer (some ⟨B, 0, none⟩)) rfl (by decide) (by kernel_rfl) (by kernel_rfl) (by kernel_rfl) (by kernel_rfl) (fun _ _ _ h => h) (Or.inl ⟨by rfl, by rintro W' rfl; go_simp⟩) rfl ?_
    try simp only [Act.put, List.setIfInBounds_toArray, List.set_cons_zero, List.set_cons_succ]
    refine anyR_take (i := 1) (oi := { dst := some 27, op := Go.Op.nilCheck (Go.Operand.tmp 26), type := 0, pos := "board.go:119", after := #[{ on := 0, ground := Go.Ground.data }], guard := none }) (v := .pointer (some ⟨B, 0, none⟩)) rfl (by decide) (by kernel_rfl) (by kernel_rfl) (by kernel_rfl) (by kernel_rfl) (fun _ _ _ h => h) (Or.inl ⟨by rfl, by rintro W' rfl; go_simp⟩) rfl ?_
    try simp only [Act.put, List.setIfInBounds_toArray, List.set_cons_zero, List.set_cons_succ]
    refine anyR_take (i := 2) (oi := { dst := some 28, op := Go.Op.fieldAddr 76 (Go.Operand.tmp 27) 1, type := 0, pos := "board.go:119", after := #[{ on := 1, ground := Go.Ground.data }], guard := none }) (v := .pointer (some ⟨B, 1, none⟩)) rfl (by decide) (by kernel_rfl) (by kernel_rfl) (by kernel_rfl) (by kernel_rfl) (fun _ _ _ h => h) (Or.inl ⟨by rfl, by rintro W' rfl; go_simp⟩) rfl ?_
    try simp only [Act.put, List.setIfInBounds_toArray, List.set_cons_zero, List.set_cons_succ]
    refine anyR_take (i := 3) (oi := { dst := some 29, op := Go.Op.load 74 (Go.Operand.tmp 28), type := 74, pos := "board.go:119", after := #[{ on := 2, ground := Go.Ground.data }], guard := none }) (v := .agg (arrV MM)) rfl (by decide) (by kernel_rfl) (by kernel_rfl) (by kernel_rfl) (by kernel_rfl) (fun _ _ _ h => h) (Or.inl ⟨by rfl, by rintro W' rfl; go_simp⟩) rfl ?_
    try simp only [Act.put, List.setIfInBounds_toArray, List.set_cons_zero, List.set_cons_succ]
    refine anyR_take (i := 4) (oi := { dst := some 30, op := Go.Op.load 69 (Go.Operand.tmp 2), type := 69, pos := "board.go:119", after := #[], guard := none }) (v := .pointer (some ⟨B, 0, none⟩)) rfl (by decide) (by kernel_rfl) (by kernel_rfl) (by kernel_rfl) (by kernel_rfl) (fun _ _ _ h => h) (Or.inl ⟨by rfl, by rintro W' rfl; go_simp⟩) rfl ?_
    try simp only [Act.put, List.setIfInBounds_toArray, List.set_cons_zero, List.set_cons_succ]
    refine anyR_take (i := 5) (oi := { dst := some 31, op := Go.Op.nilCheck (Go.Operand.tmp 30), type := 0, pos := "board.go:119", after := #[{ on := 4, ground := Go.Ground.data }], guard := none }) (v := .pointer (some ⟨B, 0, none⟩)) rfl (by decide) (by kernel_rfl) (by kernel_rfl) (by kernel_rfl) (by kernel_rfl) (fun _ _ _ h => h) (Or.inl ⟨by rfl, by rintro W' rfl; go_simp⟩) rfl ?_
    try simp only [Act.put, List.setIfInBounds_toArray, List.set_cons_zero, List.set_cons_succ]
    refine anyR_take (i := 6) (oi := { dst := some 32, op := Go.Op.fieldAddr 76 (Go.Operand.tmp 31) 2, type := 0, pos := "board.go:119", after := #[{ on := 5, ground := Go.Ground.data }], guard := none }) (v := .pointer (some ⟨B, 25, none⟩)) rfl (by decide) (by kernel_rfl) (by kernel_rfl) (by kernel_rfl) (by kernel_rfl) (fun _ _ _ h => h) (Or.inl ⟨by rfl, by rintro W' rfl; go_simp⟩) rfl ?_
    try simp only [Act.put, List.setIfInBounds_toArray, List.set_cons_zero, List.set_cons_succ]
    refine anyR_take (i := 7) (oi := { dst := some 33, op := Go.Op.load 74 (Go.Operand.tmp 32), type := 74, pos := "board.go:119", after := #[{ on := 6, ground := Go.Ground.data }], guard := none }) (v := .agg (arrV (fun i => decide (i < n)))) rfl (by decide) (by kernel_rfl) (by kernel_rfl) (by kernel_rfl) (by kernel_rfl) (fun _ _ _ h => h) (Or.inl ⟨by rfl, by rintro W' rfl; go_simp⟩) rfl ?_
    try simp only [Act.put, List.setIfInBounds_toArray, List.set_cons_zero, List.set_cons_succ]
    refine anyR_take (i := 8) (oi := { dst := some 34, op := Go.Op.binOp Go.BinOp.eql 74 (Go.Operand.tmp 29) (Go.Operand.tmp 33) 74, type := 4, pos := "board.go:119", after := #[{ on := 3, ground := Go.Ground.data }, { on := 7, ground := Go.Ground.data }], guard := none }) (v := .bool sm) rfl (by decide) (by kernel_rfl) (by kernel_rfl) (by kernel_rfl) (by kernel_rfl) (fun _ _ _ h => h) (Or.inl ⟨by rfl, by rintro W' rfl; go_simp⟩) rfl ?_
    try simp only [Act.put, List.setIfInBounds_toArray, List.set_cons_zero, List.set_cons_succ]
    refine anyR_take (i := 9) (oi := { dst := some 25, op := Go.Op.assign (Go.Operand.tmp 34), type := 4, pos := "board.go:119", after := #[{ on := 8, ground := Go.Ground.data }], guard := none }) (v := .bool sm) rfl (by decide) (by kernel_rfl) (by kernel_rfl) (by kernel_rfl) (by kernel_rfl) (fun _ _ _ h => h) (Or.inl ⟨by rfl, by rintro W' rfl; go_simp⟩) rfl ?_
    try simp only [Act.put, List.setIfInBounds_toArray, List.set_cons_zero, List.set_cons_succ]
    refine anyR_done (by kernel_rfl) ?_ _
    clear q1 q2 q3 q4
    have HI3 : Hid (ApI e B R n cap C zs V5 pre W2.drew) := HI2.out.to (Keeps.of_new (Mut := fun _ => False) (drew_b W2 1)) HI2.out.keep.size (fun k hk e => e) (by omega) (by omega)
    cases sm with
    | true =>
      gi_wp2_with fail
      refine ⟨Keeps.of_new (drew_b W2 1), rfl, ?_, ?_⟩
      · have hmt : meets (ptsE e (grE e [] pre)) t.r = true := by rw [HG.out]; exact all_met HSm.out (ys := [t]) (fun u hu => by rw [List.mem_singleton.1 hu]; exact mem_tnOf_r Htm.out) t (by simp)
        have h1 := HI3.out
        exact ⟨by rw [grE_one, if_pos hmt]; exact h1.bd, by rw [grE_one, if_pos hmt]; exact h1.room, by rw [grE_one, if_pos hmt]; exact h1.grown, h1.keep⟩
      · have hmt : meets (ptsE e (grE e [] pre)) t.r = true := by rw [HG.out]; exact all_met HSm.out (ys := [t]) (fun u hu => by rw [List.mem_singleton.1 hu]; exact mem_tnOf_r Htm.out) t (by simp)
        rw [grE_one, if_pos hmt, HG.out]; exact HSm.out
    | false =>
      have q4 : W2.drew.drew.cell? ⟨w.heap.size, 0, none⟩ = some (.pointer (some ⟨B, 0, none⟩)) := by rw [cell_row (show W2.drew.drew.heap[w.heap.size]? = _ from F0.out)]; rfl
      have q5 : W2.drew.drew.cell? ⟨T, 2, none⟩ = some (.int .i64 (t.nm : Int)) := by rw [cell_row (show W2.drew.drew.heap[T]? = _ from FT.out)]; rfl
      have q6 : W2.drew.drew.cell? ⟨B, 1 + t.nm, none⟩ = some (.bool mk) := by rw [cell_row (show W2.drew.drew.heap[B]? = some (.cells (brdV (.slice C n cap) MM (fun i => decide (i < n))) 76 (0, 0)) by rw [← HMM.out]; exact HBd.out), brdV_met _ _ _ _ hnm, hmk2]
      have hnz : (t.nm : Int).toNat = t.nm := by omega
      have n0 : (0 : Int) ≤ (t.nm : Int) := by omega
      have n1 : (t.nm : Int) < 24 := by omega
      clear hmk2
      gi_wp2_with fail
      refine region_R (z := 100) (S := fun W' => W' = W2.drew.drew) (by kernel_rfl) ?_
      refine anyR_take (i := 0) (oi := { dst := some 36, op := Go.Op.load 69 (Go.Operand.tmp 2), type := 69, pos := "board.go:121", after := #[], guard := none }) (v := .pointer (some ⟨B, 0, none⟩)) rfl (by decide) (by kernel_rfl) (by kernel_rfl) (by kernel_rfl) (by kernel_rfl) (fun _ _ _ h => h) (Or.inl ⟨by rfl, by rintro W' rfl; go_simp⟩) rfl ?_
      try simp only [Act.put, List.setIfInBounds_toArray, List.set_cons_zero, List.set_cons_succ]
      refine anyR_take (i := 1) (oi := { dst := some 37, op := Go.Op.fieldAddr 78 (Go.Operand.tmp 8) 1, type := 0, pos := "board.go:121", after := #[], guard := none }) (v := .pointer (some ⟨T, 2, none⟩)) rfl (by decide) (by kernel_rfl) (by kernel_rfl) (by kernel_rfl) (by kernel_rfl) (fun _ _ _ h => h) (Or.inl ⟨by rfl, by rintro W' rfl; go_simp⟩) rfl ?_
      try simp only [Act.put, List.setIfInBounds_toArray, List.set_cons_zero, List.set_cons_succ]
      refine anyR_take (i := 2) (oi := { dst := some 38, op := Go.Op.load 3 (Go.Operand.tmp 37), type := 3, pos := "board.go:121", after := #[{ on := 1, ground := Go.Ground.data }], guard := none }) (v := .int .i64 (t.nm : Int)) rfl (by decide) (by kernel_rfl) (by kernel_rfl) (by kernel_rfl) (by kernel_rfl) (fun _ _ _ h => h) (Or.inl ⟨by rfl, by rintro W' rfl; go_simp⟩) rfl ?_
      try simp only [Act.put, List.setIfInBounds_toArray, List.set_cons_zero, List.set_cons_succ]
      refine anyR_take (i := 3) (oi := { dst := some 39, op := Go.Op.nilCheck (Go.Operand.tmp 36), type := 0, pos := "board.go:121", after := #[{ on := 0, ground := Go.Ground.data }], guard := none }) (v := .pointer (some ⟨B, 0, none⟩)) rfl (by decide) (by kernel_rfl) (by kernel_rfl) (by kernel_rfl) (by kernel_rfl) (fun _ _ _ h => h) (Or.inl ⟨by rfl, by rintro W' rfl; go_simp⟩) rfl ?_
      try simp only [Act.put, List.setIfInBounds_toArray, List.set_cons_zero, List.set_cons_succ]
      refine anyR_take (i := 4) (oi := { dst := some 40, op := Go.Op.fieldAddr 76 (Go.Operand.tmp 39) 1, type := 0, pos := "board.go:121", after := #[{ on := 3, ground := Go.Ground.data }], guard := none }) (v := .pointer (some ⟨B, 1, none⟩)) rfl (by decide) (by kernel_rfl) (by kernel_rfl) (by kernel_rfl) (by kernel_rfl) (fun _ _ _ h => h) (Or.inl ⟨by rfl, by rintro W' rfl; go_simp⟩) rfl ?_
      try simp only [Act.put, List.setIfInBounds_toArray, List.set_cons_zero, List.set_cons_succ]
      refine anyR_take (i := 5) (oi := { dst := some 41, op := Go.Op.indexAddr 74 (Go.Operand.tmp 40) (Go.Operand.tmp 38), type := 0, pos := "board.go:121", after := #[{ on := 4, ground := Go.Ground.data }, { on := 2, ground := Go.Ground.data }], guard := none }) (v := .pointer (some ⟨B, 1 + t.nm, none⟩)) rfl (by decide) (by kernel_rfl) (by kernel_rfl) (by kernel_rfl) (by kernel_rfl) (fun _ _ _ h => h) (Or.inl ⟨by rfl, by rintro W' rfl; go_simp⟩) rfl ?_
      try simp only [Act.put, List.setIfInBounds_toArray, List.set_cons_zero, List.set_cons_succ]
      refine anyR_take (i := 6) (oi := { dst := some 42, op := Go.Op.load 4 (Go.Operand.tmp 41), type := 4, pos := "board.go:121", after := #[{ on := 5, ground := Go.Ground.data }], guard := none }) (v := .bool mk) rfl (by decide) (by kernel_rfl) (by kernel_rfl) (by kernel_rfl) (by kernel_rfl) (fun _ _ _ h => h) (Or.inl ⟨by rfl, by rintro W' rfl; go_simp⟩) rfl ?_
      try simp only [Act.put, List.setIfInBounds_toArray, List.set_cons_zero, List.set_cons_succ]
      refine anyR_take (i := 7) (oi := { dst := some 43, op := Go.Op.unOp Go.UnOp.not 4 (Go.Operand.tmp 42), type := 4, pos := "board.go:121", after := #[{ on := 6, ground := Go.Ground.data }], guard := none }) (v := .bool (!mk)) rfl (by decide) (by kernel_rfl) (by kernel_rfl) (by kernel_rfl) (by kernel_rfl) (fun _ _ _ h => h) (Or.inl ⟨by rfl, by rintro W' rfl; go_simp⟩) rfl ?_
      try simp only [Act.put, List.setIfInBounds_toArray, List.set_cons_zero, List.set_cons_succ]
      refine anyR_take (i := 8) (oi := { dst := some 35, op := Go.Op.assign (Go.Operand.tmp 43), type := 4, pos := "board.go:121", after := #[{ on := 7, ground := Go.Ground.data }], guard := none }) (v := .bool (!mk)) rfl (by decide) (by kernel_rfl) (by kernel_rfl) (by kernel_rfl) (by kernel_rfl) (fun _ _ _ h => h) (Or.inl ⟨by rfl, by rintro W' rfl; go_simp⟩) rfl ?_
      try simp only [Act.put, List.setIfInBounds_toArray, List.set_cons_zero, List.set_cons_succ]
      refine anyR_done (by kernel_rfl) ?_ _
      clear q4 q5 q6
      have HI4 : Hid (ApI e B R n cap C zs V5 pre W2.drew.drew) := HI3.out.to (Keeps.of_new (Mut := fun _ => False) (drew_b W2.drew 1)) HI3.out.keep.size (fun k hk e => e) (by omega) (by omega)
      cases mk with
      | true =>
        gi_wp2_with fail
        refine ⟨(Keeps.of_new (drew_b W2 1)).trans (Keeps.of_new (drew_b W2.drew 1)), ?_⟩
        have h1 := HI4.out
        have hmt : meets (ptsE e (grE e [] pre)) t.r = true := by rw [HG.out]; exact HMk.out
        exact ⟨by rw [grE_one, if_pos hmt]; exact h1.bd, by rw [grE_one, if_pos hmt]; exact h1.room, by rw [grE_one, if_pos hmt]; exact h1.grown, h1.keep⟩
      | false =>
        have HK24 := Lib.hid (show Keeps (fun _ => False) W2 W2.drew.drew from (Keeps.of_new (drew_b W2 1)).trans (Keeps.of_new (drew_b W2.drew 1)))
        have GT := Lib.hid (show W2.drew.drew.heap[T]? = some (.cells #[.int .i64 t.r.lo, .int .i64 t.r.hi, .int .i64 (t.nm : Int)] 78 (0, 0)) from FT.out)
        have G0 := Lib.hid (show W2.drew.drew.heap[w.heap.size]? = some (.cells #[.pointer (some ⟨B, 0, none⟩)] 69 (0, 0)) from F0.out)
        have G1 := Lib.hid (show W2.drew.drew.heap[w.heap.size + 1]? = some (.cells #[.bool e] 85 (0, 0)) from F1.out)
        have hT3 : T + 1 ≤ W2.drew.drew.heap.size ∧ W2.drew.drew.heap.size ≤ T + 1 := by have := FT2.out; exact ⟨Nat.le_of_eq this.symm, Nat.le_of_eq this⟩
        obtain ⟨X, hX⟩ : ∃ X, W2.drew.drew = X := ⟨_, rfl⟩
        rw [hX] at HI4 HK24 GT G0 G1 hT3 ⊢
        clear hX
        obtain ⟨Rv, hRv, hRm⟩ := HI4.out.room
        have hgr := HI4.out.grown
        rw [HG.out] at hRm hgr
        obtain ⟨k, hk⟩ : ∃ k, G.length = k := ⟨_, rfl⟩
        have hkn : k < n := by rw [← hk]; exact HGl.out
        rw [hk] at hgr
        have t0 : X.cell? ⟨T, 0, none⟩ = some (.int .i64 t.r.lo) := by rw [cell_row GT.out]; rfl
        have t1 : X.cell? ⟨T, 1, none⟩ = some (.int .i64 t.r.hi) := by rw [cell_row GT.out]; rfl
        have t2 : X.cell? ⟨T, 2, none⟩ = some (.int .i64 (t.nm : Int)) := by rw [cell_row GT.out]; rfl
        have g0 : X.cell? ⟨R + 1, 0, none⟩ = some (.slice (some ⟨R, 0, none⟩) k n) := by rw [cell_row hgr]; rfl
        have hz := heap_alloc_new_ X (.cells #[.int .i64 t.r.lo, .int .i64 t.r.hi, .int .i64 (t.nm : Int)] 78)
        have hkz := keep_alloc (fun _ => False) X (.cells #[.int .i64 t.r.lo, .int .i64 t.r.hi, .int .i64 (t.nm : Int)] 78)
        obtain ⟨Y, hY⟩ : ∃ Y, X.alloc (.cells #[.int .i64 t.r.lo, .int .i64 t.r.hi, .int .i64 (t.nm : Int)] 78) = Y := ⟨_, rfl⟩
        rw [hY] at hz hkz
        have hRvY := (hkz.block _ (lt_of_block hRv) (fun e => e)).trans hRv
        have hgrY := (hkz.block _ (lt_of_block hgr) (fun e => e)).trans hgr
        have hrsz := hRm.1
        have hrun := run_app (append72 R X.heap.size k n t Y hkn (by rw [cell_row hz]; rfl) (by rw [cell_row hz]; rfl) (by rw [cell_row hz]; rfl) (fun j hj => by rw [cell_row hRvY, Array.getElem?_eq_getElem (by omega)]; rfl) (fun j _ => frozen_row hRvY))
        have hkp := putT_keeps Y R k t
        have hRvZ : (putT Y R k t).heap[R]? = some (.cells (((Rv.setIfInBounds (k * 3) (.int .i64 t.r.lo)).setIfInBounds (k * 3 + 1) (.int .i64 t.r.hi)).setIfInBounds (k * 3 + 2) (.int .i64 (t.nm : Int))) 105 (0, 0)) := by
          unfold putT
          rw [set_same _ _ (set_same _ _ (set_same _ _ hRvY))]
        have hgrZ := (hkp.block _ (lt_of_block hgrY) (by omega)).trans hgrY
        obtain ⟨Z, hZ⟩ : ∃ Z, putT Y R k t = Z := ⟨_, rfl⟩
        rw [hZ] at hrun hkp hRvZ hgrZ
        have g1 : Z.cell? ⟨R + 1, 0, none⟩ = some (.slice (some ⟨R, 0, none⟩) k n) := by rw [cell_row hgrZ]; rfl
        have g2 : Z.frozen? ⟨R + 1, 0, none⟩ = false := frozen_row hgrZ
        have hks := keeps_setCell Z (R + 1) 0 (.slice (some ⟨R, 0, none⟩) (k + 1) n)
        have hgrU := set_same 0 (.slice (some ⟨R, 0, none⟩) (k + 1) n) hgrZ
        have hRvU := (hks.block _ (lt_of_block hRvZ) (by omega)).trans hRvZ
        have hKU : Keeps (fun j => j = R ∨ j = R + 1) X (Z.setCell ⟨R + 1, 0, none⟩ (.slice (some ⟨R, 0, none⟩) (k + 1) n)) := (hkz.none.trans (hkp.mono (fun _ _ e => .inl e))).trans (hks.mono (fun _ _ e => .inr e))
        have HKU := Lib.hid hKU
        have HRvU := Lib.hid hRvU
        have HgrU := Lib.hid hgrU
        have HRm := Lib.hid (show RoomV (((Rv.setIfInBounds (k * 3) (.int .i64 t.r.lo)).setIfInBounds (k * 3 + 1) (.int .i64 t.r.hi)).setIfInBounds (k * 3 + 2) (.int .i64 (t.nm : Int))) (G ++ [t]) by rw [← hk]; exact hRm.append (by rw [hk]; omega) t)
        have Hk := Lib.hid hk
        clear hk hz hkz hRvY hgrY hkp hRvZ hgrZ hks hgrU hRvU hKU hRm hRv hgr hZ hrsz
        rw [← hY] at hrun
        clear hY
        gi_wp2_with fail
        clear hrun g0 g1 g2 t0 t1 t2
        obtain ⟨U, hU⟩ : ∃ U, Z.setCell ⟨R + 1, 0, none⟩ (.slice (some ⟨R, 0, none⟩) (k + 1) n) = U := ⟨_, rfl⟩
        rw [hU] at HKU HRvU HgrU ⊢
        clear hU
        have HSU := Lib.hid (show ∀ W', Keeps (ApM B R) U W' → (W'.cell? ⟨w.heap.size, 0, none⟩ = some (.pointer (some ⟨B, 0, none⟩)) ∧ W'.cell? ⟨w.heap.size + 1, 0, none⟩ = some (.bool e) ∧ W'.cell? ⟨T, 0, none⟩ = some (.int .i64 t.r.lo) ∧ W'.cell? ⟨T, 1, none⟩ = some (.int .i64 t.r.hi) ∧ W'.cell? ⟨T, 2, none⟩ = some (.int .i64 (t.nm : Int))) from fun W' hW => by
          have h0 := (HKU.out.block _ (lt_of_block G0.out) (by omega)).trans G0.out
          have h1 := (HKU.out.block _ (lt_of_block G1.out) (by omega)).trans G1.out
          have h2 := (HKU.out.block _ (lt_of_block GT.out) (by omega)).trans GT.out
          have j0 := (hW.block _ (lt_of_block h0) (by unfold ApM; omega)).trans h0
          have j1 := (hW.block _ (lt_of_block h1) (by unfold ApM; omega)).trans h1
          have j2 := (hW.block _ (lt_of_block h2) (by unfold ApM; omega)).trans h2
          exact ⟨by rw [cell_row j0]; rfl, by rw [cell_row j1]; rfl, by rw [cell_row j2]; rfl, by rw [cell_row j2]; rfl, by rw [cell_row j2]; rfl⟩)
        have hS0 := HSU.out U.drew (Keeps.of_new (drew_b U 1))
        refine region_R (z := 100) (S := fun W' => W'.cell? ⟨w.heap.size, 0, none⟩ = some (.pointer (some ⟨B, 0, none⟩)) ∧ W'.cell? ⟨w.heap.size + 1, 0, none⟩ = some (.bool e) ∧ W'.cell? ⟨T, 0, none⟩ = some (.int .i64 t.r.lo) ∧ W'.cell? ⟨T, 1, none⟩ = some (.int .i64 t.r.hi) ∧ W'.cell? ⟨T, 2, none⟩ = some (.int .i64 (t.nm : Int))) (by kernel_rfl) ?_
        refine anyR_take (i := 0) (oi := { dst := some 48, op := Go.Op.load 69 (Go.Operand.tmp 2), type := 69, pos := "board.go:123", after := #[], guard := none }) (v := .pointer (some ⟨B, 0, none⟩)) rfl (by decide) (by kernel_rfl) (by kernel_rfl) (by kernel_rfl) (by kernel_rfl) (fun _ _ _ h => h) (Or.inl ⟨by rfl, by intro W' hSw; (try dsimp only at hSw); go_simp⟩) hS0 ?_
        try simp only [Act.put, List.setIfInBounds_toArray, List.set_cons_zero, List.set_cons_succ]
        refine anyR_take (i := 1) (oi := { dst := some 49, op := Go.Op.load 85 (Go.Operand.tmp 3), type := 85, pos := "board.go:123", after := #[], guard := none }) (v := .bool e) rfl (by decide) (by kernel_rfl) (by kernel_rfl) (by kernel_rfl) (by kernel_rfl) (fun _ _ _ h => h) (Or.inl ⟨by rfl, by intro W' hSw; (try dsimp only at hSw); go_simp⟩) hS0 ?_
        try simp only [Act.put, List.setIfInBounds_toArray, List.set_cons_zero, List.set_cons_succ]
        refine anyR_take (i := 2) (oi := { dst := some 50, op := Go.Op.load 78 (Go.Operand.tmp 8), type := 78, pos := "board.go:123", after := #[], guard := none }) (v := .agg #[.int .i64 t.r.lo, .int .i64 t.r.hi, .int .i64 (t.nm : Int)]) rfl (by decide) (by kernel_rfl) (by kernel_rfl) (by kernel_rfl) (by kernel_rfl) (fun _ _ _ h => h) (Or.inl ⟨by rfl, by intro W' hSw; (try dsimp only at hSw); go_simp⟩) hS0 ?_
        try simp only [Act.put, List.setIfInBounds_toArray, List.set_cons_zero, List.set_cons_succ]
        refine anyR_one (i := 3) (by kernel_rfl) rfl (by rfl) ?_
        intro K hK
        have HKK := Lib.hid hK
        clear hK hS0
        go_simp
        refine ⟨trivial, wide_d, CallsIn.inRound l ((callsIn_wide.2 (of63 e t U.drew)).mono ?_)⟩
        rintro en W10 ⟨rfl, hb10⟩
        have hK10 : Keeps (fun _ => False) U W10 := (Keeps.of_new (drew_b U 1)).trans (Keeps.of_new hb10)
        have HK10 := Lib.hid hK10
        refine HKK.out _ _ (fun _ _ => HSU.out W10 hK10.none) ?_
        clear HKK K hb10 hK10
        try simp only [Act.put, List.setIfInBounds_toArray, List.set_cons_zero, List.set_cons_succ]
        refine anyR_one (i := 4) (by kernel_rfl) rfl (by rfl) ?_
        intro K hK
        have HKK := Lib.hid hK
        clear hK
        have hX2 : Keeps (fun j => j = R ∨ j = R + 1) W2 W10 := (HK24.out.none.trans HKU.out).trans HK10.out.none
        have hbd10 : Bd W10 B C n cap zs (metS zs (ptsE e G)) := by
          have hkk : Keeps (ApM B R) w W10 := ((HKw.out.mono (fun _ _ h => .inl h)).trans HI2.out.keep).trans (hX2.mono (fun _ _ h => by unfold ApM; omega))
          exact ⟨(hX2.block _ (lt_of_block HBd.out) (by omega)).trans HBd.out, Hbd.out.tns.keep hkk (fun q o h1 h2 => by
            unfold ApM at h1
            have h3 := Hbd.out.ne _ _ h2
            have h4 := (h2 ▸ Hbd.out.tns).lt (by omega)
            omega), Hbd.out.cap, Hbd.out.ne⟩
        go_simp
        refine ⟨trivial, wide_d, CallsIn.inRound l ((callsIn_wide.2 (meet62 B C n cap zs (metS zs (ptsE e G)) (ofE e t) W10 hbd10 hn)).mono ?_)⟩
        rintro en W11 ⟨rfl, hbd11, hk11⟩
        have hK11 : Keeps (ApM B R) U W11 := HK10.out.none.trans (hk11.mono (fun _ _ h => .inl h))
        refine HKK.out _ _ (fun _ _ => HSU.out W11 hK11) ?_
        clear HKK K
        refine anyR_done (by kernel_rfl) ?_ _
        have HKf : Hid (Keeps (ApM B R) W2 W11) := (hX2.mono (fun _ _ h => by unfold ApM; omega)).trans (hk11.mono (fun _ _ h => .inl h))
        have hgo : grE e [] (pre ++ [t]) = G ++ [t] := by rw [grE_one, HG.out, if_neg (by rw [HMk.out]; simp)]
        have HF : Hid (ApI e B R n cap C zs V5 (pre ++ [t]) W11) := by
          have hkUf : Keeps (fun j => j = B) U W11 := HK10.out.none.trans hk11
          refine ⟨?_, ⟨_, (hkUf.block _ (lt_of_block HRvU.out) (by omega)).trans HRvU.out, by rw [hgo]; exact HRm.out⟩, ?_, HI2.out.keep.trans HKf.out⟩
          · have h1 := hbd11.row
            rw [hgo, ptsE_snoc, ← metS_snoc, Hn2.out]
            exact h1
          · have h1 := (hkUf.block _ (lt_of_block HgrU.out) (by omega)).trans HgrU.out
            rw [h1, hgo, List.length_append, Hk.out]
            rfl
        clear hbd11 hk11 hK11 hX2 hbd10 hgo
        gi_wp2_with fail
        exact ⟨HKf.out, HF.out⟩
  case done =>
    intro D2 ys W9 hgood hD2 hDW hI9 hKd
    have hgr : ∃ L, L = ys ∧ GoodO (plE e) (tnOf zs) n ys ∧ grE e [] ys = grE e [] L ∧ L.length ≤ n := ⟨ys, rfl, hgood, rfl, by rw [hgood.2.2]; exact Nat.le_refl _⟩
    obtain ⟨L, hL, hgd, hGL, hLn⟩ := hgr
    rw [← hL] at hI9
    obtain ⟨G, hG⟩ : ∃ G, grE e [] L = G := ⟨_, rfl⟩
    have hbd9 := hI9.bd
    obtain ⟨Rv, hRv, hRm⟩ := hI9.room
    have hgr9 := hI9.grown
    rw [hG] at hRm hgr9 hbd9
    obtain ⟨k, hk⟩ : ∃ k, G.length = k := ⟨_, rfl⟩
    have hkn : k ≤ n := by have := grE_len e [] L; rw [hG] at this; simp at this; omega
    rw [hk] at hgr9
    obtain ⟨R2, hR2, hmk⟩ := make72 k (by omega) W9
    have g1 : W9.cell? ⟨R + 1, 0, none⟩ = some (.slice (some ⟨R, 0, none⟩) k n) := by rw [cell_row hgr9]; rfl
    have hb9 : Keeps (fun _ => False) W9 (W9.alloc (.cells R2 78)) := keep_alloc _ _ _
    have hn9 := heap_alloc_new_ W9 (.cells R2 78)
    obtain ⟨V, hV⟩ : ∃ V, W9.alloc (.cells R2 78) = V := ⟨_, rfl⟩
    rw [hV] at hmk hb9 hn9
    clear hV
    have hgV := (hb9.block _ (lt_of_block hgr9) (fun e => e)).trans hgr9
    have hRV := (hb9.block _ (lt_of_block hRv) (fun e => e)).trans hRv
    have g2 : V.cell? ⟨R + 1, 0, none⟩ = some (.slice (some ⟨R, 0, none⟩) k n) := by rw [cell_row hgV]; rfl
    have hfl := flatT_len G
    have hcp := copy72 W9.heap.size R k n R2 (flatT G) V hn9 (by rw [hfl, hk]) hR2 (fun j v hj => by
      have hj2 : j < k * 3 := by have := (List.getElem?_eq_some_iff.1 hj).1; omega
      have hd := hRm.2 (j / 3) (by omega)
      have hf := flatT_at G (j / 3) (by omega)
      rw [cell_row hRV]
      rcases (by omega : j = j / 3 * 3 ∨ j = j / 3 * 3 + 1 ∨ j = j / 3 * 3 + 2) with e' | e' | e'
      · rw [e', hf.1] at hj; rw [e', ← hj]; exact hd.1
      · rw [e', hf.2.1] at hj; rw [e', ← hj]; exact hd.2.1
      · rw [e', hf.2.2] at hj; rw [e', ← hj]; exact hd.2.2) (by
      intro u hu
      unfold flatT at hu
      obtain ⟨p, _, hp⟩ := List.mem_flatMap.1 hu
      simp only [cellT, List.mem_cons, List.mem_nil_iff, or_false] at hp
      rcases hp with rfl | rfl | rfl <;> rfl)
    have HGd := Lib.hid hgd
    have HGL := Lib.hid (hGL.trans hG)
    have HI9 := Lib.hid hI9
    have HBd9 := Lib.hid hbd9
    have HB9 := Lib.hid hb9
    have HN9 := Lib.hid hn9
    have HKd := Lib.hid hKd
    have Hk := Lib.hid hk
    obtain ⟨cs, hcs⟩ : ∃ cs, flatT G = cs := ⟨_, rfl⟩
    rw [hcs] at hcp
    have Hcs := Lib.hid hcs
    have HD2 := Lib.hid hD2
    have HDW := Lib.hid hDW
    clear hgd hGL hI9 hb9 hn9 hKd hk hbd9 hRv hRm hgr9 hgV hRV hfl hcs hR2 hLn hG
    gi_wp2_with fail
    have hrow := keeps_setRow V W9.heap.size cs.toArray
    have hCr := setRow_same cs.toArray HN9.out
    obtain ⟨V9, hV9⟩ : ∃ V9, V.setRow W9.heap.size cs.toArray = V9 := ⟨_, rfl⟩
    rw [hV9] at hrow hCr ⊢
    have hKd2 : V9.heap[D2]? = some (.deferred (some [])) := (hrow.block _ (Nat.lt_of_lt_of_le HDW.out HB9.out.size) (by have := HDW.out; omega)).trans ((HB9.out.block _ HDW.out (fun e => e)).trans HKd.out)
    refine ⟨by simp, .inl ⟨_, _, rfl, run_takeDeferred hKd2, ?_⟩⟩
    have hput : Keeps (fun j => j = D2) V9 (V9.putObj D2 (.deferred none)) := Keeps.putObj _ _ _ rfl
    have hw9 : w.heap.size + 2 ≤ W9.heap.size := by have := HI9.out.keep.size; omega
    have hV5w : w.heap.size ≤ V5.heap.size := by omega
    have hD5 := HD2.out
    have hBne : B ≠ D2 := by omega
    have hkB : Keeps (fun j => j = D2 ∨ j = W9.heap.size) W9 (V9.putObj D2 (.deferred none)) := (HB9.out.none.trans (hrow.mono (fun _ _ h => .inr h))).trans (hput.mono (fun _ _ h => .inl h))
    have hkAll : Keeps (fun k => k = B) w (V9.putObj D2 (.deferred none)) := by
      have h1 : Keeps (fun k => k = B ∨ w.heap.size ≤ k) w (V9.putObj D2 (.deferred none)) := ((HKw.out.mono (fun _ _ h => .inl h)).trans (HI9.out.keep.mono (fun j _ h => by unfold ApM at h; omega))).trans (hkB.mono (fun j _ h => .inr (by omega)))
      exact h1.mono (fun j hj h => by omega)
    have hrowf : (V9.putObj D2 (.deferred none)).heap[W9.heap.size]? = some (.cells cs.toArray 78 (0, 0)) := (hput.block _ (lt_of_block hCr) (by have := HDW.out; omega)).trans hCr
    refine ⟨_, results_tmp rfl _ _ _, ?_⟩
    refine ⟨ys, W9.heap.size, HGd.out, ?_, ⟨[], ?_⟩, by omega, ?_, hkAll⟩
    · rw [HGL.out, Hk.out]; rfl
    · rw [hrowf, ← Hcs.out, HGL.out, List.append_nil]
    · rw [HGL.out]
      exact ⟨(hkB.block _ (lt_of_block HBd9.out) (by have := lt_of_block HBd9.out; omega)).trans HBd9.out, Hbd.out.tns.keep hkAll (fun q o h1 h2 => Hbd.out.ne _ _ h2 h1), Hbd.out.cap, Hbd.out.ne⟩
  case stop =>
    intro D2 c pre x post W9 hD2 hDW hgood hI9 hKd
    obtain ⟨rfl, hI9, hall⟩ := hI9
    obtain ⟨ys, hys⟩ : ∃ ys, pre ++ x :: post = ys := ⟨_, rfl⟩
    obtain ⟨L, hL⟩ : ∃ L, pre ++ [x] = L := ⟨_, rfl⟩
    rw [hL] at hI9 hall
    have hgd : GoodO (plE e) (tnOf zs) n ys := by rw [← hys]; exact hgood
    have hyL : ys = L ++ post := by rw [← hys, ← hL]; simp
    have hGL : grE e [] ys = grE e [] L := by
      rw [hyL, grE_append]
      exact grE_all _ _ _ (fun u hu => all_met hall (ys := ys) (fun v hv => mem_tnOf_r (hgd.1.mem_iff.1 hv)) u (by rw [hyL]; simp [hu]))
    have hLn : L.length ≤ n := by have := hgd.2.2; rw [hyL, List.length_append] at this; omega
    clear hgood hys hL hyL hall
    obtain ⟨G, hG⟩ : ∃ G, grE e [] L = G := ⟨_, rfl⟩
    have hbd9 := hI9.bd
    obtain ⟨Rv, hRv, hRm⟩ := hI9.room
    have hgr9 := hI9.grown
    rw [hG] at hRm hgr9 hbd9
    obtain ⟨k, hk⟩ : ∃ k, G.length = k := ⟨_, rfl⟩
    have hkn : k ≤ n := by have := grE_len e [] L; rw [hG] at this; simp at this; omega
    rw [hk] at hgr9
    obtain ⟨R2, hR2, hmk⟩ := make72 k (by omega) W9
    have g1 : W9.cell? ⟨R + 1, 0, none⟩ = some (.slice (some ⟨R, 0, none⟩) k n) := by rw [cell_row hgr9]; rfl
    have hb9 : Keeps (fun _ => False) W9 (W9.alloc (.cells R2 78)) := keep_alloc _ _ _
    have hn9 := heap_alloc_new_ W9 (.cells R2 78)
    obtain ⟨V, hV⟩ : ∃ V, W9.alloc (.cells R2 78) = V := ⟨_, rfl⟩
    rw [hV] at hmk hb9 hn9
    clear hV
    have hgV := (hb9.block _ (lt_of_block hgr9) (fun e => e)).trans hgr9
    have hRV := (hb9.block _ (lt_of_block hRv) (fun e => e)).trans hRv
    have g2 : V.cell? ⟨R + 1, 0, none⟩ = some (.slice (some ⟨R, 0, none⟩) k n) := by rw [cell_row hgV]; rfl
    have hfl := flatT_len G
    have hcp := copy72 W9.heap.size R k n R2 (flatT G) V hn9 (by rw [hfl, hk]) hR2 (fun j v hj => by
      have hj2 : j < k * 3 := by have := (List.getElem?_eq_some_iff.1 hj).1; omega
      have hd := hRm.2 (j / 3) (by omega)
      have hf := flatT_at G (j / 3) (by omega)
      rw [cell_row hRV]
      rcases (by omega : j = j / 3 * 3 ∨ j = j / 3 * 3 + 1 ∨ j = j / 3 * 3 + 2) with e' | e' | e'
      · rw [e', hf.1] at hj; rw [e', ← hj]; exact hd.1
      · rw [e', hf.2.1] at hj; rw [e', ← hj]; exact hd.2.1
      · rw [e', hf.2.2] at hj; rw [e', ← hj]; exact hd.2.2) (by
      intro u hu
      unfold flatT at hu
      obtain ⟨p, _, hp⟩ := List.mem_flatMap.1 hu
      simp only [cellT, List.mem_cons, List.mem_nil_iff, or_false] at hp
      rcases hp with rfl | rfl | rfl <;> rfl)
    have HGd := Lib.hid hgd
    have HGL := Lib.hid (hGL.trans hG)
    have HI9 := Lib.hid hI9
    have HBd9 := Lib.hid hbd9
    have HB9 := Lib.hid hb9
    have HN9 := Lib.hid hn9
    have HKd := Lib.hid hKd
    have Hk := Lib.hid hk
    obtain ⟨cs, hcs⟩ : ∃ cs, flatT G = cs := ⟨_, rfl⟩
    rw [hcs] at hcp
    have Hcs := Lib.hid hcs
    have HD2 := Lib.hid hD2
    have HDW := Lib.hid hDW
    clear hgd hGL hI9 hb9 hn9 hKd hk hbd9 hRv hRm hgr9 hgV hRV hfl hcs hR2 hLn hG
    gi_wp2_with fail
    have hrow := keeps_setRow V W9.heap.size cs.toArray
    have hCr := setRow_same cs.toArray HN9.out
    obtain ⟨V9, hV9⟩ : ∃ V9, V.setRow W9.heap.size cs.toArray = V9 := ⟨_, rfl⟩
    rw [hV9] at hrow hCr ⊢
    have hKd2 : V9.heap[D2]? = some (.deferred (some [])) := (hrow.block _ (Nat.lt_of_lt_of_le HDW.out HB9.out.size) (by have := HDW.out; omega)).trans ((HB9.out.block _ HDW.out (fun e => e)).trans HKd.out)
    refine ⟨by simp, .inl ⟨_, _, rfl, run_takeDeferred hKd2, ?_⟩⟩
    have hput : Keeps (fun j => j = D2) V9 (V9.putObj D2 (.deferred none)) := Keeps.putObj _ _ _ rfl
    have hw9 : w.heap.size + 2 ≤ W9.heap.size := by have := HI9.out.keep.size; omega
    have hV5w : w.heap.size ≤ V5.heap.size := by omega
    have hD5 := HD2.out
    have hBne : B ≠ D2 := by omega
    have hkB : Keeps (fun j => j = D2 ∨ j = W9.heap.size) W9 (V9.putObj D2 (.deferred none)) := (HB9.out.none.trans (hrow.mono (fun _ _ h => .inr h))).trans (hput.mono (fun _ _ h => .inl h))
    have hkAll : Keeps (fun k => k = B) w (V9.putObj D2 (.deferred none)) := by
      have h1 : Keeps (fun k => k = B ∨ w.heap.size ≤ k) w (V9.putObj D2 (.deferred none)) := ((HKw.out.mono (fun _ _ h => .inl h)).trans (HI9.out.keep.mono (fun j _ h => by unfold ApM at h; omega))).trans (hkB.mono (fun j _ h => .inr (by omega)))
      exact h1.mono (fun j hj h => by omega)
    have hrowf : (V9.putObj D2 (.deferred none)).heap[W9.heap.size]? = some (.cells cs.toArray 78 (0, 0)) := (hput.block _ (lt_of_block hCr) (by have := HDW.out; omega)).trans hCr
    refine ⟨_, results_tmp rfl _ _ _, ?_⟩
    refine ⟨ys, W9.heap.size, HGd.out, ?_, ⟨[], ?_⟩, by omega, ?_, hkAll⟩
    · rw [HGL.out, Hk.out]; rfl
    · rw [hrowf, ← Hcs.out, HGL.out, List.append_nil]
    · rw [HGL.out]
      exact ⟨(hkB.block _ (lt_of_block HBd9.out) (by have := lt_of_block HBd9.out; omega)).trans HBd9.out, Hbd.out.tns.keep hkAll (fun q o h1 h2 => Hbd.out.ne _ _ h2 h1), Hbd.out.cap, Hbd.out.ne⟩
end Go.Proofs.Ytdfdlklglbefiaa
