/- Stage 2: the states with a last step that are reached (reached73). -/
import Derived.Test.YtfmcfalghbaanaaSeen
import Derived.Sort.LoopGhostIn
namespace Go.Proofs.Ytfmcfalghbaanaa
set_option linter.unusedSimpArgs false
set_option linter.unusedVariables false
open Go.RowKit Go.Shelf
attribute [local go_sem] Oper.semAt_some
attribute [local go_sem ↓] exec_load78
attribute [local go_sem ↓] at_load78
attribute [local go_sem ↓] exec_eql28
attribute [local go_sem ↓] at_eql28
attribute [local go_sem ↓] exec_app
attribute [local go_sem ↓] at_app

/-- What the search keeps. -/
structure RcS (W4 : World) (B : Nat) (J : List Sta → World → Prop) (Mut : Nat → Prop) (T : Nat → Nat → Bool) (cs : List Nat) (n x i : Nat) (S : List Sta) (U : World) : Prop where
  fnd : Fnd T cs n i S
  jay : J (((⟨0, 0⟩ :: S).take i).filter (lastS x)) U
  line : ∃ v g, U.heap[B + 1 + 1 + 1]? = some (.cells #[v] 126 (0, 0)) ∧ LineR U v ((⟨0, 0⟩ :: S).drop i) ∧ v.ownBlock = some g ∧ (g = B + 1 + 1 ∨ W4.heap.size ≤ g)
  seen : VSet U B S.length S
  keep : Keeps (fun k => Mut k ∨ k = B ∨ k = B + 1 + 1 ∨ k = B + 1 + 1 + 1) W4 U
/-- All but the first one, kept whole in walks. -/
def runSl (P : Program) (x lo : Value) (W : World) : Result Next := (execOp (fun o => match o with | .tmp 0 => x | _ => lo) { dst := none, op := Op.slice 126 (.tmp 0) (some (.const (.int .i64 1))) none none, type := 126, pos := "", after := #[], guard := none }).run P W
theorem exec_sl (ρ : Operand → Value) (d : Option Tmp) (i : Tmp) (c : Value) (ty : TypeId) (pos : String) (af : Array Edge) (g : Option (Nat × Bool)) (W : World) :
    (execOp ρ { dst := d, op := Op.slice 126 (.tmp i) (some (.const c)) none none, type := ty, pos := pos, after := af, guard := g }).run Try.prog W = runSl Try.prog (ρ (.tmp i)) (ρ (.const c)) W := rfl
theorem at_sl (r : Option Nat) (ρ : Operand → Value) (d : Option Tmp) (i : Tmp) (c : Value) (ty : TypeId) (pos : String) (af : Array Edge) (g : Option (Nat × Bool)) (W : World) :
    (Oper.semAt r ρ { dst := d, op := Op.slice 126 (.tmp i) (some (.const c)) none none, type := ty, pos := pos, after := af, guard := g }).run Try.prog W = runSl Try.prog (ρ (.tmp i)) (ρ (.const c)) W := by
  rw [at_plain _ _ _ (fun c => by simp)]; exact exec_sl ρ d i c ty pos af g W
theorem run_sl {v v' : Value} {W : World} (h : (Instr.slice 126 v (some (.int .i64 1)) none none).run Try.prog W = .ok v' W) : runSl Try.prog v (.int .i64 1) W = .ok (.value v') W := by
  have he : Try.prog.elem 126 = 91 := by kernel_rfl
  have h2 := run_sliceAt_slice (P := Try.prog) W 126 v (some (.int .i64 1)) none none (by rw [he]; exact Try.underlying126)
  unfold runSl
  simp only [execOp, Option.map_some, Option.map_none, Sem.run_bind, Sem.run_pure, h2, h, Result.andThen_ok]
attribute [local go_sem ↓] exec_sl
attribute [local go_sem ↓] at_sl
/-- What a range over the states behind one keeps. -/
def RiI (W7 : World) (B g : Nat) (J0 : World → Prop) (S0 : List Sta) (i1 : Nat) (pre : List Sta) (O : Nat → Prop) (U : World) : Prop :=
  ∃ v k, U.heap[B + 1 + 1 + 1]? = some (.cells #[v] 126 (0, 0)) ∧ LineR U v ((⟨0, 0⟩ :: addN S0 pre).drop i1) ∧ v.ownBlock = some k ∧ (k = g ∨ O k) ∧ VSet U B (addN S0 pre).length (addN S0 pre) ∧ J0 U ∧ Keeps (fun j => j = B ∨ j = B + 1 + 1 + 1 ∨ j = g) W7 U
theorem RiI.ab {W7 : World} {B g Bw B0 : Nat} {J0 : World → Prop} {S0 : List Sta} {i1 : Nat} {pre : List Sta} (hJ : Abides Bw J0) (h1 : B + 4 ≤ B0) (h2 : g < B0) (h3 : Bw ≤ B0) (h4 : W7.heap.size ≤ B0) : AbO B0 (RiI W7 B g J0 S0 i1 pre) := by
  rintro O U U' ⟨v, k, e1, e2, e3, e4, e5, e6, e7⟩ hK
  refine ⟨v, k, (hK.block _ (lt_of_block e1) (by rintro ⟨e, _⟩; omega)).trans e1, e2.keep hK (fun j hj e => ?_), e3, e4, e5.keep hK (by rintro ⟨e, _⟩; omega), hJ _ _ e6 (hK.mono (fun j _ e => Nat.le_trans h3 e.1)), keeps_abides h4 _ _ e7 (hK.mono (fun j _ e => e.1))⟩
  rw [e3] at hj
  have := Option.some.inj hj
  subst this
  rcases e4 with e4 | e4
  · omega
  · exact e.2 e4
theorem addN_len (S l : List Sta) : (addN S l).length ≤ S.length + l.length := by
  induction l generalizing S with
  | nil => exact Nat.le_refl _
  | cons b l ih =>
    refine Nat.le_trans (ih _) ?_
    split
    · simp
    · simp only [List.length_append, List.length_cons, List.length_nil]; omega
theorem hbl_parts {p x : Nat} {t : Bool} (hx : x = if t then 2 * p + 1 else 2 * p) : x / 2 = p ∧ decide (x % 2 = 1) = t := by
  subst hx
  cases t
  · rw [if_neg (by simp)]; exact ⟨by omega, decide_eq_false (by omega)⟩
  · rw [if_pos rfl]; exact ⟨by omega, decide_eq_true (by omega)⟩
theorem seq_split {F : Fence} {n : Nat} {P : Program} {x y : Code} {Q : Exit → Act → World → Prop} {K : Act → World → Prop} (h : ∀ a w, (Code.seq x y).wpIn F n P Q a w → K a w) :
    ∃ Kt : Act → World → Prop, (∀ a w, y.wpIn F n P Q a w → Kt a w) ∧ ∀ a w, x.wpIn F n P (Exit.then Kt Q) a w → K a w :=
  ⟨y.wpIn F n P Q, fun _ _ h => h, fun a w hx => h a w (wpIn_seq hx)⟩

set_option maxRecDepth 100000 in
set_option maxHeartbeats 4000000 in
theorem reached_seq (X : Array Value) (A : Option Addr) (n cap : Nat) (off lo hi : Int) (T : Nat → Nat → Bool) (M Bb Bs p x : Nat) (t : Bool) (ps : List Pc) (w : World) (hB : w.heap[Bb]? = some (.cells X 78 (0, 0))) (hX : Brd X A n cap off lo hi T M) (hs : w.heap[Bs]? = some (.cells #[.int .i64 (p : Int), .bool t] 28 (0, 0))) (hp : Pcs w A n ps) (hn1 : 1 ≤ n) (hn : n ≤ 8) (hx : x = if t then 2 * p + 1 else 2 * p) (hx16 : x < 16) :
    SeqL Try.prog 73 #[.pointer (some ⟨Bs, 0, none⟩), .pointer (some ⟨Bb, 0, none⟩)] staE (reachL T (codesL ps) x) (fun k => k = Bb ∨ k = Bs ∨ ∃ o, A = some ⟨k, o, none⟩) w := by
  intro l Mut J Jx W hW hMut hJ hJx hY h0
  have hmm := @run_makeMap Try.prog
  have hBW := (hW.block Bb (lt_of_block hB) (fun e => e)).trans hB
  have hsW := (hW.block Bs (lt_of_block hs) (fun e => e)).trans hs
  have hsz := hX.size
  have lbb := lt_of_block hBW
  have lbs := lt_of_block hsW
  have Hx := Lib.hid hx
  have HwW := Lib.hid hW
  have HM := Lib.hid hMut
  have HJa := Lib.hid hJ
  have HJx := Lib.hid hJx
  have HY := Lib.hid hY
  have Hj0 := Lib.hid h0
  have Hp := Lib.hid (hp.keep hW (fun _ _ e => e.elim))
  have HBW := Lib.hid hBW
  have HSW := Lib.hid hsW
  have HX := Lib.hid hX
  clear hx hW hMut hJ hJx hY h0 hp hBW hsW hs hB hX
  refine (callsIn_wide (n := 5)).1 ?_
  refine callsIn_of_wp_marks Try.func73 rfl trivial ?_ rfl
  simp only [Try.ntmps73, List.size_toArray, List.length_cons, List.length_nil, Nat.reduceAdd, Nat.reduceSub, Array.replicate_succ, Array.replicate_zero, List.push_toArray, List.append_toArray, List.nil_append, List.cons_append]
  gi_wp2_with fail
  have E0 := Lib.hid (show ((((W.alloc (.map #[] 0)).alloc (.cells #[.map (some W.heap.size)] 125)).alloc (.cells #[.int .i64 0, .bool false, .int .u64 0] 91)).alloc (.cells #[.slice (some ⟨W.heap.size + 1 + 1, 0, none⟩) 1 1] 126)).heap[W.heap.size]? = some (.map #[] 0) from hal_old (hal_old (hal_old (heap_alloc_new_ _ _))))
  have E1 := Lib.hid (show ((((W.alloc (.map #[] 0)).alloc (.cells #[.map (some W.heap.size)] 125)).alloc (.cells #[.int .i64 0, .bool false, .int .u64 0] 91)).alloc (.cells #[.slice (some ⟨W.heap.size + 1 + 1, 0, none⟩) 1 1] 126)).heap[W.heap.size + 1]? = some (.cells #[.map (some W.heap.size)] 125 (0, 0)) from hal_old (hal_old (hal_new (by simp))))
  have E2 := Lib.hid (show ((((W.alloc (.map #[] 0)).alloc (.cells #[.map (some W.heap.size)] 125)).alloc (.cells #[.int .i64 0, .bool false, .int .u64 0] 91)).alloc (.cells #[.slice (some ⟨W.heap.size + 1 + 1, 0, none⟩) 1 1] 126)).heap[W.heap.size + 1 + 1]? = some (.cells (staV 0 false 0) 91 (0, 0)) from hal_old (hal_new (by simp)))
  have E3 := Lib.hid (show ((((W.alloc (.map #[] 0)).alloc (.cells #[.map (some W.heap.size)] 125)).alloc (.cells #[.int .i64 0, .bool false, .int .u64 0] 91)).alloc (.cells #[.slice (some ⟨W.heap.size + 1 + 1, 0, none⟩) 1 1] 126)).heap[W.heap.size + 1 + 1 + 1]? = some (.cells #[.slice (some ⟨W.heap.size + 1 + 1, 0, none⟩) 1 1] 126 (0, 0)) from hal_new (by simp))
  have K4 := Lib.hid (show Keeps (fun _ => False) W ((((W.alloc (.map #[] 0)).alloc (.cells #[.map (some W.heap.size)] 125)).alloc (.cells #[.int .i64 0, .bool false, .int .u64 0] 91)).alloc (.cells #[.slice (some ⟨W.heap.size + 1 + 1, 0, none⟩) 1 1] 126)) from (((keep_alloc _ _ _).trans (keep_alloc _ _ _)).trans (keep_alloc _ _ _)).trans (keep_alloc _ _ _))
  have hs4 := eq_le (show ((((W.alloc (.map #[] 0)).alloc (.cells #[.map (some W.heap.size)] 125)).alloc (.cells #[.int .i64 0, .bool false, .int .u64 0] 91)).alloc (.cells #[.slice (some ⟨W.heap.size + 1 + 1, 0, none⟩) 1 1] 126)).heap.size = W.heap.size + 4 by simp)
  obtain ⟨W4, hW4⟩ : ∃ W4, ((((W.alloc (.map #[] 0)).alloc (.cells #[.map (some W.heap.size)] 125)).alloc (.cells #[.int .i64 0, .bool false, .int .u64 0] 91)).alloc (.cells #[.slice (some ⟨W.heap.size + 1 + 1, 0, none⟩) 1 1] 126)) = W4 := ⟨_, rfl⟩
  rw [hW4] at E0 E1 E2 E3 K4 hs4 ⊢
  clear hW4 hmm
  have hlen := eq_le Hp.out.1
  have hco : Codes n (codesL ps) := by have h := codes_ok ps; rw [Hp.out.1] at h; exact h
  have Hco := Lib.hid hco
  have hMl : ∀ k, Mut k → k < W.heap.size := fun k h => (HM.out k h).1
  have hneed := pcs_lt Hp.out (by omega)
  clear hco
  refine wpIn_loop_ghost (fun m a U => ∃ (i : Nat) (S : List Sta) (v6 v11 v12 v13 v14 v15 v16 v17 v18 v19 v20 v21 v22 v23 v24 v25 v26 v27 v28 v29 v30 v31 v32 v33 v34 v35 v36 : Value) (ds : List Deferred), a = { tmps := #[.func (.yield l) #[] #[], .pointer (some ⟨Bs, 0, none⟩), .pointer (some ⟨Bb, 0, none⟩), undef, .pointer (some ⟨W.heap.size + 1, 0, none⟩), .pointer (some ⟨W.heap.size + 1 + 1 + 1, 0, none⟩), v6, undef, .map (some W.heap.size), .agg #[.int .i64 0, .bool false, .int .u64 0], .slice (some ⟨W.heap.size + 1 + 1, 0, none⟩) 1 1, v11, v12, v13, v14, v15, v16, v17, v18, v19, v20, v21, v22, v23, v24, v25, v26, v27, v28, v29, v30, v31, v32, v33, v34, v35, v36, undef, undef, undef, undef, undef, undef, undef, undef, undef, undef, undef], defers := ds } ∧ m = 5000 - i ∧ RcS W4 W.heap.size J Mut T (codesL ps) n x i S U ∧ Marks W4.heap.size U ds) 5000 ?start ?round
  case start =>
    refine ⟨0, [], _, _, _, _, _, _, _, _, _, _, _, _, _, _, _, _, _, _, _, _, _, _, _, _, _, _, _, [], rfl, rfl, ⟨Fnd.start _ _ _, HJa.out _ _ _ Hj0.out K4.out.none, ⟨_, W.heap.size + 1 + 1, E3.out, ⟨W.heap.size + 1 + 1, 0, 1, _, rfl, Nat.le_refl _, E2.out, by decide, fun j hj => ?_⟩, rfl, .inl rfl⟩, VSet.new E0.out, Keeps.refl _ _⟩, trivial⟩
    match j, hj with
    | 0, _ => rfl
    | 1, _ => rfl
    | 2, _ => rfl
  case round =>
    rintro m a U ⟨i, S, v6, v11, v12, v13, v14, v15, v16, v17, v18, v19, v20, v21, v22, v23, v24, v25, v26, v27, v28, v29, v30, v31, v32, v33, v34, v35, v36, ds, rfl, rfl, hR, hD⟩
    obtain ⟨v, g, hv1, hv2, hv3, hv4⟩ := hR.line
    have HR := Lib.hid hR
    have HD := Lib.hid hD
    have hwl : W4.heap.size ≤ U.heap.size := hR.keep.size
    by_cases hiS : i < S.length + 1
    · obtain ⟨a, hdr, hget, hor, hreach, halt, ha16, ha256⟩ := hR.fnd.at Hco.out hn hiS
      rw [hdr] at hv2
      obtain ⟨rest, hrest⟩ : ∃ rest, (⟨0, 0⟩ :: S : List Sta).drop (i + 1) = rest := ⟨_, rfl⟩
      rw [hrest] at hv2
      obtain ⟨g', off', cap', rfl, hcap, c0, c1, c2, o2, hsl, hline⟩ := hv2.head
      obtain rfl : g' = g := Option.some.inj hv3
      obtain ⟨p2, t2, hp2, ht2, hx2⟩ := code_parts a.last
      rw [hp2] at c0
      rw [ht2] at c1
      have hU3 := hv1
      have cl : U.cell? ⟨W.heap.size + 1 + 1 + 1, 0, none⟩ = some (.slice (some ⟨g', off', none⟩) (rest.length + 1) cap') := by rw [cell_row hv1]; rfl
      have hgU := lt_of_cell c0
      have kV := keep_alloc (fun _ => False) U (.cells #[.int .i64 (p2 : Int), .bool t2, .int .u64 (a.pcs : Int)] 91)
      have nV := heap_alloc_new_ U (.cells #[.int .i64 (p2 : Int), .bool t2, .int .u64 (a.pcs : Int)] 91)
      have sV := eq_le (World.size_alloc U (.cells #[.int .i64 (p2 : Int), .bool t2, .int .u64 (a.pcs : Int)] 91))
      obtain ⟨V, hV⟩ : ∃ V, U.alloc (.cells #[.int .i64 (p2 : Int), .bool t2, .int .u64 (a.pcs : Int)] 91) = V := ⟨_, rfl⟩
      rw [hV] at kV nV sV
      have hvV := (kV.block _ (lt_of_block hv1) (fun e => e)).trans hv1
      have clV : V.cell? ⟨W.heap.size + 1 + 1 + 1, 0, none⟩ = some (.slice (some ⟨g', off', none⟩) (rest.length + 1) cap') := by rw [cell_row hvV]; rfl
      have hpos : (0 : Int) < (rest.length : Int) + 1 := by omega
      have Hline := Lib.hid hline
      have Hx2 := Lib.hid hx2
      have Hsl := Lib.hid hsl
      have Hv4 := Lib.hid hv4
      have KV := Lib.hid kV
      have NV := Lib.hid nV
      have HVV := Lib.hid hvV
      have Hdr := Lib.hid hdr
      have Hrest := Lib.hid hrest
      have Hget := Lib.hid hget
      have Hor := Lib.hid hor
      have Hreach := Lib.hid hreach
      have Halt := Lib.hid halt
      clear hR hD hv1 hv2 hv3 hv4 hdr hrest hget hor hreach halt hline hx2 hsl kV nV hvV hp2 ht2 hU3
      gi_wp2_with fail
      rename_i Qr Ka hKa Kb hKb
      obtain ⟨Kt, hKt, hKu⟩ := seq_split hKa
      have HKt := Lib.hid hKt
      clear hKt hKa
      have hBsM : ¬ Mut Bs := fun h => (HM.out _ h).2 (.inr (.inl rfl))
      have hBbM : ¬ Mut Bb := fun h => (HM.out _ h).2 (.inl rfl)
      have tail : ∀ (v11 v12 v13 v14 v15 v16 v17 v18 v19 v20 v21 v22 v23 v24 v25 v26 v27 v28 v29 v30 v31 v32 v33 v34 v35 v36 : Value) (V3 : World), J (((⟨0, 0⟩ :: S : List Sta).take (i + 1)).filter (lastS x)) V3 → V3.heap[W.heap.size + 1 + 1 + 1]? = some (.cells #[.slice (some ⟨g', o2, none⟩) rest.length (cap' - 1)] 126 (0, 0)) → LineR V3 (.slice (some ⟨g', o2, none⟩) rest.length (cap' - 1)) rest →
          VSet V3 W.heap.size S.length S → V3.heap[U.heap.size]? = some (.cells (staV p2 t2 a.pcs) 91 (0, 0)) → Keeps (fun k => Mut k ∨ k = W.heap.size ∨ k = W.heap.size + 1 + 1 ∨ k = W.heap.size + 1 + 1 + 1) W4 V3 → Marks W4.heap.size V3 ds → Kt { tmps := #[.func (.yield l) #[] #[], .pointer (some ⟨Bs, 0, none⟩), .pointer (some ⟨Bb, 0, none⟩), undef, .pointer (some ⟨W.heap.size + 1, 0, none⟩), .pointer (some ⟨W.heap.size + 1 + 1 + 1, 0, none⟩), .pointer (some ⟨U.heap.size, 0, none⟩), undef, .map (some W.heap.size), .agg #[.int .i64 0, .bool false, .int .u64 0], .slice (some ⟨W.heap.size + 1 + 1, 0, none⟩) 1 1, v11, v12, v13, v14, v15, v16, v17, v18, v19, v20, v21, v22, v23, v24, v25, v26, v27, v28, v29, v30, v31, v32, v33, v34, v35, v36, undef, undef, undef, undef, undef, undef, undef, undef, undef, undef, undef], defers := ds } V3 := by
        intro v11 v12 v13 v14 v15 v16 v17 v18 v19 v20 v21 v22 v23 v24 v25 v26 v27 v28 v29 v30 v31 v32 v33 v34 v35 v36 V3 tj tl tline tseen tat tkeep tmarks
        refine HKt.out _ _ ?_
        clear hKu hKb HKt
        have hBb3 := (tkeep.block _ (by omega) (by rintro (h | h | h | h); exact hBbM h; omega; omega; omega)).trans ((K4.out.block _ lbb (fun e => e)).trans HBW.out)
        have l78 : runO Try.prog (ld 78) (.pointer (some ⟨Bb, 0, none⟩)) V3 = .ok (.value (.agg X)) V3 := run_ld78 hBb3 hsz
        have a0 : V3.cell? ⟨U.heap.size, 0, none⟩ = some (.int .i64 (p2 : Int)) := by rw [cell_row tat]; rfl
        have a1 : V3.cell? ⟨U.heap.size, 1, none⟩ = some (.bool t2) := by rw [cell_row tat]; rfl
        have a2 : V3.cell? ⟨U.heap.size, 2, none⟩ = some (.int .u64 (a.pcs : Int)) := by rw [cell_row tat]; rfl
        have hs34 := tkeep.size
        have tlt := lt_of_block tl
        have TJ := Lib.hid tj
        have TL := Lib.hid tl
        have TLine := Lib.hid tline
        have TSeen := Lib.hid tseen
        have TKeep := Lib.hid tkeep
        have TMarks := Lib.hid tmarks
        clear tj tl tline tseen tat tkeep tmarks hBb3
        gi_wp2_with fail
        clear l78 a0 a1 a2
        refine ⟨trivial, (callsIn_wide.2 (behind70 _ _ _)).mono ?_⟩
        rintro e w5 ⟨rfl, rfl⟩
        gi_wp2_with fail
        have hk7 : Keeps (fun _ => False) V3 ((V3.alloc (.cells X 78)).alloc (.cells #[.int .i64 (p2 : Int), .bool t2, .int .u64 (a.pcs : Int)] 91)) := (keep_alloc _ _ _).trans (keep_alloc _ _ _)
        have e8 : ((V3.alloc (.cells X 78)).alloc (.cells #[.int .i64 (p2 : Int), .bool t2, .int .u64 (a.pcs : Int)] 91)).heap[V3.heap.size]? = some (.cells X 78 (0, 0)) := hal_old (heap_alloc_new_ _ _)
        have e9 : ((V3.alloc (.cells X 78)).alloc (.cells #[.int .i64 (p2 : Int), .bool t2, .int .u64 (a.pcs : Int)] 91)).heap[V3.heap.size + 1]? = some (.cells (staV p2 t2 a.pcs) 91 (0, 0)) := hal_new (by simp)
        have hs7 := eq_le (show ((V3.alloc (.cells X 78)).alloc (.cells #[.int .i64 (p2 : Int), .bool t2, .int .u64 (a.pcs : Int)] 91)).heap.size = V3.heap.size + 2 by simp)
        obtain ⟨W7, hW7⟩ : ∃ W7, (V3.alloc (.cells X 78)).alloc (.cells #[.int .i64 (p2 : Int), .bool t2, .int .u64 (a.pcs : Int)] 91) = W7 := ⟨_, rfl⟩
        rw [hW7] at hk7 e8 e9 hs7 ⊢
        clear hW7
        obtain ⟨g2, hg2, hg3⟩ := TLine.out.lt
        obtain rfl : g' = g2 := Option.some.inj hg2
        have hAM : ∀ j, (Mut j ∨ j = W.heap.size ∨ j = W.heap.size + 1 + 1 ∨ j = W.heap.size + 1 + 1 + 1) → ∀ o, A ≠ some ⟨j, o, none⟩ := fun j hj o e => by
          have h1 := hneed j ⟨o, e⟩
          rcases hj with h | h | h | h
          · exact (HM.out _ h).2 (.inr (.inr ⟨o, e⟩))
          · omega
          · omega
          · omega
        have hpc7 := ((Hp.out.keep K4.out (fun _ _ e => e.elim)).keep TKeep.out (fun j o h => hAM j h o)).keep hk7 (fun _ _ e => e.elim)
        have hcl : (codesL ps).length ≤ 16 := Nat.le_trans (codes_len_ ps ps.length) (by omega)
        have h17 := (hk7.block _ (by omega) (fun e => e)).trans ((TKeep.out.block _ (by omega) (by rintro (h | h | h | h); have := hMl _ h; omega; omega; omega; omega)).trans E1.out)
        have H17 := Lib.hid h17
        have HK7 := Lib.hid hk7
        have hg'4 : g' = W.heap.size + 1 + 1 ∨ W4.heap.size ≤ g' := Hv4.out
        have hSl := HR.out.fnd.len
        clear hk7 h17
        refine wpIn_rangeO (gf := 77) (lb := #[.pointer (some ⟨V3.heap.size + 1, 0, none⟩), .pointer (some ⟨V3.heap.size, 0, none⟩)]) rfl (enters_of Try.func77 (by kernel_rfl) rfl) (behind_seqO X A n cap off lo hi T M V3.heap.size (V3.heap.size + 1) p2 a.pcs a.last t2 ps W7 e8 HX.out e9 hpc7 hn1 hn ha256 Hx2.out ha16)
          (by rintro k (rfl | rfl | h); omega; omega; have := hneed k h; omega) (fun _ => rfl) (fun j => j = W.heap.size ∨ j = W.heap.size + 1 + 1 + 1 ∨ j = g') (by
            intro j hj
            refine ⟨by omega, ?_⟩
            rintro (h | h | ⟨o, h⟩)
            · omega
            · omega
            · have := hneed j ⟨o, h⟩; omega)
          (RiI W7 W.heap.size g' (J (((⟨0, 0⟩ :: S : List Sta).take (i + 1)).filter (lastS x))) S (i + 1)) (fun _ _ _ _ => False) (fun pre => RiI.ab (HJa.out _) (by omega) (by omega) (by omega) (Nat.le_refl _)) (fun _ _ _ _ _ h _ => h) ?start2 ?round2 ?done2 ?stop2
        case start2 =>
          refine ⟨_, g', (HK7.out.block _ (lt_of_block TL.out) (fun e => e)).trans TL.out, ?_, rfl, .inl rfl, TSeen.out.keep HK7.out (fun e => e), HJa.out _ _ _ TJ.out HK7.out.none, Keeps.refl _ _⟩
          have h1 := TLine.out.keep HK7.out (fun _ _ e => e)
          rw [← Hrest.out] at h1 ⊢
          exact h1
        case stop2 => rintro D c pre y post W' O _ _ _ _ _ h; exact h.elim
        case done2 =>
          rintro D W' O hD hDW hDO hOs ⟨v, k, f1, f2, f3, f4, f5, f6, f7⟩ hKd
          have F1 := Lib.hid f1
          have F2 := Lib.hid f2
          have F5 := Lib.hid f5
          have F6 := Lib.hid f6
          have F7 := Lib.hid f7
          have HKd := Lib.hid hKd
          clear f1 f2 f5 f6 f7 hKd
          gi_wp2_with fail
          have hstep := HR.out.fnd.step Hco.out hn hiS Hget.out Hreach.out Halt.out
          have hpre2 := addN_prefix S (nexts T (codesL ps) a)
          have hg'c : ∀ U', LineR U' (.slice (some ⟨g', o2, none⟩) rest.length (cap' - 1)) rest → U'.heap[g']? ≠ some (.deferred (some [])) := fun U' ⟨_, _, _, _, hh, _, h2, _⟩ e => by
            injection hh with h3
            injection h3 with h3
            injection h3 with h3 _
            subst h3
            rw [h2] at e; cases e
          have hm7 := TMarks.out.keep HK7.out (fun _ e => e.elim)
          have hm9 : Marks W4.heap.size W' ds := hm7.keep2 F7.out (fun j hj e => by
            rcases hj with rfl | rfl | rfl
            · obtain ⟨D0, ⟨es, cl, hb, _⟩, _⟩ := TSeen.out.keep HK7.out (fun e => e)
              rw [hb] at e; cases e
            · rw [(HK7.out.block _ (lt_of_block TL.out) (fun e => e)).trans TL.out] at e; cases e
            · exact hg'c _ (TLine.out.keep HK7.out (fun _ _ e => e)) e)
          refine ⟨5000 - (i + 1), by omega, i + 1, addN S (nexts T (codesL ps) a), _, _, _, _, _, _, _, _, _, _, _, _, _, _, _, _, _, _, _, _, _, _, _, _, _, _, _, _, rfl, rfl, ⟨hstep, ?_, ⟨v, k, F1.out, F2.out, f3, ?_⟩, F5.out, ?_⟩, ?_⟩
          · have h1 := F6.out
            obtain ⟨t9, ht9⟩ := hpre2
            rw [← ht9, ← List.cons_append, List.take_append_of_le_length (by simp; omega)]
            exact h1
          · rcases f4 with f4 | f4
            · rw [f4]; exact hg'4
            · exact .inr (by have := hOs k f4; omega)
          · have h1 := ((TKeep.out.mono (Mut' := fun k => (Mut k ∨ k = W.heap.size ∨ k = W.heap.size + 1 + 1 ∨ k = W.heap.size + 1 + 1 + 1) ∨ k = g') (fun _ _ e => .inl e)).trans HK7.out.none).trans (F7.out.mono (fun j _ e => by
              rcases e with e | e | e
              · exact .inl (.inr (.inl e))
              · exact .inl (.inr (.inr (.inr e)))
              · exact .inr e))
            exact h1.mono (fun j hj e => e.elim id (fun e => .inr (.inr (.inl (by omega)))))
          · exact Marks.push TMarks.out hm9 (by omega) (by omega) hDW HKd.out
        case round2 =>
          intro l2 pre b post W8 O hbs hl1 hl2 hr hO hI m2
          have hbs : nexts T (codesL ps) a = pre ++ b :: post := hbs
          obtain ⟨p3, t3, hE, hbl⟩ := staE_form b
          rw [hE]
          have hbm : b ∈ nexts T (codesL ps) a := by rw [hbs]; simp
          obtain ⟨hb1, hb2, hb3⟩ := next_last hbm
          have hb16 : b.last < 16 := by have := Hco.out _ hb2; omega
          have hb256 : b.pcs < 256 := by
            have h1 : b.pcs < 2 ^ n := by rw [hb1]; exact go_lt Halt.out (Hco.out _ hb2)
            exact Nat.lt_of_lt_of_le h1 (two256 hn)
          have hprelen : pre.length ≤ 16 := by
            have h1 := congrArg List.length hbs
            have h2 := nexts_len (T := T) (a := a) hcl
            rw [List.length_append, List.length_cons] at h1
            omega
          have Hbl := Lib.hid hbl
          have Hby := Lib.hid (heap_alloc_new_ W8 (.cells #[.int .i64 (p3 : Int), .bool t3, .int .u64 (b.pcs : Int)] 91))
          clear hE hbs hbm hb1 hb2 hb3 hbl hr
          gi_wp2_with fail
          refine ⟨keep_alloc _ _ _, ?_⟩
          intro W9 hB9 hI9
          obtain ⟨v, k, f1, f2, f3, f4, f5, f6, f7⟩ := hI9
          have hs9 := hB9.keeps.size
          simp only [World.size_alloc] at hs9
          have hn9 := (hB9.keeps.block _ (by simp) (by omega)).trans Hby.out
          have h19 := (f7.block _ (lt_of_block H17.out) (by omega)).trans H17.out
          have m1 : W9.cell? ⟨W.heap.size + 1, 0, none⟩ = some (.map (some W.heap.size)) := by rw [cell_row h19]; rfl
          have y0 : W9.cell? ⟨W8.heap.size, 0, none⟩ = some (.int .i64 (p3 : Int)) := by rw [cell_row hn9]; rfl
          have y1 : W9.cell? ⟨W8.heap.size, 1, none⟩ = some (.bool t3) := by rw [cell_row hn9]; rfl
          have y2 : W9.cell? ⟨W8.heap.size, 2, none⟩ = some (.int .u64 (b.pcs : Int)) := by rw [cell_row hn9]; rfl
          have hlk := f5.look (q := b.pcs) Hbl.out hb16 hb256
          have hS2 : (addN S pre).length ≤ 5000 := by have := addN_len S pre; omega
          have hi1 : i + 1 ≤ (addN S pre).length + 1 := by have := (addN_prefix S pre).length_le; omega
          have F1 := Lib.hid f1
          have F2 := Lib.hid f2
          have F3 := Lib.hid f3
          have F4 := Lib.hid f4
          have F5 := Lib.hid f5
          have F6 := Lib.hid f6
          have F7 := Lib.hid f7
          have HO := Lib.hid hO
          have HN9 := Lib.hid hn9
          have H19 := Lib.hid h19
          clear hB9 hI f1 f2 f4 f5 f6 f7 hO hn9 h19
          cases hin : decide ((⟨b.last, b.pcs⟩ : Sta) ∈ addN S pre) with
          | true =>
            rw [hin] at hlk
            have Hin := Lib.hid hin
            clear hin
            gi_wp2_with fail
            have hin2 : b ∈ addN S pre := of_decide_eq_true Hin.out
            have hsn : addN S (pre ++ [b]) = addN S pre := by rw [addN_snoc, if_pos hin2]
            refine ⟨O, Grow.refl _ _ _, Keeps.refl _ _, v, k, F1.out, ?_, f3, F4.out, ?_, F6.out, F7.out⟩
            · rw [hsn]; exact F2.out
            · rw [hsn]; exact F5.out
          | false =>
            rw [hin] at hlk
            have Hin := Lib.hid hin
            clear hin
            obtain ⟨Wu, hup, hVu, hKu⟩ := F5.out.update (q := b.pcs) (by omega) Hbl.out hb16 hb256
            have hsu := hKu.size
            have h1u := (hKu.block _ (lt_of_block F1.out) (by omega)).trans F1.out
            have hnu := (hKu.block _ (lt_of_block HN9.out) (by omega)).trans HN9.out
            have hlu : LineR Wu v ((⟨0, 0⟩ :: addN S pre : List Sta).drop (i + 1)) := F2.out.keep hKu (fun j hj e => by
              rw [f3] at hj; have := Option.some.inj hj
              rcases F4.out with h | h
              · omega
              · have := HO.out k h; omega)
            have u0 : Wu.cell? ⟨W8.heap.size, 0, none⟩ = some (.int .i64 (p3 : Int)) := by rw [cell_row hnu]; rfl
            have u1 : Wu.cell? ⟨W8.heap.size, 1, none⟩ = some (.bool t3) := by rw [cell_row hnu]; rfl
            have u2 : Wu.cell? ⟨W8.heap.size, 2, none⟩ = some (.int .u64 (b.pcs : Int)) := by rw [cell_row hnu]; rfl
            have u3 : Wu.cell? ⟨W.heap.size + 1 + 1 + 1, 0, none⟩ = some v := by rw [cell_row h1u]; rfl
            have kA := keep_alloc (fun _ => False) Wu (.cells #[.int .i64 (p3 : Int), .bool t3, .int .u64 (b.pcs : Int)] 91)
            have nA := heap_alloc_new_ Wu (.cells #[.int .i64 (p3 : Int), .bool t3, .int .u64 (b.pcs : Int)] 91)
            have sA := eq_le (World.size_alloc Wu (.cells #[.int .i64 (p3 : Int), .bool t3, .int .u64 (b.pcs : Int)] 91))
            obtain ⟨Wa, hWa⟩ : ∃ Wa, Wu.alloc (.cells #[.int .i64 (p3 : Int), .bool t3, .int .u64 (b.pcs : Int)] 91) = Wa := ⟨_, rfl⟩
            rw [hWa] at kA nA sA
            have hc3 : (cell3 b).toArray = #[.int .i64 (p3 : Int), .bool t3, .int .u64 (b.pcs : Int)] := by
              have h1 := hbl_parts Hbl.out
              unfold cell3
              rw [h1.1, h1.2]
            obtain ⟨v3, Wp, hap, hLp, hKp, hob⟩ := (hlu.keep kA (fun _ _ e => e)).push (b := b) (Z := Wu.heap.size) (by rw [List.length_drop]; simp; omega) (by rw [hc3]; exact nA)
            have hap2 := run_app hap
            have h1a := (kA.block _ (lt_of_block h1u) (fun e => e)).trans h1u
            have hFk : v.ownBlock ≠ some (W.heap.size + 1 + 1 + 1) := fun e => by
              rw [f3] at e; have := Option.some.inj e
              rcases F4.out with h | h
              · omega
              · have := HO.out k h; omega
            have h1p := (hKp.block _ (lt_of_block h1a) (fun e => hFk e)).trans h1a
            have p3c : Wp.cell? ⟨W.heap.size + 1 + 1 + 1, 0, none⟩ = some v := by rw [cell_row h1p]; rfl
            have p3f : Wp.frozen? ⟨W.heap.size + 1 + 1 + 1, 0, none⟩ = false := frozen_row h1p
            have hst1 := store1 (W.heap.size + 1 + 1 + 1) 0 v3 Wp (by rw [p3c]; rfl) p3f hLp.one
            have HVu := Lib.hid hVu
            have HKu := Lib.hid hKu
            have HKA := Lib.hid kA
            have HLp := Lib.hid hLp
            have HKp := Lib.hid hKp
            have Hob := Lib.hid hob
            have H1p := Lib.hid h1p
            clear hVu hKu kA nA hLp hKp hob h1p h1a hlu h1u hnu hap
            gi_wp2_with fail
            rw [hst1]
            gi_wp2_with fail
            have hset := keeps_setCell Wp (W.heap.size + 1 + 1 + 1) 0 v3
            have hkB : k ≠ W.heap.size ∧ k ≠ W.heap.size + 1 + 1 + 1 ∧ W.heap.size ≤ k := by
              rcases F4.out with h | h
              · omega
              · have := HO.out k h; omega
            have kAll : Keeps (fun j => (j = W.heap.size ∨ j = W.heap.size + 1 + 1 + 1 ∨ j = g') ∨ O j) W9 (Wp.setCell ⟨W.heap.size + 1 + 1 + 1, 0, none⟩ v3) := (((HKu.out.mono (fun j _ e => .inl (.inl e))).trans HKA.out.none).trans (HKp.out.mono (fun j _ e => by
              rw [f3] at e; have := Option.some.inj e
              subst this
              exact F4.out.imp (fun h => .inr (.inr h)) id))).trans (hset.mono (fun j _ e => .inl (.inr (.inl e))))
            have hin2 : ¬ b ∈ addN S pre := of_decide_eq_false Hin.out
            have hsn : addN S (pre ++ [b]) = addN S pre ++ [b] := by rw [addN_snoc, if_neg hin2]
            obtain ⟨k3, hk3, hk3l⟩ := HLp.out.lt
            have hsp := HKp.out.size
            have hss := hset.size
            have hk3c : (k3 = k ∨ (Wa.heap.size ≤ k3)) := by
              rcases Hob.out with h | ⟨h, _⟩
              · left; rw [hk3, f3] at h; exact Option.some.inj h
              · right; rw [hk3] at h; have := Option.some.inj h; omega
            refine ⟨fun j => O j ∨ (j = k3 ∧ Wa.heap.size ≤ j ∧ j < Wp.heap.size), ⟨fun j h => .inl h, fun j h => h.imp id (fun h => ⟨by omega, by omega⟩)⟩, kAll, v3, k3, ?_, ?_, hk3, ?_, ?_, ?_, ?_⟩
            · rw [set_same 0 _ H1p.out]; rfl
            · rw [hsn, ← List.cons_append, List.drop_append_of_le_length (by simp; omega)]
              exact HLp.out.keep hset (fun j hj e => by
                rw [hk3] at hj; have := Option.some.inj hj
                rcases hk3c with h | h <;> omega)
            · rcases hk3c with h | h
              · rw [h]; exact F4.out.imp id .inl
              · exact .inr (.inr ⟨rfl, h, hk3l⟩)
            · rw [hsn, List.length_append, List.length_singleton]
              exact ((HVu.out.keep HKA.out (fun e => e)).keep HKp.out (fun e => by rw [f3] at e; exact hkB.1 (Option.some.inj e))).keep hset (by omega)
            · exact HJa.out _ _ _ F6.out (kAll.mono (fun j _ e => by
                rcases e with (e | e | e) | e
                · omega
                · omega
                · omega
                · have := HO.out j e; omega))
            · exact ((F7.out.mono (Mut' := fun j => (j = W.heap.size ∨ j = W.heap.size + 1 + 1 + 1 ∨ j = g') ∨ O j) (fun _ _ e => .inl e)).trans kAll).mono (fun j hj e => e.elim id (fun e => by have := HO.out j e; omega))
      have hrs := run_sl (Hsl.out V)
      have kV2 := keeps_setCell V (W.heap.size + 1 + 1 + 1) 0 (.slice (some ⟨g', o2, none⟩) rest.length (cap' - 1))
      have lv2 := set_same 0 (.slice (some ⟨g', o2, none⟩) rest.length (cap' - 1)) HVV.out
      have flV : V.frozen? ⟨W.heap.size + 1 + 1 + 1, 0, none⟩ = false := frozen_row HVV.out
      obtain ⟨V2, hV2⟩ : ∃ V2, V.setCell ⟨W.heap.size + 1 + 1 + 1, 0, none⟩ (.slice (some ⟨g', o2, none⟩) rest.length (cap' - 1)) = V2 := ⟨_, rfl⟩
      rw [hV2] at kV2 lv2
      have hn2 := (kV2.block _ (lt_of_block NV.out) (by omega)).trans NV.out
      have y0 : V2.cell? ⟨U.heap.size, 0, none⟩ = some (.int .i64 (p2 : Int)) := by rw [cell_row hn2]; rfl
      have y1 : V2.cell? ⟨U.heap.size, 1, none⟩ = some (.bool t2) := by rw [cell_row hn2]; rfl
      have y2 : V2.cell? ⟨U.heap.size, 2, none⟩ = some (.int .u64 (a.pcs : Int)) := by rw [cell_row hn2]; rfl
      have hsW2 := (kV2.block _ (by have := KV.out.size; omega) (by omega)).trans ((KV.out.block _ (by omega) (fun e => e)).trans ((HR.out.keep.block _ (by omega) (by rintro (h | h | h | h); exact hBsM h; omega; omega; omega)).trans ((K4.out.block _ lbs (fun e => e)).trans HSW.out)))
      have b0 : V2.cell? ⟨Bs, 0, none⟩ = some (.int .i64 (p : Int)) := by rw [cell_row hsW2]; rfl
      have b1 : V2.cell? ⟨Bs, 1, none⟩ = some (.bool t) := by rw [cell_row hsW2]; rfl
      have hE : ∀ W', runE Try.prog 28 (.agg #[.int .i64 (p2 : Int), .bool t2]) (.agg #[.int .i64 (p : Int), .bool t]) W' = .ok (.value (.bool (decide (a.last = x)))) W' := fun W' => run_eqlC Hx2.out Hx.out W'
      have hg'ne : g' ≠ W.heap.size + 1 + 1 + 1 := by rcases Hv4.out with h | h <;> omega
      have hline2 := (Hline.out.keep KV.out (fun _ _ e => e)).keep kV2 (fun j hj e => by have := Option.some.inj hj; subst this; exact hg'ne e)
      have hseen2 := (HR.out.seen.keep KV.out (fun e => e)).keep kV2 (by omega)
      have hkeep2 : Keeps (fun k => Mut k ∨ k = W.heap.size ∨ k = W.heap.size + 1 + 1 ∨ k = W.heap.size + 1 + 1 + 1) W4 V2 := (HR.out.keep.trans KV.out.none).trans (kV2.mono (fun j _ e => .inr (.inr (.inr e))))
      have hmarks2 := (HD.out.keep KV.out (fun _ e => e.elim)).keep kV2 (fun j e => by omega)
      have hj2 : J (((⟨0, 0⟩ :: S : List Sta).take i).filter (lastS x)) V2 := HJa.out _ _ _ HR.out.jay (KV.out.none.trans (kV2.mono (fun j _ e => by omega)))
      have htk : (⟨0, 0⟩ :: S : List Sta).take (i + 1) = (⟨0, 0⟩ :: S : List Sta).take i ++ [a] := by
        have hl : i < (⟨0, 0⟩ :: S : List Sta).length := by simpa using hiS
        rw [List.take_succ_eq_append_getElem hl]
        have h1 := Hget.out
        rw [List.getD, List.getElem?_eq_getElem hl] at h1
        rw [← h1]; rfl
      have Hhn2 := Lib.hid hn2
      have Hlv2 := Lib.hid lv2
      have HL2 := Lib.hid hline2
      have HS2 := Lib.hid hseen2
      have HK2 := Lib.hid hkeep2
      have HM2 := Lib.hid hmarks2
      have HJ2 := Lib.hid hj2
      have Htk := Lib.hid htk
      have HTail := Lib.hid tail
      clear tail hn2 lv2 hline2 hseen2 hkeep2 hmarks2 hj2 htk kV2 hsW2
      by_cases h0 : a.pcs = 0
      · have d0 : ((a.pcs : Int) != 0) = false := by rw [bne_eq_false_iff_eq]; omega
        have hls : lastS x a = false := by unfold lastS; rw [decide_eq_false (by simpa using h0)]; rfl
        clear h0 hE
        gi_wp2_with fail
        refine ⟨fun _ h => (by cases h), ?_⟩
        gi_wp2_with fail
        exact HTail.out _ _ _ _ _ _ _ _ _ _ _ _ _ _ _ _ _ _ _ _ _ _ _ _ _ _ V2 (by rw [Htk.out, List.filter_append, List.filter_cons, if_neg (by rw [hls]; simp), List.filter_nil, List.append_nil]; exact HJ2.out) Hlv2.out HL2.out HS2.out Hhn2.out HK2.out HM2.out
      · have d0 : ((a.pcs : Int) != 0) = true := by rw [bne_iff_ne]; omega
        cases hlx : decide (a.last = x) with
        | false =>
          have hls : lastS x a = false := by unfold lastS; rw [hlx, Bool.and_false]
          rw [hlx] at hE
          clear h0 hlx
          gi_wp2_with fail
          refine ⟨fun _ h => (by cases h), ?_⟩
          gi_wp2_with fail
          exact HTail.out _ _ _ _ _ _ _ _ _ _ _ _ _ _ _ _ _ _ _ _ _ _ _ _ _ _ V2 (by rw [Htk.out, List.filter_append, List.filter_cons, if_neg (by rw [hls]; simp), List.filter_nil, List.append_nil]; exact HJ2.out) Hlv2.out HL2.out HS2.out Hhn2.out HK2.out HM2.out
        | true =>
          have hls : lastS x a = true := by unfold lastS; rw [hlx, decide_eq_true h0]; rfl
          rw [hlx] at hE
          clear h0 hlx
          obtain ⟨t9, ht9⟩ : S <+: bfsAll T (codesL ps) := by rw [← HR.out.fnd.all]; exact bfs_prefix _ _ _ _ _
          have hxs : reachL T (codesL ps) x = (((⟨0, 0⟩ :: S : List Sta).take i).filter (lastS x)) ++ a :: ((rest ++ t9).filter (lastS x)) := by
            have h1 : (⟨0, 0⟩ :: S : List Sta) = (⟨0, 0⟩ :: S : List Sta).take i ++ a :: rest := by
              have h2 := List.take_append_drop i (⟨0, 0⟩ :: S : List Sta)
              rw [Hdr.out, Hrest.out] at h2
              exact h2.symm
            unfold reachL
            rw [← ht9, ← List.cons_append]
            conv => lhs; rw [h1]
            rw [List.append_assoc, List.filter_append, List.cons_append, List.filter_cons, if_pos hls]
          have hsV2 : W.heap.size ≤ V2.heap.size := by have := HK2.out.size; omega
          have hy0 := HY.out _ a _ V2 hxs hsV2 HJ2.out (5 - 1)
          have hSE : staE a = #[.agg #[.int .i64 (p2 : Int), .bool t2, .int .u64 (a.pcs : Int)]] := by
            have h1 := hbl_parts Hx2.out
            unfold staE
            rw [h1.1, h1.2]
          rw [hSE] at hy0
          obtain ⟨fn, tmps, assign, body, hy, hRd⟩ := hy0
          have Hxs := Lib.hid hxs
          clear hxs hSE
          gi_wp2_with fail
          refine hRd.mono ?_
          rintro e V3 (⟨rfl, hj3, hk3⟩ | ⟨rfl, hj3, hk3⟩)
          · have HJ3 := Lib.hid hj3
            have HK3 := Lib.hid hk3
            clear hj3 hk3 hy
            gi_wp2_with fail
            have hu3 := lt_of_block Hhn2.out
            obtain ⟨g2, hg2, hg3⟩ := HL2.out.lt
            refine HTail.out _ _ _ _ _ _ _ _ _ _ _ _ _ _ _ _ _ _ _ _ _ _ _ _ _ _ V3 ?_ ((HK3.out.block _ (lt_of_block Hlv2.out) (fun h => by have := hMl _ h; omega)).trans Hlv2.out) (HL2.out.keep HK3.out (fun j hj h => by
                have h1 := hMl _ h
                have h2 : g' = j := Option.some.inj hj
                rcases Hv4.out with h3 | h3 <;> omega)) (HS2.out.keep HK3.out (fun h => by have := hMl _ h; omega)) ((HK3.out.block _ hu3 (fun h => by have := hMl _ h; omega)).trans Hhn2.out) (HK2.out.trans (HK3.out.mono (fun _ _ e => .inl e))) (HM2.out.keep HK3.out (fun j h => by have := hMl _ h; omega))
            rw [Htk.out, List.filter_append, List.filter_cons, if_pos hls]
            exact HJ3.out
          · have HJ3 := Lib.hid hj3
            have HK3 := Lib.hid hk3
            clear hj3 hk3 hy
            gi_wp2_with fail
            have hm3 := HM2.out.keep HK3.out (fun j h => by have := hMl _ h; omega)
            show LeavesInM Fence.wide 5 Try.prog Try.f73 _ _ _ .returning _
            refine Marks.leaves (lo := W4.heap.size) _ _ hm3 (fun W' hK' => ?_)
            exact ⟨_, results_none rfl _ _ _, ⟨_, rfl⟩, .inr ⟨_, a, _, Hxs.out, HJx.out _ _ _ HJ3.out (hK'.mono (fun j _ e => by omega))⟩⟩
    · have hie : i = S.length + 1 := by have := hR.fnd.fuel; omega
      have hdr0 : (⟨0, 0⟩ :: S : List Sta).drop i = [] := List.drop_eq_nil_of_le (by simp; omega)
      rw [hdr0] at hv2
      obtain ⟨g', off', cap', cur', rfl, _⟩ := hv2
      have cl : U.cell? ⟨W.heap.size + 1 + 1 + 1, 0, none⟩ = some (.slice (some ⟨g', off', none⟩) 0 cap') := by rw [cell_row hv1]; rfl
      have Hie := Lib.hid hie
      clear hR hD hv1 hv3 hv4 hie hdr0 hiS
      gi_wp2_with fail
      show LeavesInM Fence.wide 5 Try.prog Try.f73 _ _ _ .returning _
      refine Marks.leaves (lo := W4.heap.size) _ _ HD.out (fun W' hK' => ?_)
      refine ⟨_, results_none rfl _ _ _, ⟨_, rfl⟩, .inl ?_⟩
      have h1 := HJa.out _ _ _ HR.out.jay (hK'.mono (fun j _ e => by omega))
      rw [List.take_of_length_le (by simp; have := Hie.out; omega), (HR.out.fnd.fin Hie.out).1] at h1
      exact h1
end Go.Proofs.Ytfmcfalghbaanaa
