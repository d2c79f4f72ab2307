/- Stage 5: the question that is asked. -/
import Derived.Test.YtnodkgejggnehaaKa
import Derived.ControlIn
import Derived.Laws.EntriesVeiled
import Derived.Laws.ResultCell
import Derived.BigQuiet
namespace Go.Proofs.Ytnodkgejggnehaa
set_option linter.unusedSimpArgs false
set_option linter.unusedVariables false
open Go.RowKit Go.Shelf
attribute [local go_sem ↓] exec_app at_app
attribute [local go_sem] Oper.semAt_some
/-- The first one of several whose size no other one is below. -/
def bestQ (sel : Nat → Bool) (r : Nat → Nat) : Nat → Option Nat
  | 0 => none
  | x + 1 => if sel x then (match bestQ sel r x with
    | none => some x
    | some y => if r x < r y then some x else some y) else bestQ sel r x
/-- How it lies in memory. -/
def bestA : Option Nat → Int
  | none => 0
  | some y => (y : Int)
def bestB (r : Nat → Nat) : Option Nat → Int
  | none => 0
  | some y => (r y : Int)
/-- What a round of least finds. -/
structure LeI (M b : Nat) (w : World) (va vb : Int) (f : Bool) (W : World) : Prop where
  c3 : W.heap[b]? = some (.cells #[.func (.func 59) #[] #[]] 83 (0, 0))
  c4 : W.heap[b + 1]? = some (.cells #[.int .i64 va, .int .i64 vb] 77 (0, 0))
  c5 : W.heap[b + 2]? = some (.cells #[.bool f] 4 (0, 0))
  keep : Keeps (fun j => j = M ∨ j = b + 1 ∨ j = b + 2) w W
/-- The same of the best of several. -/
def LeO (r : Nat → Nat) (M b : Nat) (w : World) (o : Option Nat) (W : World) : Prop := LeI M b w (bestA o) (bestB r o) o.isSome W
theorem LeI.abide {M b N : Nat} {w W W' : World} {va vb : Int} {f : Bool} {O : Nat → Prop} (h : LeI M b w va vb f W) (hb : b + 3 ≤ N) (hbM : M < b) (hs : w.heap.size ≤ N) (hK : Keeps (fun k => (N ≤ k ∧ ¬ O k) ∨ k = M) W W') : LeI M b w va vb f W' := by
  have k : ∀ j x, j < N → j ≠ M → W.heap[j]? = some x → W'.heap[j]? = some x := fun j x h1 h2 h3 => (hK.block j (lt_of_block h3) (by rintro (e | e); omega; exact h2 e)).trans h3
  exact ⟨k _ _ (by omega) (by omega) h.c3, k _ _ (by omega) (by omega) h.c4, k _ _ (by omega) (by omega) h.c5,
    ⟨hK.os.trans h.keep.os, hK.tape.trans h.keep.tape, hK.output.trans h.keep.output, Nat.le_trans h.keep.size hK.size, fun j hj hm => (hK.block j (Nat.lt_of_lt_of_le hj h.keep.size) (by rintro (e | e); omega; exact hm (.inl e))).trans (h.keep.block j hj hm)⟩⟩
theorem LeI.below {M b : Nat} {w W W' : World} {va vb : Int} {f : Bool} (h : LeI M b w va vb f W) (hK : Keeps (fun _ => False) W W') : LeI M b w va vb f W' := by
  have k : ∀ j x, W.heap[j]? = some x → W'.heap[j]? = some x := fun j x h3 => (hK.block j (lt_of_block h3) (fun e => e)).trans h3
  exact ⟨k _ _ h.c3, k _ _ h.c4, k _ _ h.c5, h.keep.trans hK.none⟩
theorem LeI.put4 {M b : Nat} {w W : World} {va vb : Int} {f : Bool} (h : LeI M b w va vb f W) (x y : Int) : LeI M b w x y f ((W.setCell ⟨b + 1, 0, none⟩ (.int .i64 x)).setCell ⟨b + 1, 1, none⟩ (.int .i64 y)) := by
  have hK : Keeps (fun k => k = b + 1) W ((W.setCell ⟨b + 1, 0, none⟩ (.int .i64 x)).setCell ⟨b + 1, 1, none⟩ (.int .i64 y)) := (keeps_setCell _ _ _ _).trans (keeps_setCell _ _ _ _)
  exact ⟨(hK.block _ (lt_of_block h.c3) (by omega)).trans h.c3, set_same 1 _ (set_same 0 _ h.c4), (hK.block _ (lt_of_block h.c5) (by omega)).trans h.c5, h.keep.trans (hK.mono (fun j _ e => .inr (.inl e)))⟩
theorem LeI.put5 {M b : Nat} {w W : World} {va vb : Int} {f : Bool} (h : LeI M b w va vb f W) (g : Bool) : LeI M b w va vb g (W.setCell ⟨b + 2, 0, none⟩ (.bool g)) := by
  have hK : Keeps (fun k => k = b + 2) W (W.setCell ⟨b + 2, 0, none⟩ (.bool g)) := keeps_setCell _ _ _ _
  exact ⟨(hK.block _ (lt_of_block h.c3) (by omega)).trans h.c3, (hK.block _ (lt_of_block h.c4) (by omega)).trans h.c4, set_same 0 _ h.c5, h.keep.trans (hK.mono (fun j _ e => .inr (.inr e)))⟩
theorem res57 {tmps : Array Value} {W : World} {b : Nat} {x y : Int} {f : Bool} (h4 : tmps.getD 4 undef = .pointer (some ⟨b + 1, 0, none⟩)) (h5 : tmps.getD 5 undef = .pointer (some ⟨b + 2, 0, none⟩)) (c4 : W.heap[b + 1]? = some (.cells #[.int .i64 x, .int .i64 y] 77 (0, 0))) (c5 : W.heap[b + 2]? = some (.cells #[.bool f] 4 (0, 0))) :
    (results Try.f57 tmps).run Try.prog W = .ok (.tuple #[.agg #[.int .i64 x, .int .i64 y], .bool f]) W := by
  have z0 : W.cell? ⟨b + 1, 0, none⟩ = some (.int .i64 x) := by rw [cell_row c4]; rfl
  have z1 : W.cell? ⟨b + 1, 1, none⟩ = some (.int .i64 y) := by rw [cell_row c4]; rfl
  have z2 : W.cell? ⟨b + 2, 0, none⟩ = some (.bool f) := by rw [cell_row c5]; rfl
  have hr : (results Try.f57 tmps).run Try.prog W = ((asAddr (tmps.getD 4 undef)).run Try.prog W).andThen fun a w₁ => ((loadVar 77 a).run Try.prog w₁).andThen fun v w₂ => ((asAddr (tmps.getD 5 undef)).run Try.prog w₂).andThen fun a2 w₃ => ((loadVar 4 a2).run Try.prog w₃).andThen fun v2 w₄ => .ok (.tuple #[v, v2]) w₄ := by
    simp only [results, Try.results57]
    simp [Sem.run_bind, Result.andThen]
  rw [hr, h4, h5]
  simp [go_sem, z0, z1, z2]
theorem size59 (a b : Int) (w : World) : Calls Try.prog 59 #[.agg #[.int .i64 a, .int .i64 b]] w fun e w' => e = .returned (.int .i64 b) ∧ Below w.heap.size w w' := by
  refine (callsIn_wide (n := 3)).1 ?_
  refine callsIn_of_wp Try.func59 rfl trivial ?_ rfl
  simp only [Try.ntmps59, List.size_toArray, List.length_cons, List.length_nil, Nat.reduceAdd, Nat.reduceSub, Array.replicate_succ, Array.replicate_zero, List.push_toArray, List.append_toArray, List.nil_append, List.cons_append]
  have hrV := heap_alloc_new_ w (.cells #[.int .i64 a, .int .i64 b] 77)
  have hbV := below_alloc_ w (.cells #[.int .i64 a, .int .i64 b] 77)
  have c1 : (w.alloc (.cells #[.int .i64 a, .int .i64 b] 77)).cell? ⟨w.heap.size, 1, none⟩ = some (.int .i64 b) := by rw [cell_row hrV]; rfl
  gi_wp2_with fail
  go_ret
  exact ⟨rfl, hbV⟩
set_option maxRecDepth 100000 in
set_option maxHeartbeats 16000000 in
theorem least57 (g : FuncId) (lb : Array Value) (eg : ∀ args w, (callFunc g args).run Try.prog w = .ok (.enter g args) w) (N M : Nat) (sel : Nat → Bool) (r : Nat → Nat) (Need : Nat → Prop) (w : World) (hM : M < w.heap.size) (hNd : ∀ j, Need j → j < w.heap.size)
    (hseq : ∀ W, Below w.heap.size w W → SeqE Try.prog g lb (fun x => #[.agg #[.int .i64 (x : Int), .int .i64 (r x : Int)]]) (fun j => j = M) N (fun x _ q => q = sel x) Need W) :
    Calls Try.prog 57 #[.func (.func g) #[] lb, .func (.func 59) #[] #[]] w fun e w' => e = .returned (.tuple #[.agg #[.int .i64 (bestA (bestQ sel r N)), .int .i64 (bestB r (bestQ sel r N))], .bool (bestQ sel r N).isSome]) ∧ Keeps (fun j => j = M) w w' := by
  have hb1 := below_alloc_ w (.cells #[.func (.func 59) #[] #[]] 83)
  have hr1 := heap_alloc_new_ w (.cells #[.func (.func 59) #[] #[]] 83)
  have hs1 : (w.alloc (.cells #[.func (.func 59) #[] #[]] 83)).heap.size = w.heap.size + 1 := by simp
  obtain ⟨w1, hw1⟩ : ∃ w1, w.alloc (.cells #[.func (.func 59) #[] #[]] 83) = w1 := ⟨_, rfl⟩
  rw [hw1] at hb1 hr1 hs1
  have hb2 := below_alloc_ w1 (.cells #[.int .i64 0, .int .i64 0] 77)
  have hr2 := heap_alloc_new_ w1 (.cells #[.int .i64 0, .int .i64 0] 77)
  have hs2 : (w1.alloc (.cells #[.int .i64 0, .int .i64 0] 77)).heap.size = w1.heap.size + 1 := by simp
  obtain ⟨w2, hw2⟩ : ∃ w2, w1.alloc (.cells #[.int .i64 0, .int .i64 0] 77) = w2 := ⟨_, rfl⟩
  rw [hw2] at hb2 hr2 hs2
  have hb3 := below_alloc_ w2 (.cells #[.bool false] 4)
  have hr3 := heap_alloc_new_ w2 (.cells #[.bool false] 4)
  have hs3 : (w2.alloc (.cells #[.bool false] 4)).heap.size = w2.heap.size + 1 := by simp
  obtain ⟨w3, hw3⟩ : ∃ w3, w2.alloc (.cells #[.bool false] 4) = w3 := ⟨_, rfl⟩
  rw [hw3] at hb3 hr3 hs3
  obtain ⟨b, hbn⟩ : ∃ b, w.heap.size = b := ⟨_, rfl⟩
  have hb13 : Below w.heap.size w w3 := (hb1.trans (hb2.mono hb1.size)).trans (hb3.mono (by omega))
  have hsq := hseq w3 hb13
  have h0 : LeO r M b w3 none w3 := ⟨(hb3.block _ (by have := lt_of_block hr1; omega)).trans ((hb2.block _ (by have := lt_of_block hr1; omega)).trans (by rw [← hbn]; exact hr1)), (hb3.block _ (by omega)).trans (by rw [← hbn, ← hs1]; exact hr2), by rw [← hbn, show w.heap.size + 2 = w2.heap.size from by omega]; exact hr3, Keeps.refl _ _⟩
  have Hw1 := Lib.hid hw1
  have Hw2 := Lib.hid hw2
  have Hw3 := Lib.hid hw3
  have H0 := Lib.hid h0
  have Hsq := Lib.hid hsq
  have Hbn := Lib.hid hbn
  have Hb13 := Lib.hid (Keeps.of_new (Mut := fun j => j = M) hb13)
  have hs3b : w3.heap.size = b + 3 := by omega
  have e1 : w1.heap.size = b + 1 := by omega
  have e2 : w2.heap.size = b + 2 := by omega
  have hMb : M < b := by omega
  have HNd := Lib.hid (show ∀ j, Need j → j < b by rw [← hbn]; exact hNd)
  clear hw1 hw2 hw3 h0 hsq hbn hb13 hb1 hb2 hb3 hr1 hr2 hr3 hs1 hs2 hs3 hseq hNd hM
  refine (callsIn_wide (n := 5)).1 ?_
  refine callsIn_of_wp_marks Try.func57 rfl trivial ?_ rfl
  simp only [Try.ntmps57, List.size_toArray, List.length_cons, List.length_nil, Nat.reduceAdd, Nat.reduceSub, Array.replicate_succ, Array.replicate_zero, List.push_toArray, List.append_toArray, List.nil_append, List.cons_append]
  gi_wp2_with fail
  try rw [Hw1.out]
  gi_wp2_with fail
  rw [Hw2.out, Hw3.out, Hbn.out]
  try simp only [Nat.add_assoc, Nat.reduceAdd]
  refine wpIn_rangeE rfl eg Hsq.out (fun j e => by have := HNd.out j e; omega) (fun j e => by omega) (fun x => rfl) (fun j => j = b + 1 ∨ j = b + 2) (fun j e => ⟨by omega, fun h => by have := HNd.out j h; omega⟩)
    (fun x O U => LeO r M b w3 (bestQ sel r x) U) (fun _ _ _ _ => False) (fun x O U U' hI hK => LeI.abide hI (by omega) hMb (Nat.le_refl _) hK) (fun _ _ _ _ _ hI _ => hI) ?start ?round ?done ?stop
  case start => exact H0.out
  case stop => rintro D c x U O _ _ _ _ _ hI; exact hI.elim
  case done =>
    rintro D U O hD hDU hDO hOs hI hKd
    have HI := Lib.hid hI
    have HKd := Lib.hid hKd
    clear hI hKd
    gi_wp2_with fail
    rename_i Q1 K1 hK1
    have HK1 := Lib.hid hK1
    clear hK1
    have hIo := HI.out
    unfold LeO at hIo
    obtain ⟨va, hva⟩ : ∃ v, bestA (bestQ sel r N) = v := ⟨_, rfl⟩
    obtain ⟨vb, hvb⟩ : ∃ v, bestB r (bestQ sel r N) = v := ⟨_, rfl⟩
    obtain ⟨f, hf⟩ : ∃ v, (bestQ sel r N).isSome = v := ⟨_, rfl⟩
    rw [hva, hvb, hf] at hIo
    refine Code.wpIn_mono (Q := Exit.then K1 (fun _ _ _ => False)) (fun e a w h => by
      cases e with
      | normal => exact h
      | ret => exact h.elim
      | exit id => exact h.elim
      | goto l => exact h.elim
      | panic c => exact h.elim
      | outgrown => exact h.elim) ?_
    have hS0 : LeI M b w3 va vb f U.drew := hIo.below (Keeps.of_new (drew_b _ 1))
    have Hva := Lib.hid hva
    have Hvb := Lib.hid hvb
    have Hf := Lib.hid hf
    clear HI hIo hva hvb hf
    refine Out.region_R (z := 100) (S := fun W' => LeI M b w3 va vb f W' ∧ Keeps (fun j => j = b + 1 ∨ j = b + 2) U W') (by kernel_rfl) ?_
    replace hS0 := And.intro hS0 (show Keeps (fun j => j = b + 1 ∨ j = b + 2) U U.drew from Keeps.of_new (drew_b U 1))
    refine Out.anyR_take (i := 0) (oi := { dst := some 21, op := Go.Op.load 77 (Go.Operand.tmp 4), type := 77, pos := "number.go:69", after := #[], guard := none }) (v := .agg #[.int .i64 va, .int .i64 vb]) rfl (by decide) (by kernel_rfl) (by kernel_rfl) (by kernel_rfl) (by kernel_rfl) (fun _ _ _ h => h) (Or.inl ⟨by rfl, by intro W' hSw; (try dsimp only at hSw); have y0 : W'.cell? ⟨b + 1, 0, none⟩ = some (.int .i64 va) := by {rw [cell_row hSw.1.c4]; rfl}; have y1 : W'.cell? ⟨b + 1, 1, none⟩ = some (.int .i64 vb) := by {rw [cell_row hSw.1.c4]; rfl}; go_simp⟩) hS0 ?_
    try simp only [Act.put, List.setIfInBounds_toArray, List.set_cons_zero, List.set_cons_succ]
    refine Out.anyR_take (i := 1) (oi := { dst := some 22, op := Go.Op.load 4 (Go.Operand.tmp 5), type := 4, pos := "number.go:69", after := #[], guard := none }) (v := .bool f) rfl (by decide) (by kernel_rfl) (by kernel_rfl) (by kernel_rfl) (by kernel_rfl) (fun _ _ _ h => h) (Or.inl ⟨by rfl, by intro W' hSw; (try dsimp only at hSw); have y0 : W'.cell? ⟨b + 2, 0, none⟩ = some (.bool f) := by {rw [cell_row hSw.1.c5]; rfl}; go_simp⟩) hS0 ?_
    try simp only [Act.put, List.setIfInBounds_toArray, List.set_cons_zero, List.set_cons_succ]
    obtain ⟨X, hX⟩ : ∃ X, U.drew = X := ⟨_, rfl⟩
    rw [hX] at hS0 ⊢
    clear hX
    refine Out.anyR_one (i := 2) (by kernel_rfl) rfl (by rfl) ?_
    intro K hK
    have HKK := Lib.hid hK
    clear hK
    have f4 := fun q : Nat => frozen_row (k := q) hS0.1.c4
    have y0 : X.cell? ⟨b + 1, 0, none⟩ = some (.int .i64 va) := by rw [cell_row hS0.1.c4]; rfl
    have y1 : X.cell? ⟨b + 1, 1, none⟩ = some (.int .i64 vb) := by rw [cell_row hS0.1.c4]; rfl
    go_simp
    have hS4 := And.intro (hS0.1.put4 va vb) (hS0.2.trans (((keeps_setCell X (b + 1) 0 (.int .i64 va)).trans (keeps_setCell _ (b + 1) 1 (.int .i64 vb))).mono (fun j _ e => Or.inl e)))
    obtain ⟨X4, hX4⟩ : ∃ X4, (X.setCell ⟨b + 1, 0, none⟩ (.int .i64 va)).setCell ⟨b + 1, 1, none⟩ (.int .i64 vb) = X4 := ⟨_, rfl⟩
    rw [hX4] at hS4 ⊢
    refine HKK.out _ _ (fun _ _ => hS4) ?_
    clear HKK K hX4 hS0 f4 y0 y1
    try simp only [Act.put, List.setIfInBounds_toArray, List.set_cons_zero, List.set_cons_succ]
    refine Out.anyR_one (i := 3) (by kernel_rfl) rfl (by rfl) ?_
    intro K hK
    have HKK := Lib.hid hK
    clear hK
    have f4 := fun q : Nat => frozen_row (k := q) hS4.1.c5
    have y0 : X4.cell? ⟨b + 2, 0, none⟩ = some (.bool f) := by rw [cell_row hS4.1.c5]; rfl
    go_simp
    have hS5 := And.intro (hS4.1.put5 f) (hS4.2.trans ((keeps_setCell X4 (b + 2) 0 (.bool f)).mono (fun j _ e => Or.inr e)))
    obtain ⟨X5, hX5⟩ : ∃ X5, X4.setCell ⟨b + 2, 0, none⟩ (.bool f) = X5 := ⟨_, rfl⟩
    rw [hX5] at hS5 ⊢
    refine HKK.out _ _ (fun _ _ => hS5) ?_
    clear HKK K hX5 hS4 f4 y0
    try simp only [Act.put, List.setIfInBounds_toArray, List.set_cons_zero, List.set_cons_succ]
    refine Out.anyR_done (by kernel_rfl) ?_ _
    refine HK1.out _ _ ?_
    clear HK1
    have HS5 := Lib.hid hS5
    have HKd2 := Lib.hid ((hS5.2.block _ (lt_of_block HKd.out) (by omega)).trans HKd.out)
    clear hS5 HKd
    gi_wp2_with fail
    refine ⟨by simp, .inl ⟨_, _, rfl, run_takeDeferred HKd2.out, ?_⟩⟩
    have hp : Keeps (fun j => j = D) X5 (X5.putObj D (.deferred none)) := Keeps.putObj _ _ _ rfl
    have hIp := LeI.abide (O := fun _ => False) HS5.out.1 (by omega) hMb (Nat.le_refl _) (hp.mono (fun j _ e => Or.inl ⟨by omega, fun e => e⟩))
    refine ⟨_, res57 rfl rfl hIp.c4 hIp.c5, by rw [Hva.out, Hvb.out, Hf.out], ?_⟩
    have hk := hIp.keep
    have h13 := Hb13.out
    exact ⟨hk.os.trans h13.os, hk.tape.trans h13.tape, hk.output.trans h13.output, Nat.le_trans h13.size hk.size, fun j hj hm => (hk.block j (Nat.lt_of_lt_of_le hj h13.size) (by have := Hbn.out; rintro (e | e | e); exact hm e; omega; omega)).trans (h13.block j hj hm)⟩
  case round =>
    intro l2 x U O hx hl1 hl2 hr hO hI
    refine ⟨sel x, rfl, fun hq => by show LeO r M b w3 (bestQ sel r (x + 1)) U; unfold bestQ; rw [hq]; exact hI, fun hq W2 hK2 => ?_⟩
    clear hr hI
    have HK2 := Lib.hid hK2
    have hl2W : l2 < W2.heap.size := Nat.lt_of_lt_of_le hl2 hK2.size
    clear hK2
    intro mm
    dsimp only
    gi_wp2_with fail
    refine ⟨keep_alloc _ _ _, ?_⟩
    have hrP := heap_alloc_new_ W2 (.cells #[.int .i64 (x : Int), .int .i64 (r x : Int)] 77)
    obtain ⟨P, hP⟩ : ∃ P, W2.heap.size = P := ⟨_, rfl⟩
    rw [hP] at hrP hl2W ⊢
    rintro w5 ⟨hk5, hs5, hr5⟩ hI5
    have hrP5 := (hk5.block _ (lt_of_block hrP) (by omega)).trans hrP
    clear hk5 hrP hr5 hs5
    have HP5 := Lib.hid hrP5
    clear hrP5
    have hI5' := hI5
    unfold LeO at hI5'
    have HI5 := Lib.hid hI5'
    clear hI5 hI5'
    have hbs : bestQ sel r (x + 1) = match bestQ sel r x with | none => some x | some y => if r x < r y then some x else some y := by show (if _ then _ else _) = _; rw [hq]; rfl
    have Hbs := Lib.hid hbs
    clear hbs
    obtain ⟨rx, hrx⟩ : ∃ rx, r x = rx := ⟨_, rfl⟩
    rw [hrx] at HP5 ⊢
    have Hrx := Lib.hid hrx
    clear hrx HK2 hP
    obtain ⟨o, ho⟩ : ∃ o, bestQ sel r x = o := ⟨_, rfl⟩
    rw [ho] at HI5 Hbs
    have HO := Lib.hid hO
    clear hO
    rcases o with _ | y
    · have HI6 := Lib.hid (show LeI M b w3 0 0 false w5 from HI5.out)
      gi_wp2_with fail
      rename_i Q1 K1 hK1
      have HK1 := Lib.hid hK1
      clear hK1
      refine Code.wpIn_mono (Q := Exit.then K1 (fun _ _ _ => False)) (fun e a w h => by
        cases e with
        | normal => exact h
        | ret => exact h.elim
        | exit id => exact h.elim
        | goto l => exact h.elim
        | panic c => exact h.elim
        | outgrown => exact h.elim) ?_
      have hS0 : Keeps (fun _ => False) w5 w5.drew := Keeps.of_new (drew_b w5 1)
      refine region_R (z := 100) (S := fun W' => Keeps (fun _ => False) w5 W') (by kernel_rfl) ?_
      refine anyR_take (i := 0) (oi := { dst := some 9, op := Go.Op.load 4 (Go.Operand.tmp 5), type := 4, pos := "number.go:65", after := #[], guard := none }) (v := .bool false) rfl (by decide) (by kernel_rfl) (by kernel_rfl) (by kernel_rfl) (by kernel_rfl) (fun _ _ _ h => h) (Or.inl ⟨by rfl, by intro W' hSw; (try dsimp only at hSw); have y0 := (hSw.block _ (lt_of_block HI6.out.c5) (fun e => e)).trans HI6.out.c5; have y1 : W'.cell? ⟨b + 2, 0, none⟩ = some (.bool false) := by {rw [cell_row y0]; rfl}; go_simp⟩) hS0 ?_
      try simp only [Act.put, List.setIfInBounds_toArray, List.set_cons_zero, List.set_cons_succ]
      refine anyR_take (i := 1) (oi := { dst := some 10, op := Go.Op.unOp Go.UnOp.not 4 (Go.Operand.tmp 9), type := 4, pos := "number.go:65", after := #[{ on := 0, ground := Go.Ground.data }], guard := none }) (v := .bool true) rfl (by decide) (by kernel_rfl) (by kernel_rfl) (by kernel_rfl) (by kernel_rfl) (fun _ _ _ h => h) (Or.inl ⟨by rfl, by intro W' hSw; (try dsimp only at hSw); go_simp⟩) hS0 ?_
      try simp only [Act.put, List.setIfInBounds_toArray, List.set_cons_zero, List.set_cons_succ]
      refine anyR_take (i := 2) (oi := { dst := some 11, op := Go.Op.move (Go.Operand.tmp 10), type := 4, pos := "number.go:65", after := #[{ on := 1, ground := Go.Ground.data }], guard := none }) (v := .bool true) rfl (by decide) (by kernel_rfl) (by kernel_rfl) (by kernel_rfl) (by kernel_rfl) (fun _ _ _ h => h) (Or.inl ⟨by rfl, by intro W' hSw; (try dsimp only at hSw); go_simp⟩) hS0 ?_
      try simp only [Act.put, List.setIfInBounds_toArray, List.set_cons_zero, List.set_cons_succ]
      refine anyR_take (i := 3) (oi := { dst := some 12, op := Go.Op.load 83 (Go.Operand.tmp 3), type := 83, pos := "number.go:65", after := #[{ on := 2, ground := Go.Ground.guard }], guard := some (2, false) }) (v := undef) rfl (by decide) (by kernel_rfl) (by kernel_rfl) (by kernel_rfl) (by kernel_rfl) (fun _ _ _ h => h) (Or.inr ⟨by rfl, rfl⟩) hS0 ?_
      try simp only [Act.put, List.setIfInBounds_toArray, List.set_cons_zero, List.set_cons_succ]
      refine anyR_take (i := 4) (oi := { dst := some 13, op := Go.Op.load 77 (Go.Operand.tmp 6), type := 77, pos := "number.go:65", after := #[{ on := 2, ground := Go.Ground.guard }], guard := some (2, false) }) (v := undef) rfl (by decide) (by kernel_rfl) (by kernel_rfl) (by kernel_rfl) (by kernel_rfl) (fun _ _ _ h => h) (Or.inr ⟨by rfl, rfl⟩) hS0 ?_
      try simp only [Act.put, List.setIfInBounds_toArray, List.set_cons_zero, List.set_cons_succ]
      refine anyR_take (i := 5) (oi := { dst := some 14, op := Go.Op.call { callee := Go.Callee.value (Go.Operand.tmp 12), args := #[Go.Operand.tmp 13], argTypes := #[77] }, type := 3, pos := "number.go:65", after := #[{ on := 3, ground := Go.Ground.data }, { on := 4, ground := Go.Ground.data }, { on := 2, ground := Go.Ground.chain }, { on := 2, ground := Go.Ground.guard }], guard := some (2, false) }) (v := undef) rfl (by decide) (by kernel_rfl) (by kernel_rfl) (by kernel_rfl) (by kernel_rfl) (fun _ _ _ h => h) (Or.inr ⟨by rfl, rfl⟩) hS0 ?_
      try simp only [Act.put, List.setIfInBounds_toArray, List.set_cons_zero, List.set_cons_succ]
      refine anyR_take (i := 6) (oi := { dst := some 15, op := Go.Op.load 83 (Go.Operand.tmp 3), type := 83, pos := "number.go:65", after := #[{ on := 2, ground := Go.Ground.guard }], guard := some (2, false) }) (v := undef) rfl (by decide) (by kernel_rfl) (by kernel_rfl) (by kernel_rfl) (by kernel_rfl) (fun _ _ _ h => h) (Or.inr ⟨by rfl, rfl⟩) hS0 ?_
      try simp only [Act.put, List.setIfInBounds_toArray, List.set_cons_zero, List.set_cons_succ]
      refine anyR_take (i := 7) (oi := { dst := some 16, op := Go.Op.load 77 (Go.Operand.tmp 4), type := 77, pos := "number.go:65", after := #[{ on := 2, ground := Go.Ground.guard }], guard := some (2, false) }) (v := undef) rfl (by decide) (by kernel_rfl) (by kernel_rfl) (by kernel_rfl) (by kernel_rfl) (fun _ _ _ h => h) (Or.inr ⟨by rfl, rfl⟩) hS0 ?_
      try simp only [Act.put, List.setIfInBounds_toArray, List.set_cons_zero, List.set_cons_succ]
      refine anyR_take (i := 8) (oi := { dst := some 17, op := Go.Op.call { callee := Go.Callee.value (Go.Operand.tmp 15), args := #[Go.Operand.tmp 16], argTypes := #[77] }, type := 3, pos := "number.go:65", after := #[{ on := 6, ground := Go.Ground.data }, { on := 7, ground := Go.Ground.data }, { on := 5, ground := Go.Ground.chain }, { on := 2, ground := Go.Ground.guard }], guard := some (2, false) }) (v := undef) rfl (by decide) (by kernel_rfl) (by kernel_rfl) (by kernel_rfl) (by kernel_rfl) (fun _ _ _ h => h) (Or.inr ⟨by rfl, rfl⟩) hS0 ?_
      try simp only [Act.put, List.setIfInBounds_toArray, List.set_cons_zero, List.set_cons_succ]
      refine anyR_take (i := 9) (oi := { dst := some 18, op := Go.Op.binOp Go.BinOp.lss 3 (Go.Operand.tmp 14) (Go.Operand.tmp 17) 3, type := 4, pos := "number.go:65", after := #[{ on := 5, ground := Go.Ground.data }, { on := 8, ground := Go.Ground.data }, { on := 2, ground := Go.Ground.guard }], guard := some (2, false) }) (v := undef) rfl (by decide) (by kernel_rfl) (by kernel_rfl) (by kernel_rfl) (by kernel_rfl) (fun _ _ _ h => h) (Or.inr ⟨by rfl, rfl⟩) hS0 ?_
      try simp only [Act.put, List.setIfInBounds_toArray, List.set_cons_zero, List.set_cons_succ]
      refine anyR_take (i := 10) (oi := { dst := some 19, op := Go.Op.pick (Go.Operand.tmp 11) (Go.Operand.const (Go.Value.bool true)) (Go.Operand.tmp 18), type := 4, pos := "number.go:65", after := #[{ on := 2, ground := Go.Ground.data }, { on := 9, ground := Go.Ground.data }], guard := none }) (v := .bool true) rfl (by decide) (by kernel_rfl) (by kernel_rfl) (by kernel_rfl) (by kernel_rfl) (fun _ _ _ h => h) (Or.inl ⟨by rfl, by intro W' hSw; (try dsimp only at hSw); go_simp⟩) hS0 ?_
      try simp only [Act.put, List.setIfInBounds_toArray, List.set_cons_zero, List.set_cons_succ]
      obtain ⟨V, hV⟩ : ∃ V, w5.drew = V := ⟨_, rfl⟩
      rw [hV] at hS0 ⊢
      clear hV
      refine anyR_done (by kernel_rfl) ?_ _
      refine HK1.out _ _ ?_
      clear HK1
      have hkV := hS0
      clear hS0
      have hIV := LeI.below HI6.out hkV
      have hPV := (hkV.block _ (lt_of_block HP5.out) (fun e => e)).trans HP5.out
      have c60 : V.cell? ⟨P, 0, none⟩ = some (.int .i64 (x : Int)) := by rw [cell_row hPV]; rfl
      have c61 : V.cell? ⟨P, 1, none⟩ = some (.int .i64 (rx : Int)) := by rw [cell_row hPV]; rfl
      have y0 : V.cell? ⟨b + 1, 0, none⟩ = some (.int .i64 0) := by rw [cell_row hIV.c4]; rfl
      have y1 : V.cell? ⟨b + 1, 1, none⟩ = some (.int .i64 0) := by rw [cell_row hIV.c4]; rfl
      have y2 : V.cell? ⟨b + 2, 0, none⟩ = some (.bool false) := by rw [cell_row hIV.c5]; rfl
      have f4 := fun q : Nat => frozen_row (k := q) hIV.c4
      have f5 := fun q : Nat => frozen_row (k := q) hIV.c5
      have hP4 := hIV.put4 (x : Int) (rx : Int)
      have hP5 := hP4.put5 true
      have HP55 := Lib.hid hP5
      have HkV := Lib.hid hkV
      clear hIV hPV hP4 hP5 hkV

      gi_wp2_with fail
      exact ⟨O, Grow.refl _ _ _, ((HkV.out.none.trans (((keeps_setCell V (b + 1) 0 (.int .i64 (x : Int))).trans (keeps_setCell _ (b + 1) 1 (.int .i64 (rx : Int)))).mono (fun j _ e => Or.inl (Or.inl e)))).trans ((keeps_setCell _ (b + 2) 0 (.bool true)).mono (fun j _ e => Or.inl (Or.inr e)))), by
        show LeO r M b w3 (bestQ sel r (x + 1)) _
        rw [Hbs.out]
        show LeI M b w3 (x : Int) (r x : Int) true _
        rw [Hrx.out]
        exact HP55.out⟩
    · have HI6 := Lib.hid (show LeI M b w3 (y : Int) (r y : Int) true w5 from HI5.out)
      obtain ⟨ry, hry⟩ : ∃ ry, r y = ry := ⟨_, rfl⟩
      rw [hry] at HI6
      have Hry := Lib.hid hry
      clear hry
      gi_wp2_with fail
      rename_i Q1 K1 hK1
      have HK1 := Lib.hid hK1
      clear hK1
      refine Code.wpIn_mono (Q := Exit.then K1 (fun _ _ _ => False)) (fun e a w h => by
        cases e with
        | normal => exact h
        | ret => exact h.elim
        | exit id => exact h.elim
        | goto l => exact h.elim
        | panic c => exact h.elim
        | outgrown => exact h.elim) ?_
      have hS0 : Keeps (fun _ => False) w5 w5.drew := Keeps.of_new (drew_b w5 1)
      refine region_R (z := 100) (S := fun W' => Keeps (fun _ => False) w5 W') (by kernel_rfl) ?_
      refine anyR_take (i := 0) (oi := { dst := some 9, op := Go.Op.load 4 (Go.Operand.tmp 5), type := 4, pos := "number.go:65", after := #[], guard := none }) (v := .bool true) rfl (by decide) (by kernel_rfl) (by kernel_rfl) (by kernel_rfl) (by kernel_rfl) (fun _ _ _ h => h) (Or.inl ⟨by rfl, by intro W' hSw; (try dsimp only at hSw); have y0 := (hSw.block _ (lt_of_block HI6.out.c5) (fun e => e)).trans HI6.out.c5; have y1 : W'.cell? ⟨b + 2, 0, none⟩ = some (.bool true) := by {rw [cell_row y0]; rfl}; go_simp⟩) hS0 ?_
      try simp only [Act.put, List.setIfInBounds_toArray, List.set_cons_zero, List.set_cons_succ]
      refine anyR_take (i := 1) (oi := { dst := some 10, op := Go.Op.unOp Go.UnOp.not 4 (Go.Operand.tmp 9), type := 4, pos := "number.go:65", after := #[{ on := 0, ground := Go.Ground.data }], guard := none }) (v := .bool false) rfl (by decide) (by kernel_rfl) (by kernel_rfl) (by kernel_rfl) (by kernel_rfl) (fun _ _ _ h => h) (Or.inl ⟨by rfl, by intro W' hSw; (try dsimp only at hSw); go_simp⟩) hS0 ?_
      try simp only [Act.put, List.setIfInBounds_toArray, List.set_cons_zero, List.set_cons_succ]
      refine anyR_take (i := 2) (oi := { dst := some 11, op := Go.Op.move (Go.Operand.tmp 10), type := 4, pos := "number.go:65", after := #[{ on := 1, ground := Go.Ground.data }], guard := none }) (v := .bool false) rfl (by decide) (by kernel_rfl) (by kernel_rfl) (by kernel_rfl) (by kernel_rfl) (fun _ _ _ h => h) (Or.inl ⟨by rfl, by intro W' hSw; (try dsimp only at hSw); go_simp⟩) hS0 ?_
      try simp only [Act.put, List.setIfInBounds_toArray, List.set_cons_zero, List.set_cons_succ]
      refine anyR_take (i := 3) (oi := { dst := some 12, op := Go.Op.load 83 (Go.Operand.tmp 3), type := 83, pos := "number.go:65", after := #[{ on := 2, ground := Go.Ground.guard }], guard := some (2, false) }) (v := .func (.func 59) #[] #[]) rfl (by decide) (by kernel_rfl) (by kernel_rfl) (by kernel_rfl) (by kernel_rfl) (fun _ _ _ h => h) (Or.inl ⟨by rfl, by intro W' hSw; (try dsimp only at hSw); have y0 := (hSw.block _ (lt_of_block HI6.out.c3) (fun e => e)).trans HI6.out.c3; have y1 : W'.cell? ⟨b, 0, none⟩ = some (.func (.func 59) #[] #[]) := by {rw [cell_row y0]; rfl}; go_simp⟩) hS0 ?_
      try simp only [Act.put, List.setIfInBounds_toArray, List.set_cons_zero, List.set_cons_succ]
      refine anyR_take (i := 4) (oi := { dst := some 13, op := Go.Op.load 77 (Go.Operand.tmp 6), type := 77, pos := "number.go:65", after := #[{ on := 2, ground := Go.Ground.guard }], guard := some (2, false) }) (v := .agg #[.int .i64 (x : Int), .int .i64 (rx : Int)]) rfl (by decide) (by kernel_rfl) (by kernel_rfl) (by kernel_rfl) (by kernel_rfl) (fun _ _ _ h => h) (Or.inl ⟨by rfl, by intro W' hSw; (try dsimp only at hSw); have y0 := (hSw.block _ (lt_of_block HP5.out) (fun e => e)).trans HP5.out; have y1 : W'.cell? ⟨P, 0, none⟩ = some (.int .i64 (x : Int)) := by {rw [cell_row y0]; rfl}; have y2 : W'.cell? ⟨P, 1, none⟩ = some (.int .i64 (rx : Int)) := by {rw [cell_row y0]; rfl}; go_simp⟩) hS0 ?_
      try simp only [Act.put, List.setIfInBounds_toArray, List.set_cons_zero, List.set_cons_succ]
      refine anyR_take (i := 6) (oi := { dst := some 15, op := Go.Op.load 83 (Go.Operand.tmp 3), type := 83, pos := "number.go:65", after := #[{ on := 2, ground := Go.Ground.guard }], guard := some (2, false) }) (v := .func (.func 59) #[] #[]) rfl (by decide) (by kernel_rfl) (by kernel_rfl) (by kernel_rfl) (by kernel_rfl) (fun _ _ _ h => h) (Or.inl ⟨by rfl, by intro W' hSw; (try dsimp only at hSw); have y0 := (hSw.block _ (lt_of_block HI6.out.c3) (fun e => e)).trans HI6.out.c3; have y1 : W'.cell? ⟨b, 0, none⟩ = some (.func (.func 59) #[] #[]) := by {rw [cell_row y0]; rfl}; go_simp⟩) hS0 ?_
      try simp only [Act.put, List.setIfInBounds_toArray, List.set_cons_zero, List.set_cons_succ]
      refine anyR_take (i := 7) (oi := { dst := some 16, op := Go.Op.load 77 (Go.Operand.tmp 4), type := 77, pos := "number.go:65", after := #[{ on := 2, ground := Go.Ground.guard }], guard := some (2, false) }) (v := .agg #[.int .i64 (y : Int), .int .i64 (ry : Int)]) rfl (by decide) (by kernel_rfl) (by kernel_rfl) (by kernel_rfl) (by kernel_rfl) (fun _ _ _ h => h) (Or.inl ⟨by rfl, by intro W' hSw; (try dsimp only at hSw); have y0 := (hSw.block _ (lt_of_block HI6.out.c4) (fun e => e)).trans HI6.out.c4; have y1 : W'.cell? ⟨b + 1, 0, none⟩ = some (.int .i64 (y : Int)) := by {rw [cell_row y0]; rfl}; have y2 : W'.cell? ⟨b + 1, 1, none⟩ = some (.int .i64 (ry : Int)) := by {rw [cell_row y0]; rfl}; go_simp⟩) hS0 ?_
      try simp only [Act.put, List.setIfInBounds_toArray, List.set_cons_zero, List.set_cons_succ]
      obtain ⟨X, hX⟩ : ∃ X, w5.drew = X := ⟨_, rfl⟩
      rw [hX] at hS0 ⊢
      clear hX
      refine anyR_one (i := 5) (by kernel_rfl) rfl (by rfl) ?_
      intro K hK
      have HKK := Lib.hid hK
      clear hK
      gi_wp2_with fail
      refine ⟨trivial, wide_d, CallsIn.inRound l2 ((callsIn_wide.2 (size59 (x : Int) (rx : Int) X)).mono ?_)⟩
      rintro e V1 ⟨rfl, hb1⟩
      have hS1 := hS0.trans (Keeps.of_new hb1)
      refine HKK.out _ _ (fun _ _ => hS1) ?_
      clear HKK K hb1 hS0
      try simp only [Act.put, List.setIfInBounds_toArray, List.set_cons_zero, List.set_cons_succ]
      refine anyR_one (i := 8) (by kernel_rfl) rfl (by rfl) ?_
      intro K hK
      have HKK := Lib.hid hK
      clear hK
      gi_wp2_with fail
      refine ⟨trivial, wide_d, CallsIn.inRound l2 ((callsIn_wide.2 (size59 (y : Int) (ry : Int) V1)).mono ?_)⟩
      rintro e V2 ⟨rfl, hb1⟩
      have hS0 := hS1.trans (Keeps.of_new hb1)
      refine HKK.out _ _ (fun _ _ => hS0) ?_
      clear HKK K hb1 hS1
      try simp only [Act.put, List.setIfInBounds_toArray, List.set_cons_zero, List.set_cons_succ]
      obtain ⟨V, hV⟩ : ∃ V, V2 = V := ⟨_, rfl⟩
      rw [hV] at hS0 ⊢
      clear hV
      by_cases hlt : rx < ry
      · have d0 : ((rx : Int) < (ry : Int)) := by omega
        have d1 : decide ((rx : Int) < (ry : Int)) = true := decide_eq_true d0
        refine anyR_take (i := 9) (oi := { dst := some 18, op := Go.Op.binOp Go.BinOp.lss 3 (Go.Operand.tmp 14) (Go.Operand.tmp 17) 3, type := 4, pos := "number.go:65", after := #[{ on := 5, ground := Go.Ground.data }, { on := 8, ground := Go.Ground.data }, { on := 2, ground := Go.Ground.guard }], guard := some (2, false) }) (v := .bool true) rfl (by decide) (by kernel_rfl) (by kernel_rfl) (by kernel_rfl) (by kernel_rfl) (fun _ _ _ h => h) (Or.inl ⟨by rfl, by intro W' hSw; (try dsimp only at hSw); go_simp⟩) hS0 ?_
        try simp only [Act.put, List.setIfInBounds_toArray, List.set_cons_zero, List.set_cons_succ]
        refine anyR_take (i := 10) (oi := { dst := some 19, op := Go.Op.pick (Go.Operand.tmp 11) (Go.Operand.const (Go.Value.bool true)) (Go.Operand.tmp 18), type := 4, pos := "number.go:65", after := #[{ on := 2, ground := Go.Ground.data }, { on := 9, ground := Go.Ground.data }], guard := none }) (v := .bool true) rfl (by decide) (by kernel_rfl) (by kernel_rfl) (by kernel_rfl) (by kernel_rfl) (fun _ _ _ h => h) (Or.inl ⟨by rfl, by intro W' hSw; (try dsimp only at hSw); go_simp⟩) hS0 ?_
        try simp only [Act.put, List.setIfInBounds_toArray, List.set_cons_zero, List.set_cons_succ]
        refine anyR_done (by kernel_rfl) ?_ _
        refine HK1.out _ _ ?_
        clear HK1
        have hkV := hS0
        clear hS0
        have hIV := LeI.below HI6.out hkV
        have hPV := (hkV.block _ (lt_of_block HP5.out) (fun e => e)).trans HP5.out
        have c60 : V.cell? ⟨P, 0, none⟩ = some (.int .i64 (x : Int)) := by rw [cell_row hPV]; rfl
        have c61 : V.cell? ⟨P, 1, none⟩ = some (.int .i64 (rx : Int)) := by rw [cell_row hPV]; rfl
        have y0 : V.cell? ⟨b + 1, 0, none⟩ = some (.int .i64 (y : Int)) := by rw [cell_row hIV.c4]; rfl
        have y1 : V.cell? ⟨b + 1, 1, none⟩ = some (.int .i64 (ry : Int)) := by rw [cell_row hIV.c4]; rfl
        have y2 : V.cell? ⟨b + 2, 0, none⟩ = some (.bool true) := by rw [cell_row hIV.c5]; rfl
        have f4 := fun q : Nat => frozen_row (k := q) hIV.c4
        have f5 := fun q : Nat => frozen_row (k := q) hIV.c5
        have hP4 := hIV.put4 (x : Int) (rx : Int)
        have hP5 := hP4.put5 true
        have HP55 := Lib.hid hP5
        have HkV := Lib.hid hkV
        clear hIV hPV hP4 hP5 hkV

        gi_wp2_with fail
        exact ⟨O, Grow.refl _ _ _, ((HkV.out.none.trans (((keeps_setCell V (b + 1) 0 (.int .i64 (x : Int))).trans (keeps_setCell _ (b + 1) 1 (.int .i64 (rx : Int)))).mono (fun j _ e => Or.inl (Or.inl e)))).trans ((keeps_setCell _ (b + 2) 0 (.bool true)).mono (fun j _ e => Or.inl (Or.inr e)))), by
          show LeO r M b w3 (bestQ sel r (x + 1)) _
          rw [Hbs.out]
          show LeO r M b w3 (if r x < r y then some x else some y) _
          rw [if_pos (by rw [Hrx.out, Hry.out]; exact hlt)]
          show LeI M b w3 (x : Int) (r x : Int) true _
          rw [Hrx.out]
          exact HP55.out⟩

      · have d0 : ¬ ((rx : Int) < (ry : Int)) := by omega
        have d1 : decide ((rx : Int) < (ry : Int)) = false := decide_eq_false d0
        refine anyR_take (i := 9) (oi := { dst := some 18, op := Go.Op.binOp Go.BinOp.lss 3 (Go.Operand.tmp 14) (Go.Operand.tmp 17) 3, type := 4, pos := "number.go:65", after := #[{ on := 5, ground := Go.Ground.data }, { on := 8, ground := Go.Ground.data }, { on := 2, ground := Go.Ground.guard }], guard := some (2, false) }) (v := .bool false) rfl (by decide) (by kernel_rfl) (by kernel_rfl) (by kernel_rfl) (by kernel_rfl) (fun _ _ _ h => h) (Or.inl ⟨by rfl, by intro W' hSw; (try dsimp only at hSw); go_simp⟩) hS0 ?_
        try simp only [Act.put, List.setIfInBounds_toArray, List.set_cons_zero, List.set_cons_succ]
        refine anyR_take (i := 10) (oi := { dst := some 19, op := Go.Op.pick (Go.Operand.tmp 11) (Go.Operand.const (Go.Value.bool true)) (Go.Operand.tmp 18), type := 4, pos := "number.go:65", after := #[{ on := 2, ground := Go.Ground.data }, { on := 9, ground := Go.Ground.data }], guard := none }) (v := .bool false) rfl (by decide) (by kernel_rfl) (by kernel_rfl) (by kernel_rfl) (by kernel_rfl) (fun _ _ _ h => h) (Or.inl ⟨by rfl, by intro W' hSw; (try dsimp only at hSw); go_simp⟩) hS0 ?_
        try simp only [Act.put, List.setIfInBounds_toArray, List.set_cons_zero, List.set_cons_succ]
        refine anyR_done (by kernel_rfl) ?_ _
        refine HK1.out _ _ ?_
        clear HK1
        have HkV := Lib.hid hS0
        clear hS0
        gi_wp2_with fail
        exact ⟨O, Grow.refl _ _ _, HkV.out.none, by
          show LeO r M b w3 (bestQ sel r (x + 1)) _
          rw [Hbs.out]
          show LeO r M b w3 (if r x < r y then some x else some y) _
          rw [if_neg (by rw [Hrx.out, Hry.out]; exact hlt)]
          show LeI M b w3 (y : Int) (r y : Int) true _
          rw [Hry.out]
          exact LeI.below HI6.out HkV.out⟩
end Go.Proofs.Ytnodkgejggnehaa

namespace Go.Proofs.Ytnodkgejggnehaa
set_option linter.unusedSimpArgs false
set_option linter.unusedVariables false
open Go.RowKit Go.Shelf
attribute [local go_sem ↓] exec_app at_app
attribute [local go_sem] Oper.semAt_some
/-- The question that is asked, if there is one. -/
def askQ (n : Nat) (zs : List Rg) (op : Nat → Bool) (J : List Nat) : Option Nat := bestQ (fun k => kindS n zs op J k == 1) (restS n zs op J) n
def askE : Option Nat → Int
  | none => 5
  | some _ => 0
theorem questions58 (B : Nat) (w : World) : Calls Try.prog 58 #[.pointer (some ⟨B, 0, none⟩)] w fun e w' => e = .returned (.func (.func 80) #[] #[.pointer (some ⟨w.heap.size, 0, none⟩)]) ∧ w'.cell? ⟨w.heap.size, 0, none⟩ = some (.pointer (some ⟨B, 0, none⟩)) ∧ Below w.heap.size w w' := by
  have hrV := heap_alloc_new_ w (.cells #[.pointer (some ⟨B, 0, none⟩)] 61)
  have hbV := below_alloc_ w (.cells #[.pointer (some ⟨B, 0, none⟩)] 61)
  have c1 : (w.alloc (.cells #[.pointer (some ⟨B, 0, none⟩)] 61)).cell? ⟨w.heap.size, 0, none⟩ = some (.pointer (some ⟨B, 0, none⟩)) := by rw [cell_row hrV]; rfl
  obtain ⟨V, hV⟩ : ∃ V, w.alloc (.cells #[.pointer (some ⟨B, 0, none⟩)] 61) = V := ⟨_, rfl⟩
  rw [hV] at hrV hbV c1
  have HV := Lib.hid hV
  clear hV
  go_enter Try.func58, Try.ntmps58
  go_wp2_with fail
  try rw [HV.out]
  try go_wp2_with fail
  go_ret
  exact ⟨rfl, c1, hbV⟩
set_option maxRecDepth 100000 in
set_option maxHeartbeats 16000000 in
theorem ask30_bad (sl sr : Int) (A : Option Addr) (n cap : Nat) (zs : List Rg) (A2 : Option Addr) (kn kc : Nat) (ks : List Int) (w : World) (h : Rgs w A n zs) (hI : Ints w A2 kn ks) (hc9 : n ≤ cap) (hn : n ≤ 1000000) (hk : kn ≤ 100000) (he : chkS sl sr zs ks ≠ 0) :
    Calls Try.prog 30 #[.agg #[.int .i64 sl, .int .i64 sr, .slice A n cap, .slice A2 kn kc]] w fun e w' => e = .returned (.tuple #[.int .i64 0, .int .i64 0, .int .i64 (chkS sl sr zs ks)]) ∧ Below w.heap.size w w' := by
  have hb0 := below_alloc_ w (.cells #[.int .i64 sl, .int .i64 sr, .slice A n cap, .slice A2 kn kc] 25)
  have hr0 := heap_alloc_new_ w (.cells #[.int .i64 sl, .int .i64 sr, .slice A n cap, .slice A2 kn kc] 25)
  obtain ⟨w0, hW0⟩ : ∃ w0, w.alloc (.cells #[.int .i64 sl, .int .i64 sr, .slice A n cap, .slice A2 kn kc] 25) = w0 := ⟨_, rfl⟩
  obtain ⟨R, hR⟩ : ∃ R, w.heap.size = R := ⟨_, rfl⟩
  rw [hW0] at hb0 hr0
  have k50 := join50_bad sl sr A n cap zs A2 kn kc ks w0 (h.below hb0 (Nat.le_refl _)) (hI.below hb0 (Nat.le_refl _)) hc9 hn hk he
  rw [hR] at hr0
  have x0 : w0.cell? ⟨R, 0, none⟩ = some (.int .i64 sl) := by rw [cell_row hr0]; rfl
  have x1 : w0.cell? ⟨R, 1, none⟩ = some (.int .i64 sr) := by rw [cell_row hr0]; rfl
  have x2 : w0.cell? ⟨R, 2, none⟩ = some (.slice A n cap) := by rw [cell_row hr0]; rfl
  have x3 : w0.cell? ⟨R, 3, none⟩ = some (.slice A2 kn kc) := by rw [cell_row hr0]; rfl
  have K50 := Lib.hid k50
  have HB := Lib.hid hb0
  have HW0 := Lib.hid hW0
  have HR := Lib.hid hR
  have Hne := Lib.hid he
  clear h hI hb0 hr0 hW0 hR k50
  go_enter Try.func30, Try.ntmps30
  go_wp2_with fail
  try rw [HW0.out]
  try rw [HR.out]
  try go_wp2_with fail
  refine K50.out.mono ?_
  rintro en w1 ⟨rfl, hb1⟩
  have HB1 := Lib.hid (HB.out.trans (hb1.mono HB.out.size))
  clear K50 hb1 x0 x1 x2 x3 he
  have d1 : (chkS sl sr zs ks != 0) = true := by rw [bne_iff_ne]; exact Hne.out
  obtain ⟨q, hq⟩ : ∃ q, chkS sl sr zs ks = q := ⟨_, rfl⟩
  rw [hq] at d1 ⊢
  have Hq := Lib.hid hq
  clear hq
  go_wp2_with fail
  go_ret3
  exact ⟨by rw [Hq.out]; rfl, HB1.out⟩
set_option maxRecDepth 100000 in
set_option maxHeartbeats 16000000 in
theorem ask30 (sl sr : Int) (A : Option Addr) (n cap : Nat) (zs : List Rg) (A2 : Option Addr) (kn kc : Nat) (ks : List Int) (w : World) (h : Rgs w A n zs) (hI : Ints w A2 kn ks) (hc9 : n ≤ cap) (hn : n ≤ 1000000) (hk : kn ≤ 100000) (he : chkS sl sr zs ks = 0) :
    Calls Try.prog 30 #[.agg #[.int .i64 sl, .int .i64 sr, .slice A n cap, .slice A2 kn kc]] w fun e w' => e = .returned (.tuple #[.int .i64 (bestA (askQ n zs (opnL n zs ks) (kNt ks))), .int .i64 (bestB (restS n zs (opnL n zs ks) (kNt ks)) (askQ n zs (opnL n zs ks) (kNt ks))), .int .i64 (askE (askQ n zs (opnL n zs ks) (kNt ks)))]) ∧ Below w.heap.size w w' := by
  have hb0 := below_alloc_ w (.cells #[.int .i64 sl, .int .i64 sr, .slice A n cap, .slice A2 kn kc] 25)
  have hr0 := heap_alloc_new_ w (.cells #[.int .i64 sl, .int .i64 sr, .slice A n cap, .slice A2 kn kc] 25)
  obtain ⟨w0, hW0⟩ : ∃ w0, w.alloc (.cells #[.int .i64 sl, .int .i64 sr, .slice A n cap, .slice A2 kn kc] 25) = w0 := ⟨_, rfl⟩
  obtain ⟨R, hR⟩ : ∃ R, w.heap.size = R := ⟨_, rfl⟩
  rw [hW0] at hb0 hr0
  have k50 := join50 sl sr A n cap zs A2 kn kc ks w0 (h.below hb0 (Nat.le_refl _)) (hI.below hb0 (Nat.le_refl _)) hc9 hn hk he
  rw [hR] at hr0
  have x0 : w0.cell? ⟨R, 0, none⟩ = some (.int .i64 sl) := by rw [cell_row hr0]; rfl
  have x1 : w0.cell? ⟨R, 1, none⟩ = some (.int .i64 sr) := by rw [cell_row hr0]; rfl
  have x2 : w0.cell? ⟨R, 2, none⟩ = some (.slice A n cap) := by rw [cell_row hr0]; rfl
  have x3 : w0.cell? ⟨R, 3, none⟩ = some (.slice A2 kn kc) := by rw [cell_row hr0]; rfl
  have K50 := Lib.hid k50
  have HB := Lib.hid hb0
  have HW0 := Lib.hid hW0
  have HR := Lib.hid hR
  have hsg := shg_of he
  have hzl := h.1
  have Hsg := Lib.hid hsg
  have Hzl := Lib.hid hzl
  clear hsg hzl he
  clear h hI hb0 hr0 hW0 hR k50
  go_enter Try.func30, Try.ntmps30
  go_wp2_with fail
  try rw [HW0.out]
  try rw [HR.out]
  try go_wp2_with fail
  refine K50.out.mono ?_
  rintro en w1 ⟨B, M, pt, lk, rfl, hB, hM, hb, hm, hgb, hb1⟩
  have hz : ZOk n zs := by rw [← Hzl.out]; exact Hsg.out.zok
  have hn40 : n ≤ 40 := by have := Hsg.out.n40; have := Hzl.out; omega
  obtain ⟨c, hc, hc12⟩ : ∃ c : Nat, sl = (c : Int) ∧ c ≤ 12 := ⟨sl.toNat, by have := Hsg.out.rng; omega, by have := Hsg.out.rng; omega⟩
  have he0 : ∀ k, k < n → eN zs 0 k < c := fun k hk => by have := Hsg.out.e0 k (by rw [Hzl.out]; exact hk); omega
  have k58 := questions58 B w1
  have K58 := Lib.hid k58
  have HMs := Lib.hid hM
  have HB1 := Lib.hid (HB.out.trans (hb1.mono HB.out.size))
  have Hb := Lib.hid hb
  have Hm := Lib.hid hm
  have Hgb := Lib.hid hgb
  have Hz := Lib.hid hz
  have Hc := Lib.hid hc
  have He0 := Lib.hid he0
  clear K50 hb1 x0 x1 x2 x3 hb hm hgb hz hc he0 k58 hM hB
  go_wp2_with fail
  refine K58.out.mono ?_
  rintro en w2 ⟨rfl, hc2, hb2⟩
  obtain ⟨o, ho⟩ : ∃ o, askQ n zs (opnL n zs ks) (kNt ks) = o := ⟨_, rfl⟩
  have k57 := least57 80 #[.pointer (some ⟨w1.heap.size, 0, none⟩)] (enters_of Try.func80 (by kernel_rfl) rfl) n M (fun k => kindS n zs (opnL n zs ks) (kNt ks) k == 1) (restS n zs (opnL n zs ks) (kNt ks)) (fun j => j < w1.heap.size ∨ j = w1.heap.size) w2 (Nat.lt_of_lt_of_le Hm.out.lt hb2.size) (fun j hj => by
      have h9 := lt_of_cell hc2
      change w1.heap.size < w2.heap.size at h9
      rcases hj with hj | hj <;> omega) (fun W hW => quest80 B sl sr A n cap zs A2 kn kc ks pt (opnL n zs ks) M lk (kNt ks) c w1 Hb.out Hm.out Hgb.out hn40 Hz.out Hc.out hc12 He0.out W (hb2.trans (hW.mono hb2.size)) w1.heap.size ((hW.cell (lt_of_cell hc2)).trans hc2) (Nat.le_refl _))
  change Calls Try.prog 57 _ w2 fun e w' => e = .returned (.tuple #[.agg #[.int .i64 (bestA (askQ n zs (opnL n zs ks) (kNt ks))), .int .i64 (bestB (restS n zs (opnL n zs ks) (kNt ks)) (askQ n zs (opnL n zs ks) (kNt ks)))], .bool (askQ n zs (opnL n zs ks) (kNt ks)).isSome]) ∧ Keeps (fun j => j = M) w2 w' at k57
  rw [ho] at k57
  have Ho := Lib.hid ho
  obtain ⟨va, hva⟩ : ∃ v, bestA o = v := ⟨_, rfl⟩
  obtain ⟨vb, hvb⟩ : ∃ v, bestB (restS n zs (opnL n zs ks) (kNt ks)) o = v := ⟨_, rfl⟩
  rw [hva, hvb] at k57
  have K57 := Lib.hid k57
  have Hva := Lib.hid hva
  have Hvb := Lib.hid hvb
  have HB2 := Lib.hid (HB1.out.trans (hb2.mono HB1.out.size))
  clear K58 hc2 hb2 k57 hva hvb ho Hb Hm Hgb Hz Hc He0
  go_wp2_with fail
  refine K57.out.mono ?_
  rintro en w3 ⟨rfl, hk3⟩
  have H3 := Lib.hid (show Below w.heap.size w w3 from HB2.out.trans (hk3.below HB2.out.size (fun j hj e => by have := HMs.out; have := HB.out.size; omega)))
  clear K57 hk3
  have hb4 := below_alloc_ w3 (.cells #[.int .i64 va, .int .i64 vb] 77)
  have hr4 := heap_alloc_new_ w3 (.cells #[.int .i64 va, .int .i64 vb] 77)
  obtain ⟨w4, hw4⟩ : ∃ w4, w3.alloc (.cells #[.int .i64 va, .int .i64 vb] 77) = w4 := ⟨_, rfl⟩
  obtain ⟨Z, hZ⟩ : ∃ Z, w3.heap.size = Z := ⟨_, rfl⟩
  rw [hw4] at hb4 hr4
  rw [hZ] at hr4
  have z0 : w4.cell? ⟨Z, 0, none⟩ = some (.int .i64 va) := by rw [cell_row hr4]; rfl
  have z1 : w4.cell? ⟨Z, 1, none⟩ = some (.int .i64 vb) := by rw [cell_row hr4]; rfl
  have H4 := Lib.hid (H3.out.trans (hb4.mono H3.out.size))
  have HW4 := Lib.hid hw4
  have HZ := Lib.hid hZ
  clear hb4 hr4 hw4 hZ
  rcases o with _ | y
  · go_wp2_with fail
    rw [HW4.out]
    go_ret3
    exact ⟨by rw [Ho.out]; rfl, H4.out⟩
  · go_wp2_with fail
    rw [HW4.out, HZ.out]
    go_quiet (fail)
    go_wp2_with fail
    go_ret3
    exact ⟨by rw [Ho.out, Hva.out, Hvb.out]; rfl, H4.out.trans ((drew_b w4 _).mono H4.out.size)⟩
end Go.Proofs.Ytnodkgejggnehaa
