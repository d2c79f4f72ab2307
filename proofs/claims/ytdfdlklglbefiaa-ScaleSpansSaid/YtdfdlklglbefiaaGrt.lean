/- Stage 3: greatest: the first one of the greatest choices. -/
import Derived.Test.YtdfdlklglbefiaaLgs
namespace Go.Proofs.Ytdfdlklglbefiaa
set_option linter.unusedSimpArgs false
set_option linter.unusedVariables false
open Go.RowKit Go.Shelf
attribute [local go_sem] Oper.semAt_some

def bstV (o : Option Chc) : Array Value := match o with
  | none => #[.slice none 0 0, .int .i64 0]
  | some b => #[.slice b.A b.st.length b.cp, .int .i64 (b.m : Int)]
/-- What the rounds of greatest keep. -/
structure GrI (N : Nat) (V : World) (pre : List Chc) (W : World) : Prop where
  best : W.heap[N + 1]? = some (.cells (bstV (grt pre)) 96 (0, 0))
  ok : W.heap[N + 2]? = some (.cells #[.bool (grt pre).isSome] 4 (0, 0))
  keep : Keeps (fun k => k = N + 1 ∨ k = N + 2) V W
theorem GrI.abides {N : Nat} {V : World} {B0 : Nat} (h1 : N + 2 < B0) (h2 : V.heap.size ≤ B0) (pre : List Chc) : Abides B0 (GrI N V pre) := fun A B h hK =>
  ⟨(hK.block _ (lt_of_block h.best) (by omega)).trans h.best, (hK.block _ (lt_of_block h.ok) (by omega)).trans h.ok, keeps_abides h2 _ _ h.keep hK⟩
theorem res71 {tmps : Array Value} {W : World} {T U : Nat} {v x : Value} {b : Bool} (h4 : tmps.getD 4 undef = .pointer (some ⟨T, 0, none⟩)) (h5 : tmps.getD 5 undef = .pointer (some ⟨U, 0, none⟩)) (hT : W.heap[T]? = some (.cells #[v, x] 96 (0, 0))) (hU : W.heap[U]? = some (.cells #[.bool b] 4 (0, 0))) :
    (results Try.f71 tmps).run Try.prog W = .ok (.tuple #[.agg #[v, x], .bool b]) W := by
  have z0 : W.cell? ⟨T, 0, none⟩ = some v := by rw [cell_row hT]; rfl
  have z1 : W.cell? ⟨T, 1, none⟩ = some x := by rw [cell_row hT]; rfl
  have z2 : W.cell? ⟨U, 0, none⟩ = some (.bool b) := by rw [cell_row hU]; rfl
  rw [Array.getD_eq_getD_getElem?] at h4 h5
  simp only [results, Try.results71]
  simp [go_sem, h4, h5, z0, z1, z2]
theorem grt_set {X : World} {N ln cp m : Nat} {A : Option Addr} {c : Array Value} {b : Bool} (h1 : X.heap[N + 1]? = some (.cells c 96 (0, 0))) (hc : c.size = 2) (h2 : X.heap[N + 2]? = some (.cells #[.bool b] 4 (0, 0))) :
    (((X.setCell ⟨N + 1, 0, none⟩ (.slice A ln cp)).setCell ⟨N + 1, 1, none⟩ (.int .i64 (m : Int))).setCell ⟨N + 2, 0, none⟩ (.bool true)).heap[N + 1]? = some (.cells #[.slice A ln cp, .int .i64 (m : Int)] 96 (0, 0)) ∧
    (((X.setCell ⟨N + 1, 0, none⟩ (.slice A ln cp)).setCell ⟨N + 1, 1, none⟩ (.int .i64 (m : Int))).setCell ⟨N + 2, 0, none⟩ (.bool true)).heap[N + 2]? = some (.cells #[.bool true] 4 (0, 0)) ∧
    Keeps (fun k => k = N + 1 ∨ k = N + 2) X (((X.setCell ⟨N + 1, 0, none⟩ (.slice A ln cp)).setCell ⟨N + 1, 1, none⟩ (.int .i64 (m : Int))).setCell ⟨N + 2, 0, none⟩ (.bool true)) := by
  have k1 := keeps_setCell X (N + 1) 0 (.slice A ln cp)
  have k2 := keeps_setCell (X.setCell ⟨N + 1, 0, none⟩ (.slice A ln cp)) (N + 1) 1 (.int .i64 (m : Int))
  have k3 := keeps_setCell ((X.setCell ⟨N + 1, 0, none⟩ (.slice A ln cp)).setCell ⟨N + 1, 1, none⟩ (.int .i64 (m : Int))) (N + 2) 0 (.bool true)
  have s2 := set_same 1 (.int .i64 (m : Int)) (set_same 0 (.slice A ln cp) h1)
  have hU : ((X.setCell ⟨N + 1, 0, none⟩ (.slice A ln cp)).setCell ⟨N + 1, 1, none⟩ (.int .i64 (m : Int))).heap[N + 2]? = some (.cells #[.bool b] 4 (0, 0)) :=
    (k2.block _ (Nat.lt_of_lt_of_le (lt_of_block h2) k1.size) (by omega)).trans ((k1.block _ (lt_of_block h2) (by omega)).trans h2)
  refine ⟨(k3.block _ (lt_of_block s2) (by omega)).trans (s2.trans ?_), (set_same 0 (.bool true) hU).trans (by simp), ((k1.mono (fun _ _ h => .inl h)).trans (k2.mono (fun _ _ h => .inl h))).trans (k3.mono (fun _ _ h => .inr h))⟩
  congr 2
  refine Array.ext (by simp [hc]) (fun i h3 h4 => ?_)
  simp only [Array.size_setIfInBounds, hc] at h3
  rcases (by omega : i = 0 ∨ i = 1) with rfl | rfl <;> simp [hc]
set_option maxRecDepth 100000 in
set_option maxHeartbeats 40000000 in
theorem greatest71 (lb : Array Value) (xs : List Chc) (w : World) (hseq : ∀ V, Below w.heap.size w V → SeqL Try.prog 92 lb encC xs (fun k => k < w.heap.size) V) :
    Calls Try.prog 71 #[.func (.func 92) #[] lb, .func (.func 73) #[] #[]] w fun en W' => en = .returned (.tuple #[.agg (bstV (grt xs)), .bool (grt xs).isSome]) ∧ Below w.heap.size w W' := by
  have HQ := Lib.hid hseq
  clear hseq
  refine (callsIn_wide (n := 5)).1 ?_
  refine callsIn_of_wp_marks Try.func71 rfl trivial ?_ rfl
  simp only [Try.ntmps71, List.size_toArray, List.length_cons, List.length_nil, Nat.reduceAdd, Nat.reduceSub, Array.replicate_succ, Array.replicate_zero, List.push_toArray, List.append_toArray, List.nil_append, List.cons_append]
  gi_wp2_with fail
  obtain ⟨N, hN⟩ : ∃ N, w.heap.size = N := ⟨_, rfl⟩
  have hkV : Keeps (fun _ => False) w (((w.alloc (.cells #[.func (.func 73) #[] #[]] 122)).alloc (.cells #[.slice none 0 0, .int .i64 0] 96)).alloc (.cells #[.bool false] 4)) := ((keep_alloc _ _ _).trans (keep_alloc _ _ _)).trans (keep_alloc _ _ _)
  have e0 : (((w.alloc (.cells #[.func (.func 73) #[] #[]] 122)).alloc (.cells #[.slice none 0 0, .int .i64 0] 96)).alloc (.cells #[.bool false] 4)).heap[w.heap.size]? = some (.cells #[.func (.func 73) #[] #[]] 122 (0, 0)) := hal_old (hal_old (heap_alloc_new_ _ _))
  have e1 : (((w.alloc (.cells #[.func (.func 73) #[] #[]] 122)).alloc (.cells #[.slice none 0 0, .int .i64 0] 96)).alloc (.cells #[.bool false] 4)).heap[w.heap.size + 1]? = some (.cells #[.slice none 0 0, .int .i64 0] 96 (0, 0)) := hal_old (hal_new (by simp))
  have e2 : (((w.alloc (.cells #[.func (.func 73) #[] #[]] 122)).alloc (.cells #[.slice none 0 0, .int .i64 0] 96)).alloc (.cells #[.bool false] 4)).heap[w.heap.size + 2]? = some (.cells #[.bool false] 4 (0, 0)) := hal_new (by simp)
  have hsV := eq_le (show (((w.alloc (.cells #[.func (.func 73) #[] #[]] 122)).alloc (.cells #[.slice none 0 0, .int .i64 0] 96)).alloc (.cells #[.bool false] 4)).heap.size = w.heap.size + 3 by simp)
  obtain ⟨V, hV⟩ : ∃ V, ((w.alloc (.cells #[.func (.func 73) #[] #[]] 122)).alloc (.cells #[.slice none 0 0, .int .i64 0] 96)).alloc (.cells #[.bool false] 4) = V := ⟨_, rfl⟩
  rw [hV] at hkV e0 e1 e2 hsV ⊢
  rw [hN] at e0 e1 e2 hsV ⊢
  have hseq := HQ.out V hkV.new
  have HkV := Lib.hid hkV
  have HN := Lib.hid hN
  have E0 := Lib.hid e0
  rw [hN] at hseq
  have h0 : GrI N V [] V := ⟨e1, e2, Keeps.refl _ _⟩
  clear hV hN hkV e0 e1 e2 HQ
  refine wpIn_rangeL (gf := 92) (lb := lb) rfl (enters_of Try.func92 (by kernel_rfl) rfl) hseq (fun k h => by omega) (fun _ => rfl) (fun k => k = N + 1 ∨ k = N + 2) (fun k hk => ⟨by omega, by omega⟩)
    (GrI N V) (fun _ _ _ => False) (fun pre => GrI.abides (by omega) (Nat.le_refl _) pre) (fun _ _ _ _ h _ => h) h0 ?round ?done ?stop
  case stop => rintro D2 cd pre b post W' _ _ _ h; exact h.elim
  case round =>
    intro l pre x post W hxs hl1 hl2 hr hI m0
    obtain ⟨st, A, cp, m⟩ := x
    unfold encC chV
    simp only
    obtain ⟨ln, hln⟩ : ∃ ln, st.length = ln := ⟨_, rfl⟩
    rw [hln]
    have Hln := Lib.hid hln
    have Hby := Lib.hid (heap_alloc_new_ W (.cells #[.slice A ln cp, .int .i64 (m : Int)] 96))
    have E0W := Lib.hid ((hI.keep.block _ (lt_of_block E0.out) (by omega)).trans E0.out)
    clear hln hxs hr hI
    gi_wp2_with fail
    refine ⟨keep_alloc _ _ _, ?_⟩
    intro W2 hB2 hI2
    have FT := (hB2.keeps.block _ (by simp) (by omega)).trans Hby.out
    have FF := (hB2.keeps.block _ (Nat.lt_trans (lt_of_block E0W.out) (by simp)) (by have := lt_of_block E0W.out; omega)).trans (((keep_alloc (fun _ => False) W (.cells #[.slice A ln cp, .int .i64 (m : Int)] 96)).block _ (lt_of_block E0W.out) (fun e => e)).trans E0W.out)
    obtain ⟨T, hT⟩ : ∃ T, W.heap.size = T := ⟨_, rfl⟩
    rw [hT] at FT ⊢
    have hTN : N + 3 ≤ T := by omega
    have HI2 := Lib.hid hI2
    have hbest := hI2.best
    have hok := hI2.ok
    have HFT := Lib.hid FT
    clear hT hB2 hI2 hl1 hl2 hseq h0
    cases hg : grt pre with
    | none =>
      rw [hg] at hbest hok
      have Hg := Lib.hid hg
      simp only [Option.isSome_none] at hok
      unfold bstV at hbest
      simp only at hbest
      have q0 : W2.drew.cell? ⟨N + 2, 0, none⟩ = some (.bool false) := by rw [cell_row (show W2.drew.heap[N + 2]? = _ from hok)]; rfl
      have Hbest := Lib.hid hbest
      have Hok := Lib.hid hok
      clear hg hbest hok FT FF
      gi_wp2_with fail
      have hS0 : W2.drew = W2.drew := rfl
      refine region_R (z := 100) (S := fun W' => W' = W2.drew) (by kernel_rfl) ?_
      refine anyR_take (i := 0) (oi := { dst := some 9, op := Go.Op.load 4 (Go.Operand.tmp 5), type := 4, pos := "number.go:33", after := #[], guard := none }) (v := .bool false) rfl (by decide) (by kernel_rfl) (by kernel_rfl) (by kernel_rfl) (by kernel_rfl) (fun _ _ _ h => h) (Or.inl ⟨by rfl, by intro W' hSw; (try dsimp only at hSw); go_simp⟩) hS0 ?_
      try simp only [Act.put, List.setIfInBounds_toArray, List.set_cons_zero, List.set_cons_succ]
      refine anyR_take (i := 1) (oi := { dst := some 10, op := Go.Op.unOp Go.UnOp.not 4 (Go.Operand.tmp 9), type := 4, pos := "number.go:33", after := #[{ on := 0, ground := Go.Ground.data }], guard := none }) (v := .bool true) rfl (by decide) (by kernel_rfl) (by kernel_rfl) (by kernel_rfl) (by kernel_rfl) (fun _ _ _ h => h) (Or.inl ⟨by rfl, by intro W' hSw; (try dsimp only at hSw); go_simp⟩) hS0 ?_
      try simp only [Act.put, List.setIfInBounds_toArray, List.set_cons_zero, List.set_cons_succ]
      refine anyR_take (i := 2) (oi := { dst := some 11, op := Go.Op.move (Go.Operand.tmp 10), type := 4, pos := "number.go:33", after := #[{ on := 1, ground := Go.Ground.data }], guard := none }) (v := .bool true) rfl (by decide) (by kernel_rfl) (by kernel_rfl) (by kernel_rfl) (by kernel_rfl) (fun _ _ _ h => h) (Or.inl ⟨by rfl, by intro W' hSw; (try dsimp only at hSw); go_simp⟩) hS0 ?_
      try simp only [Act.put, List.setIfInBounds_toArray, List.set_cons_zero, List.set_cons_succ]
      refine anyR_take (i := 3) (oi := { dst := some 12, op := Go.Op.load 122 (Go.Operand.tmp 3), type := 122, pos := "number.go:33", after := #[{ on := 2, ground := Go.Ground.guard }], guard := some (2, false) }) (v := undef) rfl (by decide) (by kernel_rfl) (by kernel_rfl) (by kernel_rfl) (by kernel_rfl) (fun _ _ _ h => h) (Or.inr ⟨by rfl, rfl⟩) hS0 ?_
      try simp only [Act.put, List.setIfInBounds_toArray, List.set_cons_zero, List.set_cons_succ]
      refine anyR_take (i := 4) (oi := { dst := some 13, op := Go.Op.load 96 (Go.Operand.tmp 6), type := 96, pos := "number.go:33", after := #[{ on := 2, ground := Go.Ground.guard }], guard := some (2, false) }) (v := undef) rfl (by decide) (by kernel_rfl) (by kernel_rfl) (by kernel_rfl) (by kernel_rfl) (fun _ _ _ h => h) (Or.inr ⟨by rfl, rfl⟩) hS0 ?_
      try simp only [Act.put, List.setIfInBounds_toArray, List.set_cons_zero, List.set_cons_succ]
      refine anyR_take (i := 5) (oi := { dst := some 14, op := Go.Op.call { callee := Go.Callee.value (Go.Operand.tmp 12), args := #[Go.Operand.tmp 13], argTypes := #[96] }, type := 3, pos := "number.go:33", after := #[{ on := 3, ground := Go.Ground.data }, { on := 4, ground := Go.Ground.data }, { on := 2, ground := Go.Ground.chain }, { on := 2, ground := Go.Ground.guard }], guard := some (2, false) }) (v := undef) rfl (by decide) (by kernel_rfl) (by kernel_rfl) (by kernel_rfl) (by kernel_rfl) (fun _ _ _ h => h) (Or.inr ⟨by rfl, rfl⟩) hS0 ?_
      try simp only [Act.put, List.setIfInBounds_toArray, List.set_cons_zero, List.set_cons_succ]
      refine anyR_take (i := 6) (oi := { dst := some 15, op := Go.Op.load 122 (Go.Operand.tmp 3), type := 122, pos := "number.go:33", after := #[{ on := 2, ground := Go.Ground.guard }], guard := some (2, false) }) (v := undef) rfl (by decide) (by kernel_rfl) (by kernel_rfl) (by kernel_rfl) (by kernel_rfl) (fun _ _ _ h => h) (Or.inr ⟨by rfl, rfl⟩) hS0 ?_
      try simp only [Act.put, List.setIfInBounds_toArray, List.set_cons_zero, List.set_cons_succ]
      refine anyR_take (i := 7) (oi := { dst := some 16, op := Go.Op.load 96 (Go.Operand.tmp 4), type := 96, pos := "number.go:33", after := #[{ on := 2, ground := Go.Ground.guard }], guard := some (2, false) }) (v := undef) rfl (by decide) (by kernel_rfl) (by kernel_rfl) (by kernel_rfl) (by kernel_rfl) (fun _ _ _ h => h) (Or.inr ⟨by rfl, rfl⟩) hS0 ?_
      try simp only [Act.put, List.setIfInBounds_toArray, List.set_cons_zero, List.set_cons_succ]
      refine anyR_take (i := 8) (oi := { dst := some 17, op := Go.Op.call { callee := Go.Callee.value (Go.Operand.tmp 15), args := #[Go.Operand.tmp 16], argTypes := #[96] }, type := 3, pos := "number.go:33", after := #[{ on := 6, ground := Go.Ground.data }, { on := 7, ground := Go.Ground.data }, { on := 5, ground := Go.Ground.chain }, { on := 2, ground := Go.Ground.guard }], guard := some (2, false) }) (v := undef) rfl (by decide) (by kernel_rfl) (by kernel_rfl) (by kernel_rfl) (by kernel_rfl) (fun _ _ _ h => h) (Or.inr ⟨by rfl, rfl⟩) hS0 ?_
      try simp only [Act.put, List.setIfInBounds_toArray, List.set_cons_zero, List.set_cons_succ]
      refine anyR_take (i := 9) (oi := { dst := some 18, op := Go.Op.binOp Go.BinOp.gtr 3 (Go.Operand.tmp 14) (Go.Operand.tmp 17) 3, type := 4, pos := "number.go:33", after := #[{ on := 5, ground := Go.Ground.data }, { on := 8, ground := Go.Ground.data }, { on := 2, ground := Go.Ground.guard }], guard := some (2, false) }) (v := undef) rfl (by decide) (by kernel_rfl) (by kernel_rfl) (by kernel_rfl) (by kernel_rfl) (fun _ _ _ h => h) (Or.inr ⟨by rfl, rfl⟩) hS0 ?_
      try simp only [Act.put, List.setIfInBounds_toArray, List.set_cons_zero, List.set_cons_succ]
      refine anyR_take (i := 10) (oi := { dst := some 19, op := Go.Op.pick (Go.Operand.tmp 11) (Go.Operand.const (Go.Value.bool true)) (Go.Operand.tmp 18), type := 4, pos := "number.go:33", after := #[{ on := 2, ground := Go.Ground.data }, { on := 9, ground := Go.Ground.data }], guard := none }) (v := .bool true) rfl (by decide) (by kernel_rfl) (by kernel_rfl) (by kernel_rfl) (by kernel_rfl) (fun _ _ _ h => h) (Or.inl ⟨by rfl, by intro W' hSw; (try dsimp only at hSw); go_simp⟩) hS0 ?_
      try simp only [Act.put, List.setIfInBounds_toArray, List.set_cons_zero, List.set_cons_succ]
      refine anyR_done (by kernel_rfl) ?_ _
      clear q0 hS0
      obtain ⟨X, hX⟩ : ∃ X, W2.drew = X := ⟨_, rfl⟩
      have hXk : Keeps (fun _ => False) W2 X := by rw [← hX]; exact Keeps.of_new (drew_b W2 1)
      have fT := (hXk.block _ (lt_of_block HFT.out) (fun e => e)).trans HFT.out
      have fB := (hXk.block _ (lt_of_block Hbest.out) (fun e => e)).trans Hbest.out
      have fO := (hXk.block _ (lt_of_block Hok.out) (fun e => e)).trans Hok.out
      have hgs := grt_set (A := A) (ln := ln) (cp := cp) (m := m) fB rfl fO
      have c0 : X.cell? ⟨T, 0, none⟩ = some (.slice A ln cp) := by rw [cell_row fT]; rfl
      have c1 : X.cell? ⟨T, 1, none⟩ = some (.int .i64 (m : Int)) := by rw [cell_row fT]; rfl
      have d0 : X.cell? ⟨N + 1, 0, none⟩ = some (.slice none 0 0) := by rw [cell_row fB]; rfl
      have d1 : X.cell? ⟨N + 1, 1, none⟩ = some (.int .i64 0) := by rw [cell_row fB]; rfl
      have d2 : X.cell? ⟨N + 2, 0, none⟩ = some (.bool false) := by rw [cell_row fO]; rfl
      have z0 : X.frozen? ⟨N + 1, 0, none⟩ = false := frozen_row fB
      have z1 : X.frozen? ⟨N + 1, 1, none⟩ = false := frozen_row fB
      have z2 : X.frozen? ⟨N + 2, 0, none⟩ = false := frozen_row fO
      have Hgs := Lib.hid hgs
      have HXk := Lib.hid hXk
      rw [hX]
      clear hX hXk fT fB fO hgs
      gi_wp2_with fail
      obtain ⟨g1, g2, g3⟩ := Hgs.out
      have hk := HXk.out.none.trans g3
      have hgr : grt (pre ++ [⟨st, A, cp, m⟩]) = some ⟨st, A, cp, m⟩ := by rw [grt_snoc, Hg.out]; rfl
      exact ⟨hk, ⟨by rw [hgr]; unfold bstV; simp only; rw [Hln.out]; exact g1, by rw [hgr]; exact g2, HI2.out.keep.trans hk⟩⟩
    | some b =>
      obtain ⟨st1, A1, cp1, m1⟩ := b
      rw [hg] at hbest hok
      have Hg := Lib.hid hg
      simp only [Option.isSome_some] at hok
      unfold bstV at hbest
      simp only at hbest
      obtain ⟨ln1, hln1⟩ : ∃ ln1, st1.length = ln1 := ⟨_, rfl⟩
      rw [hln1] at hbest
      have Hln1 := Lib.hid hln1
      have HS : Hid (∀ W', Keeps (fun _ => False) W2 W' → (W'.cell? ⟨N + 2, 0, none⟩ = some (.bool true) ∧ W'.cell? ⟨N, 0, none⟩ = some (.func (.func 73) #[] #[]) ∧ W'.cell? ⟨T, 0, none⟩ = some (.slice A ln cp) ∧ W'.cell? ⟨T, 1, none⟩ = some (.int .i64 (m : Int)) ∧ W'.cell? ⟨N + 1, 0, none⟩ = some (.slice A1 ln1 cp1) ∧ W'.cell? ⟨N + 1, 1, none⟩ = some (.int .i64 (m1 : Int)))) := Lib.hid fun W' hk => by
        have g1 := (hk.block _ (lt_of_block hok) (fun e => e)).trans hok
        have g2 := (hk.block _ (lt_of_block FF) (fun e => e)).trans FF
        have g3 := (hk.block _ (lt_of_block FT) (fun e => e)).trans FT
        have g4 := (hk.block _ (lt_of_block hbest) (fun e => e)).trans hbest
        exact ⟨by rw [cell_row g1]; rfl, by rw [cell_row g2]; rfl, by rw [cell_row g3]; rfl, by rw [cell_row g3]; rfl, by rw [cell_row g4]; rfl, by rw [cell_row g4]; rfl⟩
      have Hbest := Lib.hid hbest
      have Hok := Lib.hid hok
      clear hg hbest hok FT FF hln1
      gi_wp2_with fail
      have hS0 := HS.out W2.drew (Keeps.of_new (drew_b W2 1))
      refine region_R (z := 100) (S := fun W' => W'.cell? ⟨N + 2, 0, none⟩ = some (.bool true) ∧ W'.cell? ⟨N, 0, none⟩ = some (.func (.func 73) #[] #[]) ∧ W'.cell? ⟨T, 0, none⟩ = some (.slice A ln cp) ∧ W'.cell? ⟨T, 1, none⟩ = some (.int .i64 (m : Int)) ∧ W'.cell? ⟨N + 1, 0, none⟩ = some (.slice A1 ln1 cp1) ∧ W'.cell? ⟨N + 1, 1, none⟩ = some (.int .i64 (m1 : Int))) (by kernel_rfl) ?_
      refine anyR_take (i := 0) (oi := { dst := some 9, op := Go.Op.load 4 (Go.Operand.tmp 5), type := 4, pos := "number.go:33", after := #[], guard := none }) (v := .bool true) rfl (by decide) (by kernel_rfl) (by kernel_rfl) (by kernel_rfl) (by kernel_rfl) (fun _ _ _ h => h) (Or.inl ⟨by rfl, by intro W' hSw; (try dsimp only at hSw); go_simp⟩) hS0 ?_
      try simp only [Act.put, List.setIfInBounds_toArray, List.set_cons_zero, List.set_cons_succ]
      refine anyR_take (i := 1) (oi := { dst := some 10, op := Go.Op.unOp Go.UnOp.not 4 (Go.Operand.tmp 9), type := 4, pos := "number.go:33", after := #[{ on := 0, ground := Go.Ground.data }], guard := none }) (v := .bool false) rfl (by decide) (by kernel_rfl) (by kernel_rfl) (by kernel_rfl) (by kernel_rfl) (fun _ _ _ h => h) (Or.inl ⟨by rfl, by intro W' hSw; (try dsimp only at hSw); go_simp⟩) hS0 ?_
      try simp only [Act.put, List.setIfInBounds_toArray, List.set_cons_zero, List.set_cons_succ]
      refine anyR_take (i := 2) (oi := { dst := some 11, op := Go.Op.move (Go.Operand.tmp 10), type := 4, pos := "number.go:33", after := #[{ on := 1, ground := Go.Ground.data }], guard := none }) (v := .bool false) rfl (by decide) (by kernel_rfl) (by kernel_rfl) (by kernel_rfl) (by kernel_rfl) (fun _ _ _ h => h) (Or.inl ⟨by rfl, by intro W' hSw; (try dsimp only at hSw); go_simp⟩) hS0 ?_
      try simp only [Act.put, List.setIfInBounds_toArray, List.set_cons_zero, List.set_cons_succ]
      refine anyR_take (i := 3) (oi := { dst := some 12, op := Go.Op.load 122 (Go.Operand.tmp 3), type := 122, pos := "number.go:33", after := #[{ on := 2, ground := Go.Ground.guard }], guard := some (2, false) }) (v := .func (.func 73) #[] #[]) rfl (by decide) (by kernel_rfl) (by kernel_rfl) (by kernel_rfl) (by kernel_rfl) (fun _ _ _ h => h) (Or.inl ⟨by rfl, by intro W' hSw; (try dsimp only at hSw); go_simp⟩) hS0 ?_
      try simp only [Act.put, List.setIfInBounds_toArray, List.set_cons_zero, List.set_cons_succ]
      refine anyR_take (i := 4) (oi := { dst := some 13, op := Go.Op.load 96 (Go.Operand.tmp 6), type := 96, pos := "number.go:33", after := #[{ on := 2, ground := Go.Ground.guard }], guard := some (2, false) }) (v := .agg #[.slice A ln cp, .int .i64 (m : Int)]) rfl (by decide) (by kernel_rfl) (by kernel_rfl) (by kernel_rfl) (by kernel_rfl) (fun _ _ _ h => h) (Or.inl ⟨by rfl, by intro W' hSw; (try dsimp only at hSw); go_simp⟩) hS0 ?_
      try simp only [Act.put, List.setIfInBounds_toArray, List.set_cons_zero, List.set_cons_succ]
      refine anyR_take (i := 6) (oi := { dst := some 15, op := Go.Op.load 122 (Go.Operand.tmp 3), type := 122, pos := "number.go:33", after := #[{ on := 2, ground := Go.Ground.guard }], guard := some (2, false) }) (v := .func (.func 73) #[] #[]) rfl (by decide) (by kernel_rfl) (by kernel_rfl) (by kernel_rfl) (by kernel_rfl) (fun _ _ _ h => h) (Or.inl ⟨by rfl, by intro W' hSw; (try dsimp only at hSw); go_simp⟩) hS0 ?_
      try simp only [Act.put, List.setIfInBounds_toArray, List.set_cons_zero, List.set_cons_succ]
      refine anyR_take (i := 7) (oi := { dst := some 16, op := Go.Op.load 96 (Go.Operand.tmp 4), type := 96, pos := "number.go:33", after := #[{ on := 2, ground := Go.Ground.guard }], guard := some (2, false) }) (v := .agg #[.slice A1 ln1 cp1, .int .i64 (m1 : Int)]) rfl (by decide) (by kernel_rfl) (by kernel_rfl) (by kernel_rfl) (by kernel_rfl) (fun _ _ _ h => h) (Or.inl ⟨by rfl, by intro W' hSw; (try dsimp only at hSw); go_simp⟩) hS0 ?_
      try simp only [Act.put, List.setIfInBounds_toArray, List.set_cons_zero, List.set_cons_succ]
      refine anyR_one (i := 5) (by kernel_rfl) rfl (by rfl) ?_
      intro K hK
      have HKK := Lib.hid hK
      clear hK
      go_simp
      refine ⟨trivial, wide_d, CallsIn.inRound l ((callsIn_wide.2 (count73 A ln cp (m : Int) _)).mono ?_)⟩
      rintro en W10 ⟨rfl, hb10⟩
      have hK10 : Keeps (fun _ => False) W2 W10 := (Keeps.of_new (drew_b W2 1)).trans (Keeps.of_new hb10)
      have HK10 := Lib.hid hK10
      have hS0 := HS.out W10 hK10
      refine HKK.out _ _ (fun _ _ => hS0) ?_
      clear HKK K hb10 hK10
      try simp only [Act.put, List.setIfInBounds_toArray, List.set_cons_zero, List.set_cons_succ]
      refine anyR_one (i := 8) (by kernel_rfl) rfl (by rfl) ?_
      intro K hK
      have HKK := Lib.hid hK
      clear hK
      go_simp
      refine ⟨trivial, wide_d, CallsIn.inRound l ((callsIn_wide.2 (count73 A1 ln1 cp1 (m1 : Int) _)).mono ?_)⟩
      rintro en W11 ⟨rfl, hb11⟩
      have hK11 : Keeps (fun _ => False) W2 W11 := HK10.out.trans (Keeps.of_new hb11)
      have HK11 := Lib.hid hK11
      have hS0 := HS.out W11 hK11
      refine HKK.out _ _ (fun _ _ => hS0) ?_
      clear HKK K hb11 hK11
      try simp only [Act.put, List.setIfInBounds_toArray, List.set_cons_zero, List.set_cons_succ]
      refine anyR_take (i := 9) (oi := { dst := some 18, op := Go.Op.binOp Go.BinOp.gtr 3 (Go.Operand.tmp 14) (Go.Operand.tmp 17) 3, type := 4, pos := "number.go:33", after := #[{ on := 5, ground := Go.Ground.data }, { on := 8, ground := Go.Ground.data }, { on := 2, ground := Go.Ground.guard }], guard := some (2, false) }) (v := .bool (decide ((m1 : Int) < (m : Int)))) rfl (by decide) (by kernel_rfl) (by kernel_rfl) (by kernel_rfl) (by kernel_rfl) (fun _ _ _ h => h) (Or.inl ⟨by rfl, by intro W' hSw; (try dsimp only at hSw); go_simp⟩) hS0 ?_
      try simp only [Act.put, List.setIfInBounds_toArray, List.set_cons_zero, List.set_cons_succ]
      refine anyR_take (i := 10) (oi := { dst := some 19, op := Go.Op.pick (Go.Operand.tmp 11) (Go.Operand.const (Go.Value.bool true)) (Go.Operand.tmp 18), type := 4, pos := "number.go:33", after := #[{ on := 2, ground := Go.Ground.data }, { on := 9, ground := Go.Ground.data }], guard := none }) (v := .bool (decide ((m1 : Int) < (m : Int)))) rfl (by decide) (by kernel_rfl) (by kernel_rfl) (by kernel_rfl) (by kernel_rfl) (fun _ _ _ h => h) (Or.inl ⟨by rfl, by intro W' hSw; (try dsimp only at hSw); go_simp⟩) hS0 ?_
      try simp only [Act.put, List.setIfInBounds_toArray, List.set_cons_zero, List.set_cons_succ]
      refine anyR_done (by kernel_rfl) ?_ _
      clear hS0 HS
      have fT := (HK11.out.block _ (lt_of_block HFT.out) (fun e => e)).trans HFT.out
      have fB := (HK11.out.block _ (lt_of_block Hbest.out) (fun e => e)).trans Hbest.out
      have fO := (HK11.out.block _ (lt_of_block Hok.out) (fun e => e)).trans Hok.out
      obtain ⟨bl, hbl⟩ : ∃ bl, decide ((m1 : Int) < (m : Int)) = bl := ⟨_, rfl⟩
      rw [hbl]
      cases bl with
      | true =>
        have hlt : m1 < m := by have := of_decide_eq_true hbl; omega
        clear hbl
        have hgs := grt_set (A := A) (ln := ln) (cp := cp) (m := m) fB rfl fO
        have c0 : W11.cell? ⟨T, 0, none⟩ = some (.slice A ln cp) := by rw [cell_row fT]; rfl
        have c1 : W11.cell? ⟨T, 1, none⟩ = some (.int .i64 (m : Int)) := by rw [cell_row fT]; rfl
        have d0 : W11.cell? ⟨N + 1, 0, none⟩ = some (.slice A1 ln1 cp1) := by rw [cell_row fB]; rfl
        have d1 : W11.cell? ⟨N + 1, 1, none⟩ = some (.int .i64 (m1 : Int)) := by rw [cell_row fB]; rfl
        have d2 : W11.cell? ⟨N + 2, 0, none⟩ = some (.bool true) := by rw [cell_row fO]; rfl
        have z0 : W11.frozen? ⟨N + 1, 0, none⟩ = false := frozen_row fB
        have z1 : W11.frozen? ⟨N + 1, 1, none⟩ = false := frozen_row fB
        have z2 : W11.frozen? ⟨N + 2, 0, none⟩ = false := frozen_row fO
        have Hgs := Lib.hid hgs
        have Hlt := Lib.hid hlt
        clear fT fB fO hgs hlt
        gi_wp2_with fail
        obtain ⟨g1, g2, g3⟩ := Hgs.out
        have hk := HK11.out.none.trans g3
        have hgr : grt (pre ++ [⟨st, A, cp, m⟩]) = some ⟨st, A, cp, m⟩ := by rw [grt_snoc, Hg.out]; simp only [grtF]; rw [if_pos Hlt.out]
        exact ⟨hk, ⟨by rw [hgr]; unfold bstV; simp only; rw [Hln.out]; exact g1, by rw [hgr]; exact g2, HI2.out.keep.trans hk⟩⟩
      | false =>
        have hlt : ¬ m1 < m := by have := of_decide_eq_false hbl; omega
        clear hbl
        have FB := Lib.hid fB
        have FO := Lib.hid fO
        have Hlt := Lib.hid hlt
        clear fT fB fO hlt
        gi_wp2_with fail
        have hk := HK11.out.none (Mut := fun k => k = N + 1 ∨ k = N + 2)
        have hgr : grt (pre ++ [⟨st, A, cp, m⟩]) = some ⟨st1, A1, cp1, m1⟩ := by rw [grt_snoc, Hg.out]; simp only [grtF]; rw [if_neg Hlt.out]
        exact ⟨hk, ⟨by rw [hgr]; unfold bstV; simp only; rw [Hln1.out]; exact FB.out, by rw [hgr]; exact FO.out, HI2.out.keep.trans hk⟩⟩
  case done =>
    intro D2 W9 hD2 hDW hI9 hKd
    obtain ⟨A, ln, cp, m, hvx⟩ : ∃ (A : Option Addr) (ln cp m : Nat), bstV (grt xs) = #[.slice A ln cp, .int .i64 (m : Int)] := by
      cases grt xs with
      | none => exact ⟨none, 0, 0, 0, rfl⟩
      | some b => exact ⟨_, _, _, _, rfl⟩
    obtain ⟨ok, hok⟩ : ∃ ok, (grt xs).isSome = ok := ⟨_, rfl⟩
    have f1 := hI9.best
    have f2 := hI9.ok
    rw [hvx] at f1
    rw [hok] at f2
    have Hk9 := Lib.hid hI9.keep
    have HKd := Lib.hid hKd
    have hS0 : W9.drew.cell? ⟨N + 1, 0, none⟩ = some (.slice A ln cp) ∧ W9.drew.cell? ⟨N + 1, 1, none⟩ = some (.int .i64 (m : Int)) ∧ W9.drew.cell? ⟨N + 2, 0, none⟩ = some (.bool ok) :=
      ⟨by rw [cell_row (show W9.drew.heap[N + 1]? = _ from f1)]; rfl, by rw [cell_row (show W9.drew.heap[N + 1]? = _ from f1)]; rfl, by rw [cell_row (show W9.drew.heap[N + 2]? = _ from f2)]; rfl⟩
    have F1 := Lib.hid (show W9.drew.heap[N + 1]? = _ from f1)
    have F2 := Lib.hid (show W9.drew.heap[N + 2]? = _ from f2)
    have Hvx := Lib.hid hvx
    have Hok := Lib.hid hok
    have HS0 := Lib.hid hS0
    clear hvx hok f1 f2 hI9 hKd hS0 hseq h0
    gi_wp2_with fail
    rename_i K0 hK0
    have HK0 := Lib.hid hK0
    clear hK0
    refine Code.wpIn_mono (Q := Exit.then K0 (fun _ _ _ => False)) (fun e a w h => by
      cases e with
      | normal => exact h
      | ret => exact h.elim
      | exit id => exact h.elim
      | goto l => exact h.elim
      | panic c => exact h.elim
      | outgrown => exact h.elim) ?_
    have hS0 := HS0.out
    refine Out.region_R (z := 100) (S := fun W' => W'.cell? ⟨N + 1, 0, none⟩ = some (.slice A ln cp) ∧ W'.cell? ⟨N + 1, 1, none⟩ = some (.int .i64 (m : Int)) ∧ W'.cell? ⟨N + 2, 0, none⟩ = some (.bool ok)) (by kernel_rfl) ?_
    refine Out.anyR_take (i := 0) (oi := { dst := some 21, op := Go.Op.load 96 (Go.Operand.tmp 4), type := 96, pos := "number.go:37", after := #[], guard := none }) (v := .agg #[.slice A ln cp, .int .i64 (m : Int)]) rfl (by decide) (by kernel_rfl) (by kernel_rfl) (by kernel_rfl) (by kernel_rfl) (fun _ _ _ h => h) (Or.inl ⟨by rfl, by intro W' hSw; (try dsimp only at hSw); go_simp⟩) hS0 ?_
    try simp only [Act.put, List.setIfInBounds_toArray, List.set_cons_zero, List.set_cons_succ]
    refine Out.anyR_take (i := 1) (oi := { dst := some 22, op := Go.Op.load 4 (Go.Operand.tmp 5), type := 4, pos := "number.go:37", after := #[], guard := none }) (v := .bool ok) rfl (by decide) (by kernel_rfl) (by kernel_rfl) (by kernel_rfl) (by kernel_rfl) (fun _ _ _ h => h) (Or.inl ⟨by rfl, by intro W' hSw; (try dsimp only at hSw); go_simp⟩) hS0 ?_
    try simp only [Act.put, List.setIfInBounds_toArray, List.set_cons_zero, List.set_cons_succ]
    obtain ⟨X, hX⟩ : ∃ X, W9.drew = X := ⟨_, rfl⟩
    have hXk : Keeps (fun _ => False) W9 X := by rw [← hX]; exact Keeps.of_new (drew_b W9 1)
    rw [hX] at F1 F2 hS0
    rw [hX]
    clear hX
    have HXk := Lib.hid hXk
    obtain ⟨c0, c1, c2⟩ := hS0
    have z0 : X.frozen? ⟨N + 1, 0, none⟩ = false := frozen_row F1.out
    have z1 : X.frozen? ⟨N + 1, 1, none⟩ = false := frozen_row F1.out
    have z2 : X.frozen? ⟨N + 2, 0, none⟩ = false := frozen_row F2.out
    clear hXk
    refine Out.anyR_one (i := 2) (by kernel_rfl) rfl (by rfl) ?_
    intro K hK
    have HKK := Lib.hid hK
    clear hK
    go_simp
    have k1 := keeps_setCell X (N + 1) 0 (.slice A ln cp)
    have k2 := keeps_setCell (X.setCell ⟨N + 1, 0, none⟩ (.slice A ln cp)) (N + 1) 1 (.int .i64 (m : Int))
    have s2 := set_same 1 (.int .i64 (m : Int)) (set_same 0 (.slice A ln cp) F1.out)
    have k12 := k1.trans k2
    have u2 := (k12.block _ (lt_of_block F2.out) (by omega)).trans F2.out
    obtain ⟨Y, hY⟩ : ∃ Y, (X.setCell ⟨N + 1, 0, none⟩ (.slice A ln cp)).setCell ⟨N + 1, 1, none⟩ (.int .i64 (m : Int)) = Y := ⟨_, rfl⟩
    rw [hY] at k12 s2 u2 ⊢
    clear hY k1 k2
    have s3 : Y.heap[N + 1]? = some (.cells #[.slice A ln cp, .int .i64 (m : Int)] 96 (0, 0)) := s2.trans (by simp)
    have hS0 : Y.cell? ⟨N + 1, 0, none⟩ = some (.slice A ln cp) ∧ Y.cell? ⟨N + 1, 1, none⟩ = some (.int .i64 (m : Int)) ∧ Y.cell? ⟨N + 2, 0, none⟩ = some (.bool ok) :=
      ⟨by rw [cell_row s3]; rfl, by rw [cell_row s3]; rfl, by rw [cell_row u2]; rfl⟩
    refine HKK.out _ _ (fun _ _ => hS0) ?_
    clear HKK K c0 c1 c2 z0 z1 z2 s2
    have HU2 := Lib.hid u2
    have HS3 := Lib.hid s3
    have HK12 := Lib.hid k12
    obtain ⟨c0, c1, c2⟩ := hS0
    have z2 : Y.frozen? ⟨N + 2, 0, none⟩ = false := frozen_row u2
    clear u2 s3 k12
    try simp only [Act.put, List.setIfInBounds_toArray, List.set_cons_zero, List.set_cons_succ]
    refine Out.anyR_one (i := 3) (by kernel_rfl) rfl (by rfl) ?_
    intro K hK
    have HKK := Lib.hid hK
    clear hK
    go_simp
    have k3 := keeps_setCell Y (N + 2) 0 (.bool ok)
    have u3 := set_same 0 (.bool ok) HU2.out
    have s4 := (k3.block _ (lt_of_block HS3.out) (by omega)).trans HS3.out
    obtain ⟨Z, hZ⟩ : ∃ Z, Y.setCell ⟨N + 2, 0, none⟩ (.bool ok) = Z := ⟨_, rfl⟩
    rw [hZ] at k3 u3 s4 ⊢
    clear hZ
    have u4 : Z.heap[N + 2]? = some (.cells #[.bool ok] 4 (0, 0)) := u3.trans (by simp)
    have hS0 : Z.cell? ⟨N + 1, 0, none⟩ = some (.slice A ln cp) ∧ Z.cell? ⟨N + 1, 1, none⟩ = some (.int .i64 (m : Int)) ∧ Z.cell? ⟨N + 2, 0, none⟩ = some (.bool ok) :=
      ⟨by rw [cell_row s4]; rfl, by rw [cell_row s4]; rfl, by rw [cell_row u4]; rfl⟩
    refine HKK.out _ _ (fun _ _ => hS0) ?_
    refine Out.anyR_done (by kernel_rfl) ?_ _
    refine HK0.out _ _ ?_
    have hkZ : Keeps (fun k => k = N + 1 ∨ k = N + 2) W9 Z := (HXk.out.none.trans (HK12.out.mono (fun _ _ h => .inl h))).trans (k3.mono (fun _ _ h => .inr h))
    have HU4 := Lib.hid u4
    have HS4 := Lib.hid s4
    have HkZ := Lib.hid hkZ
    clear HKK K c0 c1 c2 z2 k3 u3 u4 s4 hkZ hS0 HK0
    gi_wp2_with fail
    have hKd2 : Z.heap[D2]? = some (.deferred (some [])) := (HkZ.out.block D2 hDW (by omega)).trans HKd.out
    refine ⟨by simp, .inl ⟨_, _, rfl, run_takeDeferred hKd2, ?_⟩⟩
    have hput : Keeps (fun j => j = D2) Z (Z.putObj D2 (.deferred none)) := Keeps.putObj _ _ _ rfl
    refine ⟨_, res71 (T := N + 1) (U := N + 2) (by rfl) (by rfl) ((hput.block _ (lt_of_block HS4.out) (by omega)).trans HS4.out) ((hput.block _ (lt_of_block HU4.out) (by omega)).trans HU4.out), ?_⟩
    refine ⟨by rw [Hvx.out, Hok.out], ?_⟩
    have h1 : Keeps (fun k => N ≤ k) w V := HkV.out.none
    have h2 : Keeps (fun k => N ≤ k) V W9 := Hk9.out.mono (fun k _ e => by omega)
    have h3 : Keeps (fun k => N ≤ k) W9 Z := HkZ.out.mono (fun k _ e => by omega)
    have h4 : Keeps (fun k => N ≤ k) Z (Z.putObj D2 (.deferred none)) := hput.mono (fun k _ e => by omega)
    have hN := HN.out
    exact (((h1.trans h2).trans h3).trans h4).below (Nat.le_refl _) (fun k hk e => by omega)
end Go.Proofs.Ytdfdlklglbefiaa
