/- Stage 2: what a board is; the steps that it yields. -/
import Derived.Test.YtfmcfalghbaanaaChk
import Derived.Test.YtfmcfalghbaanaaRgf
import Derived.Test.YtfmcfalghbaanaaJT2
import Derived.BigQuiet
import Derived.Deep.QuietTactic
import Derived.OwnWalkIn
import Derived.TacticsInMore
import Derived.LoopNIn
import Derived.LoopIn
namespace Go.Proofs.Ytfmcfalghbaanaa
set_option linter.unusedSimpArgs false
set_option linter.unusedVariables false
open Go.RowKit Go.Shelf
attribute [local go_sem] Oper.semAt_some

/-- The cells of a board: a cylinder, the table of what fits, the map of counts. -/
structure Brd (X : Array Value) (A : Option Addr) (n cap : Nat) (off lo hi : Int) (T : Nat → Nat → Bool) (M : Nat) : Prop where
  size : X.size = 261
  c0 : X[0]? = some (.slice A n cap)
  c1 : X[1]? = some (.int .i64 off)
  c2 : X[2]? = some (.int .i64 lo)
  c3 : X[3]? = some (.int .i64 hi)
  tab : ∀ i j, i < 16 → j < 16 → X[4 + i * 16 + j]? = some (.bool (T i j))
  map : X[260]? = some (.map (some M))

/-- A whole is loaded. -/
def runO (P : Program) (o : Oper) (p : Value) (W : World) : Result Next := (execOp (fun _ => p) o).run P W
def ld (t : TypeId) : Oper := { dst := none, op := Op.load t (.tmp 0), type := t, pos := "", after := #[], guard := none }
theorem exec_load78 (ρ : Operand → Value) (d : Option Tmp) (x : Operand) (ty : TypeId) (pos : String) (af : Array Edge) (g : Option (Nat × Bool)) (W : World) :
    (execOp ρ { dst := d, op := Op.load 78 x, type := ty, pos := pos, after := af, guard := g }).run Try.prog W = runO Try.prog (ld 78) (ρ x) W := rfl
theorem run_ld78 {W : World} {B : Nat} {X : Array Value} {t : TypeId} (h : W.heap[B]? = some (.cells X t (0, 0))) (hs : X.size = 261) : runO Try.prog (ld 78) (.pointer (some ⟨B, 0, none⟩)) W = .ok (.value (.agg X)) W := by
  have h1 : (loadVar 78 ⟨B, 0, none⟩).run Try.prog W = .ok (.agg X) W := run_loadVar_row W B t 78 X (0, 0) _ h Try.underlying78 rfl (by rw [hs]; kernel_rfl)
  unfold runO ld
  simp only [execOp, Act.eval, Instr.loadAt, Instr.sureAddr, Sem.run_bind, Sem.run_pure, Result.andThen_ok, h1]

set_option maxRecDepth 100000 in
theorem steps57 (X : Array Value) (w : World) :
    Calls Try.prog 57 #[.agg X] w fun e w' => e = .returned (.func (.func 72) #[] #[.pointer (some ⟨w.heap.size, 0, none⟩)]) ∧ w' = w.alloc (.cells X 78) := by
  go_enter Try.func57, Try.ntmps57
  go_wp2_with fail
  go_ret
  exact ⟨rfl, rfl⟩

/-- The codes of the steps of the first so many pieces, in order. -/
def codesK (ps : List Pc) (k : Nat) : List Nat := (List.range k).flatMap fun i => if (pAt ps i).loose then [2 * i, 2 * i + 1] else [2 * i]
def codesL (ps : List Pc) : List Nat := codesK ps ps.length
theorem codesK_succ (ps : List Pc) (k : Nat) : codesK ps (k + 1) = codesK ps k ++ if (pAt ps k).loose then [2 * k, 2 * k + 1] else [2 * k] := by
  unfold codesK
  rw [List.range_succ, List.flatMap_append]
  simp
theorem codes_ok (ps : List Pc) : Codes ps.length (codesL ps) := by
  intro s hs
  obtain ⟨i, hi, h⟩ := List.mem_flatMap.1 hs
  have := List.mem_range.1 hi
  split at h
  · simp at h; omega
  · simp at h; omega
/-- A step's value, by its code. -/
def stE (c : Nat) : Array Value := #[.agg #[.int .i64 ((c / 2 : Nat) : Int), .bool (decide (c % 2 = 1))]]
theorem stE_even (k : Nat) : stE (2 * k) = #[.agg #[.int .i64 (k : Int), .bool false]] := by
  unfold stE
  rw [show 2 * k / 2 = k by omega, show decide (2 * k % 2 = 1) = false from decide_eq_false (by omega)]
theorem stE_odd (k : Nat) : stE (2 * k + 1) = #[.agg #[.int .i64 (k : Int), .bool true]] := by
  unfold stE
  rw [show (2 * k + 1) / 2 = k by omega, show decide ((2 * k + 1) % 2 = 1) = true from decide_eq_true (by omega)]

theorem codesK_split (ps : List Pc) (k m : Nat) (h : k < m) : ∃ post, codesK ps m = codesK ps k ++ ((if (pAt ps k).loose then [2 * k, 2 * k + 1] else [2 * k]) ++ post) := by
  induction m with
  | zero => omega
  | succ m ih =>
    rw [codesK_succ]
    rcases Nat.lt_or_ge k m with h1 | h1
    · obtain ⟨post, e⟩ := ih h1
      exact ⟨post ++ if (pAt ps m).loose then [2 * m, 2 * m + 1] else [2 * m], by rw [e]; simp only [List.append_assoc]⟩
    · obtain rfl : k = m := by omega
      exact ⟨[], by simp⟩
theorem keep_cells {Mut : Nat → Prop} {W W' : World} {b : Nat} (h : Keeps Mut W W') (hb : b < W.heap.size) (hm : ¬ Mut b) (j : Nat) : W'.cell? ⟨b, j, none⟩ = W.cell? ⟨b, j, none⟩ := by
  simp [World.cell?, h.block b hb hm]
theorem keep_alloc (Mut : Nat → Prop) (W : World) (o : Obj) : Keeps Mut W (W.alloc o) := Keeps.of_new (below_alloc_ W o)

set_option maxRecDepth 100000 in
set_option maxHeartbeats 1000000 in
theorem steps_seq (X : Array Value) (A : Option Addr) (n cap : Nat) (off lo hi : Int) (T : Nat → Nat → Bool) (M B : Nat) (ps : List Pc) (w : World) (hB : w.heap[B]? = some (.cells X 78 (0, 0))) (hX : Brd X A n cap off lo hi T M) (hp : Pcs w A n ps) (hn : n ≤ 8) :
    SeqL Try.prog 72 #[.pointer (some ⟨B, 0, none⟩)] stE (codesL ps) (fun k => ∃ o, A = some ⟨k, o, none⟩) w := by
  intro l Mut J Jx W hW hMut hJ hJx hY h0
  have c0 : W.cell? ⟨B, 0, none⟩ = some (.slice A n cap) := by
    rw [cell_row ((hW.block B (lt_of_block hB) (fun e => e)).trans hB)]; exact hX.c0
  have Hlen := Lib.hid hp.1
  refine (callsIn_wide (n := 3)).1 ?_
  refine callsIn_of_wp Try.func72 rfl trivial ?_ rfl
  simp only [Try.ntmps72, List.size_toArray, List.length_cons, List.length_nil, Nat.reduceAdd, Nat.reduceSub, Array.replicate_succ, Array.replicate_zero, List.push_toArray, List.append_toArray, List.nil_append, List.cons_append]
  gi_wp2_with fail
  clear c0
  gi_loopw [9] (fun i wr => ∃ k : Nat, k ≤ n ∧ i = .int .i64 (k : Int) ∧ J (codesK ps k) wr ∧ Keeps (fun k => Mut k ∨ W.heap.size ≤ k) W wr) (fun i _ => n - (intOf i).toNat)
  case atStart => exact ⟨0, Nat.zero_le _, rfl, h0, Keeps.refl _ _⟩
  case round =>
    obtain ⟨k, hk, rfl, hj, hK⟩ := hrel
    have HK := Lib.hid hK
    have HJ := Lib.hid hj
    have HY := Lib.hid hY
    have HJa := Lib.hid hJ
    have HM := Lib.hid hMut
    by_cases hlt : k < n
    · obtain ⟨b, o, rfl, hc⟩ := hp.2 (by omega)
      have hbw := lt_of_cell (hc 0 (by omega)).1
      have hkb : ∀ j, wr.cell? ⟨b, j, none⟩ = w.cell? ⟨b, j, none⟩ := fun j => by
        have h1 : wr.heap[b]? = w.heap[b]? := (hK.block b (Nat.lt_of_lt_of_le hbw hW.size) (by
          rintro (e | e)
          · exact (hMut b e).2 ⟨o, rfl⟩
          · have := hW.size; omega)).trans (hW.block b hbw (fun e => e))
        simp [World.cell?, h1]
      obtain ⟨a0, a1, a2, a3, a4, a5, a6⟩ := hc k hlt
      rw [← hkb] at a0 a1 a2 a3 a4 a5 a6
      clear hkb hc
      obtain ⟨post, hpost⟩ := codesK_split ps k ps.length (by have := Hlen.out; omega)
      have HS := Lib.hid (codesK_succ ps k)
      obtain ⟨p, hpk⟩ : ∃ p, pAt ps k = p := ⟨_, rfl⟩
      rw [hpk] at a0 a1 a2 a3 a4 a5 a6 hpost HS
      have i0 : (0 : Int) ≤ (k : Int) := by omega
      have i1 : (k : Int) < (n : Int) := by omega
      have HK1 := Lib.hid (show Keeps (fun k => Mut k ∨ W.heap.size ≤ k) W (wr.alloc (.cells #[.int .i64 p.a.d.lo, .int .i64 p.a.d.hi, .int .i64 p.a.p, .int .i64 p.b.d.lo, .int .i64 p.b.d.hi, .int .i64 p.b.p, .bool p.loose] 62)) from hK.trans (keep_alloc _ _ _))
      have HJ1 := Lib.hid (hJ _ _ _ hj (keep_alloc _ wr (.cells #[.int .i64 p.a.d.lo, .int .i64 p.a.d.hi, .int .i64 p.a.p, .int .i64 p.b.d.lo, .int .i64 p.b.d.hi, .int .i64 p.b.p, .bool p.loose] 62)))
      have hwW := hK.size
      have hsplit : codesL ps = codesK ps k ++ (2 * k) :: (if p.loose then (2 * k + 1) :: post else post) := by
        unfold codesL
        rw [hpost]
        cases p.loose <;> rfl
      have hy0 := hY _ _ _ (wr.alloc (.cells #[.int .i64 p.a.d.lo, .int .i64 p.a.d.hi, .int .i64 p.a.p, .int .i64 p.b.d.lo, .int .i64 p.b.d.hi, .int .i64 p.b.p, .bool p.loose] 62)) hsplit (by simp; omega) HJ1.out (3 - 1)
      rw [stE_even] at hy0
      obtain ⟨fn, tmps, assign, body, hy, hR⟩ := hy0
      have HSp := Lib.hid hsplit
      have cl : ∀ W', Keeps Mut (wr.alloc (.cells #[.int .i64 p.a.d.lo, .int .i64 p.a.d.hi, .int .i64 p.a.p, .int .i64 p.b.d.lo, .int .i64 p.b.d.hi, .int .i64 p.b.p, .bool p.loose] 62)) W' → W'.cell? ⟨wr.heap.size, 6, none⟩ = some (.bool p.loose) := fun W' h => by
        rw [keep_cells h (by simp) (fun e => by have := (hMut _ e).1; omega)]
        go_simp
      have Hcl := Lib.hid cl
      clear cl hsplit hpost hK hj hY hJ hMut hp hpk
      gi_wp2_with fail
      refine hR.mono ?_
      rintro e W2 (⟨rfl, hj2, hK2⟩ | ⟨rfl, hj2, hK2⟩)
      · have c6 := Hcl.out _ hK2
        have HJ2 := Lib.hid hj2
        have HK2 := Lib.hid (HK1.out.trans (hK2.mono (fun k _ e => .inl e)))
        have hsz2 := hK2.size
        simp only [World.size_alloc] at hsz2
        clear hj2 hK2 hy
        cases hl : p.loose with
        | true =>
          rw [hl] at c6
          have hy1 := HY.out (codesK ps k ++ [2 * k]) (2 * k + 1) post W2 (by rw [HSp.out, hl]; simp) (by omega) HJ2.out (3 - 1)
          rw [stE_odd] at hy1
          obtain ⟨fn2, tmps2, assign2, body2, hy, hR2⟩ := hy1
          have Hl := Lib.hid hl
          clear hl
          gi_wp2_with fail
          refine hR2.mono ?_
          rintro e W3 (⟨rfl, hj3, hK3⟩ | ⟨rfl, hj3, hK3⟩)
          · have HJ3 := Lib.hid hj3
            have HK3 := Lib.hid (HK2.out.trans (hK3.mono (fun k _ e => .inl e)))
            clear hj3 hK3 hy c6
            gi_wp2_with fail
            go_roundw
            case rel => exact ⟨k + 1, by omega, by go_num, by rw [HS.out, Hl.out]; have := HJ3.out; simpa using this, HK3.out⟩
            case measure => simp [intOf]; omega
          · have HJ3 := Lib.hid hj3
            clear hj3 hK3 hy c6
            gi_wp2_with fail
            exact bodyPost_ret (results_none rfl _ _ _) rfl ⟨⟨_, rfl⟩, .inr ⟨codesK ps k ++ [2 * k], 2 * k + 1, post, by rw [HSp.out, Hl.out]; simp, HJ3.out⟩⟩
        | false =>
          rw [hl] at c6
          have Hl := Lib.hid hl
          clear hl
          gi_wp2_with fail
          refine ⟨fun _ h => (by cases h), ?_⟩
          gi_wp2_with fail
          go_roundw
          case rel => exact ⟨k + 1, by omega, by go_num, by rw [HS.out, Hl.out]; exact HJ2.out, HK2.out⟩
          case measure => simp [intOf]; omega
      · have HJ2 := Lib.hid hj2
        clear hj2 hK2 hy
        gi_wp2_with fail
        exact bodyPost_ret (results_none rfl _ _ _) rfl ⟨⟨_, rfl⟩, .inr ⟨codesK ps k, 2 * k, _, HSp.out, HJ2.out⟩⟩
    · have hkn : k = ps.length := by have := Hlen.out; omega
      clear hK hj hY hJ hMut hp
      gi_wp2_with fail
      go_end0
      exact ⟨⟨_, rfl⟩, .inl (by unfold codesL; rw [← hkn]; exact HJ.out)⟩
end Go.Proofs.Ytfmcfalghbaanaa
