/- Stage 6: how great a flow is. -/
import Derived.Test.YtigohccehllmnaaFi
import Derived.Laws.Rows
namespace Go.Proofs.Ytigohccehllmnaa
set_option linter.unusedSimpArgs false
set_option linter.unusedVariables false
open Go.RowKit Go.Shelf

theorem exec_load109 (ρ : Operand → Value) (d : Option Tmp) (x : Operand) (ty : TypeId) (pos : String) (af : Array Edge) (g : Option (Nat × Bool)) (W : World) :
    (execOp ρ { dst := d, op := Op.load 109 x, type := ty, pos := pos, after := af, guard := g }).run Try.prog W = runO Try.prog (ld 109) (ρ x) W := rfl
theorem exec_store109 (ρ : Operand → Value) (d : Option Tmp) (x y : Operand) (ty : TypeId) (pos : String) (af : Array Edge) (g : Option (Nat × Bool)) (W : World) :
    (execOp ρ { dst := d, op := Op.store 109 x y, type := ty, pos := pos, after := af, guard := g }).run Try.prog W = runV Try.prog (st 109) (ρ x) (ρ y) W := rfl
/-- Amounts. -/
def gV (g : Nat → Int) : Array Value := ((List.range 40).map fun j => Value.int .i64 (g j)).toArray
theorem gV_size (g : Nat → Int) : (gV g).size = 40 := by simp [gV]
theorem gV_at (g : Nat → Int) (j : Nat) (h : j < 40) : (gV g)[j]? = some (.int .i64 (g j)) := by simp [gV, h]
theorem gV_one (g : Nat → Int) : (gV g).all (·.oneCell') = true := by simp [gV, Value.oneCell']
theorem gV_zero : gV (fun _ => 0) = #[.int .i64 0, .int .i64 0, .int .i64 0, .int .i64 0, .int .i64 0, .int .i64 0, .int .i64 0, .int .i64 0, .int .i64 0, .int .i64 0, .int .i64 0, .int .i64 0, .int .i64 0, .int .i64 0, .int .i64 0, .int .i64 0, .int .i64 0, .int .i64 0, .int .i64 0, .int .i64 0, .int .i64 0, .int .i64 0, .int .i64 0, .int .i64 0, .int .i64 0, .int .i64 0, .int .i64 0, .int .i64 0, .int .i64 0, .int .i64 0, .int .i64 0, .int .i64 0, .int .i64 0, .int .i64 0, .int .i64 0, .int .i64 0, .int .i64 0, .int .i64 0, .int .i64 0, .int .i64 0] := rfl
theorem gV_set (g : Nat → Int) (j : Nat) (v : Int) : (gV g).setIfInBounds j (.int .i64 v) = gV (fun x => if x = j then v else g x) := by
  simp only [gV, List.setIfInBounds_toArray]
  congr 1
  apply List.ext_getElem?
  intro i
  by_cases hi : i < 40
  · by_cases e : j = i
    · subst e; simp [hi]
    · have e2 : ¬ i = j := fun h => e h.symm
      simp [List.getElem?_set, e, hi, e2]
  · rw [List.getElem?_eq_none (by simp; omega), List.getElem?_eq_none (by simp; omega)]
theorem run_ld109 {W : World} {B : Nat} {X : Array Value} {t : TypeId} (h : W.heap[B]? = some (.cells X t (0, 0))) (hs : X.size = 40) : runO Try.prog (ld 109) (.pointer (some ⟨B, 0, none⟩)) W = .ok (.value (.agg X)) W := by
  have h1 : (loadVar 109 ⟨B, 0, none⟩).run Try.prog W = .ok (.agg X) W := run_loadVar_row W B t 109 X (0, 0) _ h Try.underlying109 rfl (by rw [hs]; kernel_rfl)
  unfold runO ld
  simp only [execOp, Act.eval, Instr.loadAt, Instr.sureAddr, Sem.run_bind, Sem.run_pure, Result.andThen_ok, h1]
theorem run_st109 {W : World} {B : Nat} {X Y : Array Value} {t : TypeId} (h : W.heap[B]? = some (.cells Y t (0, 0))) (hY : Y.size = 40) (hX : X.size = 40) (h1 : X.all (·.oneCell') = true) :
    runV Try.prog (st 109) (.pointer (some ⟨B, 0, none⟩)) (.agg X) W = .ok .skip (W.setRow B X) := by
  have h2 : (storeVar 109 ⟨B, 0, none⟩ (.agg X)).run Try.prog W = .ok () (W.setRow B X) := run_storeVar_row W B t 109 Y X h (by rw [hX]; kernel_rfl) (by omega) h1
  unfold runV st
  simp only [execOp, Instr.storeAt, Instr.sureAddr, Sem.run_bind, Sem.run_pure, Result.andThen_ok, h2]
/-- What flows out of names, of the first links. -/
def outK (zs : List Nl) (f : Nat → Int) (p : Int → Bool) : Nat → Nat → Int
  | 0, _ => 0
  | k + 1, x => outK zs f p k x + ind (p (lAt zs k).one && decide ((lAt zs k).one = (x : Int))) (f k) - ind (p (lAt zs k).two && decide ((lAt zs k).two = (x : Int))) (f k)
theorem outK_le (zs : List Nl) {f : Nat → Int} (p : Int → Bool) {n : Nat} (h : ∀ k, k < n → -1000000 ≤ f k ∧ f k ≤ 1000000) : ∀ k, k ≤ n → ∀ x, -(2000000 * (k : Int)) ≤ outK zs f p k x ∧ outK zs f p k x ≤ 2000000 * (k : Int)
  | 0, _, x => by simp [outK]
  | k + 1, hk, x => by
    have h1 := outK_le zs p h k (by omega) x
    have h2 := h k (by omega)
    simp only [outK, ind]
    split <;> split <;> omega
theorem outK_sum (zs : List Nl) (f : Nat → Int) (p : Int → Bool) (x : Nat) : ∀ n, outK zs f p n x = if p (x : Int) = true then sumN n (fun k => ind (decide ((lAt zs k).one = (x : Int))) (f k) - ind (decide ((lAt zs k).two = (x : Int))) (f k)) else 0
  | 0 => by simp [outK, sumN]
  | n + 1 => by
    simp only [outK, outK_sum zs f p x n, sumN]
    have e : ∀ y : Int, ind (p y && decide (y = (x : Int))) (f n) = if p (x : Int) = true then ind (decide (y = (x : Int))) (f n) else 0 := fun y => by
      by_cases h : y = (x : Int)
      · subst h
        cases hp : p (x : Int) <;> simp [ind]
      · simp [h, ind]
    rw [e, e]
    split <;> omega
theorem outK_out {zs : List Nl} {f : Nat → Int} {p : Int → Bool} (x : Nat) : outK zs f p zs.length x = if p (x : Int) = true then outN zs f (x : Int) else 0 := outK_sum zs f p x zs.length
theorem res78 {fn : Func} (hf : fn.results = #[.cell 4 109]) {tmps : Array Value} {W : World} {B : Nat} {X : Array Value} {t : TypeId} (h2 : tmps.getD 4 undef = .pointer (some ⟨B, 0, none⟩)) (hb : W.heap[B]? = some (.cells X t (0, 0))) (hs : X.size = 40) :
    (results fn tmps).run Try.prog W = .ok (.agg X) W :=
  results_cell_row hf tmps W B t X (0, 0) _ h2 hb Try.underlying109 rfl (by rw [hs]; kernel_rfl)
section
attribute [local go_sem ↓] exec_app at_app exec_load109 exec_store109
attribute [local go_sem] Oper.semAt_some
set_option maxRecDepth 100000 in
set_option maxHeartbeats 16000000 in
theorem out78 (b : BD) (f : Nat → Int) (p : Int → Bool) (g : FuncId) (ra lb : Array Value) (w : World) (h : Bd w b f) (hok : BdOk b) (hf : Small b f) (hT : Tells w (.func (.func g) ra lb) (fun x => 0 ≤ x ∧ x < b.l.N) p) :
    Calls Try.prog 78 #[.pointer (some ⟨b.B, 0, none⟩), .func (.func g) ra lb] w fun e w' => e = .returned (.agg (gV (outK b.zs f p b.l.n))) ∧ Below w.heap.size w w' := by
  obtain ⟨g1, ra1, lb1, eg1, eg, hT⟩ := hT
  cases eg1
  have hN := hok.N
  have hn := hok.n
  have hb1 := below_alloc_ w (.cells #[.int .i64 0, .int .i64 0, .int .i64 0, .int .i64 0, .int .i64 0, .int .i64 0, .int .i64 0, .int .i64 0, .int .i64 0, .int .i64 0, .int .i64 0, .int .i64 0, .int .i64 0, .int .i64 0, .int .i64 0, .int .i64 0, .int .i64 0, .int .i64 0, .int .i64 0, .int .i64 0, .int .i64 0, .int .i64 0, .int .i64 0, .int .i64 0, .int .i64 0, .int .i64 0, .int .i64 0, .int .i64 0, .int .i64 0, .int .i64 0, .int .i64 0, .int .i64 0, .int .i64 0, .int .i64 0, .int .i64 0, .int .i64 0, .int .i64 0, .int .i64 0, .int .i64 0, .int .i64 0] 109)
  have hr1 := heap_alloc_new_ w (.cells #[.int .i64 0, .int .i64 0, .int .i64 0, .int .i64 0, .int .i64 0, .int .i64 0, .int .i64 0, .int .i64 0, .int .i64 0, .int .i64 0, .int .i64 0, .int .i64 0, .int .i64 0, .int .i64 0, .int .i64 0, .int .i64 0, .int .i64 0, .int .i64 0, .int .i64 0, .int .i64 0, .int .i64 0, .int .i64 0, .int .i64 0, .int .i64 0, .int .i64 0, .int .i64 0, .int .i64 0, .int .i64 0, .int .i64 0, .int .i64 0, .int .i64 0, .int .i64 0, .int .i64 0, .int .i64 0, .int .i64 0, .int .i64 0, .int .i64 0, .int .i64 0, .int .i64 0, .int .i64 0] 109)
  have hs1 : (w.alloc (.cells #[.int .i64 0, .int .i64 0, .int .i64 0, .int .i64 0, .int .i64 0, .int .i64 0, .int .i64 0, .int .i64 0, .int .i64 0, .int .i64 0, .int .i64 0, .int .i64 0, .int .i64 0, .int .i64 0, .int .i64 0, .int .i64 0, .int .i64 0, .int .i64 0, .int .i64 0, .int .i64 0, .int .i64 0, .int .i64 0, .int .i64 0, .int .i64 0, .int .i64 0, .int .i64 0, .int .i64 0, .int .i64 0, .int .i64 0, .int .i64 0, .int .i64 0, .int .i64 0, .int .i64 0, .int .i64 0, .int .i64 0, .int .i64 0, .int .i64 0, .int .i64 0, .int .i64 0, .int .i64 0] 109)).heap.size = w.heap.size + 1 := by simp
  obtain ⟨w1, hw1⟩ : ∃ v, w.alloc (.cells #[.int .i64 0, .int .i64 0, .int .i64 0, .int .i64 0, .int .i64 0, .int .i64 0, .int .i64 0, .int .i64 0, .int .i64 0, .int .i64 0, .int .i64 0, .int .i64 0, .int .i64 0, .int .i64 0, .int .i64 0, .int .i64 0, .int .i64 0, .int .i64 0, .int .i64 0, .int .i64 0, .int .i64 0, .int .i64 0, .int .i64 0, .int .i64 0, .int .i64 0, .int .i64 0, .int .i64 0, .int .i64 0, .int .i64 0, .int .i64 0, .int .i64 0, .int .i64 0, .int .i64 0, .int .i64 0, .int .i64 0, .int .i64 0, .int .i64 0, .int .i64 0, .int .i64 0, .int .i64 0] 109) = v := ⟨_, rfl⟩
  rw [hw1] at hb1 hr1 hs1
  obtain ⟨R, hR⟩ : ∃ v, w.heap.size = v := ⟨_, rfl⟩
  rw [hR] at hr1 hs1
  have hb2 := below_alloc_ w1 (.cells #[.int .i64 0, .int .i64 0, .int .i64 0, .int .i64 0, .int .i64 0, .int .i64 0, .int .i64 0, .int .i64 0, .int .i64 0, .int .i64 0, .int .i64 0, .int .i64 0, .int .i64 0, .int .i64 0, .int .i64 0, .int .i64 0, .int .i64 0, .int .i64 0, .int .i64 0, .int .i64 0, .int .i64 0, .int .i64 0, .int .i64 0, .int .i64 0, .int .i64 0, .int .i64 0, .int .i64 0, .int .i64 0, .int .i64 0, .int .i64 0, .int .i64 0, .int .i64 0, .int .i64 0, .int .i64 0, .int .i64 0, .int .i64 0, .int .i64 0, .int .i64 0, .int .i64 0, .int .i64 0] 109)
  have hr2 := heap_alloc_new_ w1 (.cells #[.int .i64 0, .int .i64 0, .int .i64 0, .int .i64 0, .int .i64 0, .int .i64 0, .int .i64 0, .int .i64 0, .int .i64 0, .int .i64 0, .int .i64 0, .int .i64 0, .int .i64 0, .int .i64 0, .int .i64 0, .int .i64 0, .int .i64 0, .int .i64 0, .int .i64 0, .int .i64 0, .int .i64 0, .int .i64 0, .int .i64 0, .int .i64 0, .int .i64 0, .int .i64 0, .int .i64 0, .int .i64 0, .int .i64 0, .int .i64 0, .int .i64 0, .int .i64 0, .int .i64 0, .int .i64 0, .int .i64 0, .int .i64 0, .int .i64 0, .int .i64 0, .int .i64 0, .int .i64 0] 109)
  obtain ⟨w2, hw2⟩ : ∃ v, w1.alloc (.cells #[.int .i64 0, .int .i64 0, .int .i64 0, .int .i64 0, .int .i64 0, .int .i64 0, .int .i64 0, .int .i64 0, .int .i64 0, .int .i64 0, .int .i64 0, .int .i64 0, .int .i64 0, .int .i64 0, .int .i64 0, .int .i64 0, .int .i64 0, .int .i64 0, .int .i64 0, .int .i64 0, .int .i64 0, .int .i64 0, .int .i64 0, .int .i64 0, .int .i64 0, .int .i64 0, .int .i64 0, .int .i64 0, .int .i64 0, .int .i64 0, .int .i64 0, .int .i64 0, .int .i64 0, .int .i64 0, .int .i64 0, .int .i64 0, .int .i64 0, .int .i64 0, .int .i64 0, .int .i64 0] 109) = v := ⟨_, rfl⟩
  rw [hw2] at hb2 hr2
  rw [hs1] at hr2
  rw [← gV_zero] at hr1 hr2
  have D := Lib.hid h
  have Hok := Lib.hid hok
  have Hf := Lib.hid hf
  have HT := Lib.hid hT
  have Heg := Lib.hid eg
  have HW1 := Lib.hid hw1
  have HW2 := Lib.hid hw2
  have HS1 := Lib.hid hs1
  have HR := Lib.hid hR
  have b4 := (h.below (hb1.trans (hb2.mono hb1.size)) (Nat.le_refl _)).c4
  have H0 := Lib.hid (show w2.heap[R]? = some (.cells (gV (fun _ => 0)) 109 (0, 0)) ∧ w2.heap[R + 1]? = some (.cells (gV (outK b.zs f p 0)) 109 (0, 0)) ∧ Below w.heap.size w w2 from
    ⟨(hb2.block _ (lt_of_block hr1)).trans hr1, hr2, hb1.trans (hb2.mono hb1.size)⟩)
  clear h hok hf hT eg hb1 hr1 hs1 hw1 hR hb2 hr2 hw2
  go_enter Try.func78, Try.ntmps78
  go_upto_region 2 with fail
  rw [HW1.out]
  rw [HR.out]
  try rw [HS1.out]
  rw [HW2.out]
  go_wp2_with fail
  clear b4
  go_loopw [14] (fun i wr => ∃ k : Nat, k ≤ b.l.n ∧ i = .int .i64 (k : Int) ∧ Hid (wr.heap[R]? = some (.cells (gV (fun _ => 0)) 109 (0, 0)) ∧ wr.heap[R + 1]? = some (.cells (gV (outK b.zs f p k)) 109 (0, 0)) ∧ Below w.heap.size w wr)) (fun i _ => b.l.n - (intOf i).toNat)
  case atStart => exact ⟨0, Nat.zero_le _, rfl, H0⟩
  case round =>
    obtain ⟨k, hk9, rfl, HX⟩ := hrel
    obtain ⟨wk, rfl⟩ : ∃ wk, wk = wr := ⟨_, rfl⟩
    have DK := Lib.hid (D.out.below HX.out.2.2 (Nat.le_refl _))
    by_cases hlt : k < b.l.n
    · have c1 := DK.out.c1
      obtain ⟨z0, z1, z2⟩ := DK.out.z k hlt
      have v0 := DK.out.fl k hlt
      have ok := Hok.out.ok k hlt
      have hsm := Hf.out k hlt
      obtain ⟨g3, hg⟩ : ∃ g, lAt b.zs k = g := ⟨_, rfl⟩
      obtain ⟨fk, hfk⟩ : ∃ g, f k = g := ⟨_, rfl⟩
      rw [hg] at z0 z1 z2 ok
      rw [hfk] at v0 hsm
      obtain ⟨gl, gh, gt⟩ := g3
      simp only at z0 z1 z2 ok
      obtain ⟨x1, hx1⟩ : ∃ x : Nat, gl = (x : Int) := ⟨gl.toNat, by omega⟩
      obtain ⟨x2, hx2⟩ : ∃ x : Nat, gh = (x : Int) := ⟨gh.toNat, by omega⟩
      subst hx1 hx2
      have hN := Hok.out.N
      have hn := Hok.out.n
      have l1 : x1 < 40 := by omega
      have l2 : x2 < 40 := by omega
      have i0 : (0 : Int) ≤ (k : Int) := by omega
      have i1 : (k : Int) < (b.l.n : Int) := by omega
      have i2 : (0 : Int) ≤ (x1 : Int) := by omega
      have i3 : (x1 : Int) < 40 := by omega
      have i4 : (0 : Int) ≤ (x2 : Int) := by omega
      have i5 : (x2 : Int) < 40 := by omega
      have hbo := outK_le b.zs p Hf.out k hk9
      have hst : ∀ x : Nat, outK b.zs f p (k + 1) x = outK b.zs f p k x + ind (p (x1 : Int) && decide ((x1 : Int) = (x : Int))) fk - ind (p (x2 : Int) && decide ((x2 : Int) = (x : Int))) fk := fun x => by
        show outK b.zs f p k x + ind (p (lAt b.zs k).one && decide ((lAt b.zs k).one = (x : Int))) (f k) - ind (p (lAt b.zs k).two && decide ((lAt b.zs k).two = (x : Int))) (f k) = _
        rw [hg, hfk]
      obtain ⟨G, hG⟩ : ∃ G, outK b.zs f p k = G := ⟨_, rfl⟩
      rw [hG] at HX hbo
      simp only [hG] at hst
      have hb := below_alloc_ wk (.cells #[.int .i64 (x1 : Int), .int .i64 (x2 : Int), .int .i64 gt] 60)
      have hrP := heap_alloc_new_ wk (.cells #[.int .i64 (x1 : Int), .int .i64 (x2 : Int), .int .i64 gt] 60)
      obtain ⟨w3, hw3⟩ : ∃ v, wk.alloc (.cells #[.int .i64 (x1 : Int), .int .i64 (x2 : Int), .int .i64 gt] 60) = v := ⟨_, rfl⟩
      obtain ⟨P, hP⟩ : ∃ v, wk.heap.size = v := ⟨_, rfl⟩
      rw [hw3] at hb hrP
      rw [hP] at hrP
      have hPR : R + 1 < P := by have := lt_of_block HX.out.2.1; omega
      have HP := Lib.hid hrP
      have HQ := Lib.hid ((hb.block _ (lt_of_block HX.out.2.1)).trans HX.out.2.1)
      have HZ := Lib.hid ((hb.block _ (lt_of_block HX.out.1)).trans HX.out.1)
      have B := Lib.hid (HX.out.2.2.trans (hb.mono HX.out.2.2.size))
      have Hw3 := Lib.hid hw3
      have HPe := Lib.hid hP
      have HPR := Lib.hid hPR
      have Hst := Lib.hid hst
      have Hbo := Lib.hid hbo
      have Hx1 := Lib.hid (show 0 ≤ (x1 : Int) ∧ (x1 : Int) < b.l.N by omega)
      have Hx2 := Lib.hid (show 0 ≤ (x2 : Int) ∧ (x2 : Int) < b.l.N by omega)
      have Hsm := Lib.hid hsm
      have Hlt := Lib.hid hlt
      obtain ⟨j1, hj1⟩ : ∃ v, p (x1 : Int) = v := ⟨_, rfl⟩
      obtain ⟨j2, hj2⟩ : ∃ v, p (x2 : Int) = v := ⟨_, rfl⟩
      have HJ1 := Lib.hid hj1
      have HJ2 := Lib.hid hj2
      have kp := HT.out w3 (x1 : Int) Hx1.out B.out
      rw [hj1] at kp
      have KP := Lib.hid kp
      clear hb hrP hw3 hP hPR hst hbo hsm hG hg hfk hj1 hj2 kp ok HX hN hn
      go_upto_region 6 with fail
      rw [Hw3.out]
      rw [HPe.out]
      clear c1 z0 z1 z2 v0
      have q0 : w3.cell? ⟨P, 0, none⟩ = some (.int .i64 (x1 : Int)) := by rw [cell_row HP.out]; rfl
      have eg := Heg.out
      go_wp2_with fail
      refine KP.out.mono ?_
      rintro en w4 ⟨rfl, hb⟩
      clear q0 eg KP
      replace HP := Lib.hid ((hb.block _ (lt_of_block HP.out)).trans HP.out)
      replace HQ := Lib.hid ((hb.block _ (lt_of_block HQ.out)).trans HQ.out)
      replace HZ := Lib.hid ((hb.block _ (lt_of_block HZ.out)).trans HZ.out)
      replace B := Lib.hid (B.out.trans (hb.mono B.out.size))
      clear hb
      rcases j1 with _ | _
      · obtain ⟨H, hH⟩ : ∃ H, G = H := ⟨_, rfl⟩
        have HH := Lib.hid (show ∀ x : Nat, H x = G x + ind (false && decide ((x1 : Int) = (x : Int))) fk from fun x => by rw [hH]; simp [ind])
        rw [hH] at HQ
        clear hH
        have q1 : w4.cell? ⟨P, 1, none⟩ = some (.int .i64 (x2 : Int)) := by rw [cell_row HP.out]; rfl
        have kp2 := HT.out w4 (x2 : Int) Hx2.out B.out
        rw [HJ2.out] at kp2
        have KP2 := Lib.hid kp2
        clear kp2
        have eg := Heg.out
        go_wp2_with fail
        clear q1
        refine KP2.out.mono ?_
        rintro en w6 ⟨rfl, hb⟩
        replace HP := Lib.hid ((hb.block _ (lt_of_block HP.out)).trans HP.out)
        replace HQ := Lib.hid ((hb.block _ (lt_of_block HQ.out)).trans HQ.out)
        replace HZ := Lib.hid ((hb.block _ (lt_of_block HZ.out)).trans HZ.out)
        replace B := Lib.hid (B.out.trans (hb.mono B.out.size))
        clear hb KP2 eg
        rcases j2 with _ | _
        · have HF := Lib.hid (show outK b.zs f p (k + 1) = H from funext fun x => by rw [Hst.out x, HH.out x, HJ1.out, HJ2.out]; simp [ind])
          go_wp2_with fail
          go_roundw
          case rel => exact ⟨k + 1, by have := Hlt.out; omega, by go_num, Lib.hid ⟨HZ.out, by rw [HF.out]; exact HQ.out, B.out⟩⟩
          case measure => have := Hlt.out; simp [intOf]; omega
        · have q1 : w6.cell? ⟨P, 1, none⟩ = some (.int .i64 (x2 : Int)) := by rw [cell_row HP.out]; rfl
          have r1 : w6.cell? ⟨R + 1, x2, none⟩ = some (.int .i64 (H x2)) := by rw [cell_row HQ.out]; exact gV_at H x2 l2
          have fz := frozen_row (k := x2) HQ.out
          have hwn : IntKind.i64.wrap (H x2 - fk) = H x2 - fk := IntWalk.i64_in _ (by have h1 := Hbo.out x2; have h2 := HH.out x2; have h3 := Hsm.out; have h4 := Hok.out.n; unfold ind at h2; split at h2 <;> omega)
          have HF := Lib.hid (show outK b.zs f p (k + 1) = fun x => if x = x2 then H x2 - fk else H x from funext fun x => by
            rw [Hst.out x, HJ1.out, HJ2.out]
            by_cases e : x = x2
            · subst e; rw [if_pos rfl, HH.out x]; simp [ind]
            · have e2 : ¬ (x2 : Int) = (x : Int) := by omega
              rw [if_neg e, HH.out x]; simp [ind, e2])
          have HQ7 := Lib.hid (set_same x2 (.int .i64 (H x2 - fk)) HQ.out)
          have HZ7 := Lib.hid ((Below.heap_setCell w6 ⟨R + 1, x2, none⟩ (.int .i64 (H x2 - fk)) R (by simp)).trans HZ.out)
          have B7 := Lib.hid (B.out.trans ((keeps_setCell w6 (R + 1) x2 (.int .i64 (H x2 - fk))).below B.out.size (fun j hj e => by have := HR.out; omega)))
          go_wp2_with fail
          go_roundw
          case rel => exact ⟨k + 1, by have := Hlt.out; omega, by go_num, Lib.hid ⟨HZ7.out, by rw [HF.out, ← gV_set]; exact HQ7.out, B7.out⟩⟩
          case measure => have := Hlt.out; simp [intOf]; omega
      · have q0 : w4.cell? ⟨P, 0, none⟩ = some (.int .i64 (x1 : Int)) := by rw [cell_row HP.out]; rfl
        have q1 : (w4.setCell ⟨R + 1, x1, none⟩ (.int .i64 (G x1 + fk))).cell? ⟨P, 1, none⟩ = some (.int .i64 (x2 : Int)) := by rw [cell_row ((Below.heap_setCell w4 ⟨R + 1, x1, none⟩ (.int .i64 (G x1 + fk)) P (by have := HPR.out; simp only; omega)).trans HP.out)]; rfl
        have r1 : w4.cell? ⟨R + 1, x1, none⟩ = some (.int .i64 (G x1)) := by rw [cell_row HQ.out]; exact gV_at G x1 l1
        have fz := frozen_row (k := x1) HQ.out
        have hwn : IntKind.i64.wrap (G x1 + fk) = G x1 + fk := IntWalk.i64_in _ (by have h1 := Hbo.out x1; have h3 := Hsm.out; have h4 := Hok.out.n; omega)
        replace HP := Lib.hid ((Below.heap_setCell w4 ⟨R + 1, x1, none⟩ (.int .i64 (G x1 + fk)) P (by have := HPR.out; simp only; omega)).trans HP.out)
        have hq := set_same x1 (.int .i64 (G x1 + fk)) HQ.out
        rw [gV_set] at hq
        replace HQ := Lib.hid hq
        replace HZ := Lib.hid ((Below.heap_setCell w4 ⟨R + 1, x1, none⟩ (.int .i64 (G x1 + fk)) R (by simp)).trans HZ.out)
        replace B := Lib.hid (B.out.trans ((keeps_setCell w4 (R + 1) x1 (.int .i64 (G x1 + fk))).below B.out.size (fun j hj e => by have := HR.out; omega)))
        obtain ⟨H, hH⟩ : ∃ H, (fun x => if x = x1 then G x1 + fk else G x) = H := ⟨_, rfl⟩
        have HH := Lib.hid (show ∀ x : Nat, H x = G x + ind (true && decide ((x1 : Int) = (x : Int))) fk from fun x => by
          rw [← hH]
          by_cases e : x = x1
          · subst e; simp [ind]
          · have e2 : ¬ (x1 : Int) = (x : Int) := by omega
            simp [ind, e, e2])
        rw [hH] at HQ
        obtain ⟨w5, hw5⟩ : ∃ v, w4.setCell ⟨R + 1, x1, none⟩ (.int .i64 (G x1 + fk)) = v := ⟨_, rfl⟩
        rw [hw5] at HP HQ HZ B
        have Hw5 := Lib.hid hw5
        clear hH hq hw5
        have kp2 := HT.out w5 (x2 : Int) Hx2.out B.out
        rw [HJ2.out] at kp2
        have KP2 := Lib.hid kp2
        clear kp2
        have eg := Heg.out
        go_wp2_with fail
        rw [Hw5.out]
        clear q0 q1 r1 fz hwn
        refine KP2.out.mono ?_
        rintro en w6 ⟨rfl, hb⟩
        replace HP := Lib.hid ((hb.block _ (lt_of_block HP.out)).trans HP.out)
        replace HQ := Lib.hid ((hb.block _ (lt_of_block HQ.out)).trans HQ.out)
        replace HZ := Lib.hid ((hb.block _ (lt_of_block HZ.out)).trans HZ.out)
        replace B := Lib.hid (B.out.trans (hb.mono B.out.size))
        clear hb KP2 eg
        rcases j2 with _ | _
        · have HF := Lib.hid (show outK b.zs f p (k + 1) = H from funext fun x => by rw [Hst.out x, HH.out x, HJ1.out, HJ2.out]; simp [ind])
          go_wp2_with fail
          go_roundw
          case rel => exact ⟨k + 1, by have := Hlt.out; omega, by go_num, Lib.hid ⟨HZ.out, by rw [HF.out]; exact HQ.out, B.out⟩⟩
          case measure => have := Hlt.out; simp [intOf]; omega
        · have q1 : w6.cell? ⟨P, 1, none⟩ = some (.int .i64 (x2 : Int)) := by rw [cell_row HP.out]; rfl
          have r1 : w6.cell? ⟨R + 1, x2, none⟩ = some (.int .i64 (H x2)) := by rw [cell_row HQ.out]; exact gV_at H x2 l2
          have fz := frozen_row (k := x2) HQ.out
          have hwn : IntKind.i64.wrap (H x2 - fk) = H x2 - fk := IntWalk.i64_in _ (by have h1 := Hbo.out x2; have h2 := HH.out x2; have h3 := Hsm.out; have h4 := Hok.out.n; unfold ind at h2; split at h2 <;> omega)
          have HF := Lib.hid (show outK b.zs f p (k + 1) = fun x => if x = x2 then H x2 - fk else H x from funext fun x => by
            rw [Hst.out x, HJ1.out, HJ2.out]
            by_cases e : x = x2
            · subst e; rw [if_pos rfl, HH.out x]; simp [ind]
            · have e2 : ¬ (x2 : Int) = (x : Int) := by omega
              rw [if_neg e, HH.out x]; simp [ind, e2])
          have HQ7 := Lib.hid (set_same x2 (.int .i64 (H x2 - fk)) HQ.out)
          have HZ7 := Lib.hid ((Below.heap_setCell w6 ⟨R + 1, x2, none⟩ (.int .i64 (H x2 - fk)) R (by simp)).trans HZ.out)
          have B7 := Lib.hid (B.out.trans ((keeps_setCell w6 (R + 1) x2 (.int .i64 (H x2 - fk))).below B.out.size (fun j hj e => by have := HR.out; omega)))
          go_wp2_with fail
          go_roundw
          case rel => exact ⟨k + 1, by have := Hlt.out; omega, by go_num, Lib.hid ⟨HZ7.out, by rw [HF.out, ← gV_set]; exact HQ7.out, B7.out⟩⟩
          case measure => have := Hlt.out; simp [intOf]; omega
    · obtain rfl : k = b.l.n := by omega
      have h109 := run_ld109 HX.out.2.1 (gV_size _)
      have hst9 := run_st109 HX.out.1 (gV_size _) (gV_size (outK b.zs f p b.l.n)) (gV_one _)
      have HZ := Lib.hid (setRow_same (gV (outK b.zs f p b.l.n)) HX.out.1)
      have HB := Lib.hid (HX.out.2.2.trans ((keeps_setRow wk R (gV (outK b.zs f p b.l.n))).below HX.out.2.2.size (fun j hj e => by have := HR.out; omega)))
      go_wp2_with fail
      refine bodyPost_ret (v := .agg (gV (outK b.zs f p b.l.n))) (res78 Try.results78 (by rfl) HZ.out (gV_size _)) rfl ?_
      exact ⟨rfl, HB.out⟩
end
end Go.Proofs.Ytigohccehllmnaa

namespace Go.Proofs.Ytigohccehllmnaa
set_option linter.unusedSimpArgs false
set_option linter.unusedVariables false
open Go.RowKit Go.Shelf

theorem info2b_ : (Try.prog.info? 2).map (fun i => (i.zero, i.size, i.bytes)) = some (some (.int .i64 0), 1, 8) := by kernel_rfl
theorem run_index109 (G : Nat → Int) (k : Nat) (hk : k < 40) (W : World) : (Instr.index 109 (.agg (gV G)) (.int .i64 (k : Int))).run Try.prog W = .ok (.int .i64 (G k)) W := by
  have h0 : (k : Int) < 40 := by omega
  obtain ⟨i, hi, hz, hs, hb⟩ := info_parts info2b_
  have h2 := gV_at G k hk
  have hlt : k < (gV G).size := by rw [gV_size]; exact hk
  rw [Array.getElem?_eq_getElem hlt] at h2
  simp [Instr.index, asIntOf, run_underlying Try.underlying109, h0, sizeOf, typeInfo, hi, hs, part, Try.underlying2, go_sem, hlt, Option.some.inj h2]
  intro h9; omega
theorem sumN_tail {n m : Nat} {g : Nat → Int} (h : n ≤ m) (hg : ∀ k, n ≤ k → k < m → g k = 0) : sumN m g = sumN n g := by
  induction m with
  | zero => obtain rfl : n = 0 := by omega
            rfl
  | succ m ih =>
    rcases Nat.lt_or_ge n (m + 1) with h2 | h2
    · show sumN m g + g m = _
      rw [hg m (by omega) (by omega), ih (by omega) (fun k h1 h3 => hg k h1 (by omega)), Int.add_zero]
    · obtain rfl : n = m + 1 := by omega
      rfl
theorem sumN_abs {n : Nat} {g : Nat → Int} {c : Int} (h : ∀ k, k < n → -c ≤ g k ∧ g k ≤ c) : -(c * (n : Int)) ≤ sumN n g ∧ sumN n g ≤ c * (n : Int) := by
  induction n with
  | zero => simp [sumN]
  | succ n ih =>
    have h1 := ih (fun k hk => h k (by omega))
    have h2 := h n (by omega)
    have h3 : c * ((n + 1 : Nat) : Int) = c * (n : Int) + c := by rw [show ((n + 1 : Nat) : Int) = (n : Int) + 1 by omega, Int.mul_add, Int.mul_one]
    show -(c * ((n + 1 : Nat) : Int)) ≤ sumN n g + g n ∧ sumN n g + g n ≤ c * ((n + 1 : Nat) : Int)
    rw [h3]
    omega
theorem great_sum {b : BD} {f : Nat → Int} (hok : BdOk b) : sumN 40 (outK b.zs f (fun x => decide (x ∈ b.l.ls)) b.l.n) = greatF b.zs f b.l.ls := by
  have hN := hok.N
  rw [sumN_tail (n := b.l.N.toNat) (by omega) (fun k h1 h2 => by
    rw [← hok.zl, outK_out, if_neg]
    simp only [decide_eq_true_eq]
    intro e
    have := ris_mem hok.lr _ e
    omega)]
  unfold greatF
  rw [net_sum hok.okl]
  refine sumN_congr fun k hk => ?_
  rw [← hok.zl, outK_out]
  rfl
section
attribute [local go_sem ↓] exec_app at_app
attribute [local go_sem] Oper.semAt_some
set_option maxRecDepth 100000 in
set_option maxHeartbeats 16000000 in
theorem great59 (b : BD) (f : Nat → Int) (w : World) (h : Bd w b f) (hok : BdOk b) (hf : Small b f) :
    Calls Try.prog 59 #[.pointer (some ⟨b.B, 0, none⟩)] w fun e w' => e = .returned (.int .i64 (greatF b.zs f b.l.ls)) ∧ Below w.heap.size w w' := by
  have D := Lib.hid h
  have Hok := Lib.hid hok
  have Hf := Lib.hid hf
  have c2 := h.c2
  have k49 := in49 b.l.LA b.l.ln b.l.lc b.l.ls w h.ls (by have := hok.ln; omega)
  clear h hok hf
  go_enter Try.func59, Try.ntmps59
  go_wp2_with fail
  refine k49.mono ?_
  rintro e1 w1 ⟨fv, rfl, hT, hb1⟩
  obtain ⟨gm, rm, lm, rfl, egm, hTm⟩ := hT (fun x => 0 ≤ x ∧ x < b.l.N)
  have k78 := out78 b f (fun x => decide (x ∈ b.l.ls)) gm rm lm w1 (D.out.below hb1 (Nat.le_refl _)) Hok.out Hf.out ⟨gm, rm, lm, rfl, egm, hTm⟩
  have HB1 := Lib.hid hb1
  have K78 := Lib.hid k78
  clear k49 hT egm hTm hb1 k78 c2
  go_wp2_with fail
  refine K78.out.mono ?_
  rintro e2 w2 ⟨rfl, hb2⟩
  have HB2 := Lib.hid (HB1.out.trans (hb2.mono HB1.out.size))
  have HE := Lib.hid (great_sum (f := f) Hok.out)
  have hbo := fun x => outK_le b.zs (fun x => decide (x ∈ b.l.ls)) Hf.out b.l.n (Nat.le_refl _) x
  have hn := Hok.out.n
  have Hbo := Lib.hid (show ∀ x : Nat, -240000000 ≤ outK b.zs f (fun x => decide (x ∈ b.l.ls)) b.l.n x ∧ outK b.zs f (fun x => decide (x ∈ b.l.ls)) b.l.n x ≤ 240000000 from fun x => by have := hbo x; omega)
  clear hb2 hbo hn K78
  obtain ⟨G, hG⟩ : ∃ G, outK b.zs f (fun x => decide (x ∈ b.l.ls)) b.l.n = G := ⟨_, rfl⟩
  rw [hG] at HE ⊢
  simp only [hG] at Hbo
  clear hG
  go_wp2_with fail
  go_loopw [3, 14] (fun v i wr => ∃ k : Nat, k ≤ 40 ∧ i = .int .i64 (k : Int) ∧ v = .int .i64 (sumN k G) ∧ wr = w2) (fun v i _ => 40 - (intOf i).toNat)
  case atStart => exact ⟨0, by omega, rfl, rfl, rfl⟩
  case round =>
    obtain ⟨k, hk9, rfl, rfl, rfl⟩ := hrel
    by_cases hlt : k < 40
    · have i0 : (0 : Int) ≤ (k : Int) := by omega
      have i1 : (k : Int) < 40 := by omega
      have ga := run_index109 G k hlt
      have hs := sumN_abs (n := k) (c := 240000000) (fun x _ => Hbo.out x)
      have hk := Hbo.out k
      have hwn : IntKind.i64.wrap (sumN k G + G k) = sumN k G + G k := IntWalk.i64_in _ (by omega)
      clear hs hk
      go_wp2_with fail
      go_roundw
      case rel => exact ⟨k + 1, by omega, by go_num, rfl, trivial⟩
      case measure => simp [intOf]; omega
    · obtain rfl : k = 40 := by omega
      go_wp2_with fail
      go_ret
      exact ⟨by rw [← HE.out] <;> rfl, HB2.out⟩
end
end Go.Proofs.Ytigohccehllmnaa
