/- Stage 6: what the document says of a flow. -/
import Derived.Test.YtigohccehllmnaaPy
namespace Go.Proofs.Ytigohccehllmnaa
set_option linter.unusedSimpArgs false
set_option linter.unusedVariables false
open Go.RowKit Go.Shelf
abbrev opRf0 : Oper := { dst := some 36, op := Go.Op.move (Go.Operand.tmp 1), type := 41, pos := "ref.go:287", after := #[], guard := none }
abbrev opRf1 : Oper := { dst := some 37, op := Go.Op.move (Go.Operand.tmp 7), type := 3, pos := "ref.go:287", after := #[], guard := none }
abbrev opRf2 : Oper := { dst := some 38, op := Go.Op.indexAddr 41 (Go.Operand.tmp 36) (Go.Operand.tmp 37), type := 0, pos := "ref.go:287", after := #[{ on := 0, ground := Go.Ground.data }, { on := 1, ground := Go.Ground.data }], guard := none }
abbrev opRf3 : Oper := { dst := some 39, op := Go.Op.load 2 (Go.Operand.tmp 38), type := 2, pos := "ref.go:287", after := #[{ on := 2, ground := Go.Ground.data }], guard := none }
abbrev opRf4 : Oper := { dst := some 40, op := Go.Op.fieldAddr 60 (Go.Operand.tmp 8) 2, type := 0, pos := "ref.go:287", after := #[], guard := none }
abbrev opRf5 : Oper := { dst := some 41, op := Go.Op.load 2 (Go.Operand.tmp 40), type := 2, pos := "ref.go:287", after := #[{ on := 4, ground := Go.Ground.data }], guard := none }
abbrev opRf6 : Oper := { dst := some 42, op := Go.Op.binOp Go.BinOp.gtr 2 (Go.Operand.tmp 39) (Go.Operand.tmp 41) 2, type := 4, pos := "ref.go:287", after := #[{ on := 3, ground := Go.Ground.data }, { on := 5, ground := Go.Ground.data }], guard := none }
abbrev opRf7 : Oper := { dst := some 43, op := Go.Op.move (Go.Operand.tmp 42), type := 4, pos := "ref.go:287", after := #[{ on := 6, ground := Go.Ground.data }], guard := none }
abbrev opRf8 : Oper := { dst := some 44, op := Go.Op.move (Go.Operand.tmp 1), type := 41, pos := "ref.go:287", after := #[{ on := 7, ground := Go.Ground.guard }], guard := some (7, false) }
abbrev opRf9 : Oper := { dst := some 45, op := Go.Op.move (Go.Operand.tmp 7), type := 3, pos := "ref.go:287", after := #[{ on := 7, ground := Go.Ground.guard }], guard := some (7, false) }
abbrev opRf10 : Oper := { dst := some 46, op := Go.Op.indexAddr 41 (Go.Operand.tmp 44) (Go.Operand.tmp 45), type := 0, pos := "ref.go:287", after := #[{ on := 8, ground := Go.Ground.data }, { on := 9, ground := Go.Ground.data }, { on := 7, ground := Go.Ground.guard }], guard := some (7, false) }
abbrev opRf11 : Oper := { dst := some 47, op := Go.Op.load 2 (Go.Operand.tmp 46), type := 2, pos := "ref.go:287", after := #[{ on := 10, ground := Go.Ground.data }, { on := 7, ground := Go.Ground.guard }], guard := some (7, false) }
abbrev opRf12 : Oper := { dst := some 48, op := Go.Op.fieldAddr 60 (Go.Operand.tmp 8) 2, type := 0, pos := "ref.go:287", after := #[{ on := 7, ground := Go.Ground.guard }], guard := some (7, false) }
abbrev opRf13 : Oper := { dst := some 49, op := Go.Op.load 2 (Go.Operand.tmp 48), type := 2, pos := "ref.go:287", after := #[{ on := 12, ground := Go.Ground.data }, { on := 7, ground := Go.Ground.guard }], guard := some (7, false) }
abbrev opRf14 : Oper := { dst := some 50, op := Go.Op.unOp Go.UnOp.neg 2 (Go.Operand.tmp 49), type := 2, pos := "ref.go:287", after := #[{ on := 13, ground := Go.Ground.data }, { on := 7, ground := Go.Ground.guard }], guard := some (7, false) }
abbrev opRf15 : Oper := { dst := some 51, op := Go.Op.binOp Go.BinOp.lss 2 (Go.Operand.tmp 47) (Go.Operand.tmp 50) 2, type := 4, pos := "ref.go:287", after := #[{ on := 11, ground := Go.Ground.data }, { on := 14, ground := Go.Ground.data }, { on := 7, ground := Go.Ground.guard }], guard := some (7, false) }
abbrev opRf16 : Oper := { dst := some 52, op := Go.Op.pick (Go.Operand.tmp 43) (Go.Operand.const (Go.Value.bool true)) (Go.Operand.tmp 51), type := 4, pos := "ref.go:287", after := #[{ on := 7, ground := Go.Ground.data }, { on := 15, ground := Go.Ground.data }], guard := none }

/-- A table of numbers. -/
def fV (c : Nat) (g : Nat → Int) : Array Value := ((List.range c).map fun j => Value.int .i64 (g j)).toArray
theorem fV_at (c : Nat) (g : Nat → Int) (j : Nat) (h : j < c) : (fV c g)[j]? = some (.int .i64 (g j)) := by simp [fV, h]
theorem fV_set (c : Nat) (g : Nat → Int) (j : Nat) (v : Int) : (fV c g).setIfInBounds j (.int .i64 v) = fV c (fun x => if x = j then v else g x) := by
  simp only [fV, List.setIfInBounds_toArray]
  congr 1
  apply List.ext_getElem?
  intro i
  by_cases hi : i < c
  · by_cases e : j = i
    · subst e; simp [hi]
    · have e2 : ¬ i = j := fun h => e h.symm
      simp [List.getElem?_set, e, hi, e2]
  · rw [List.getElem?_eq_none (by simp; omega), List.getElem?_eq_none (by simp; omega)]
theorem make40 (n : Nat) (hn : n ≤ 1000) (W : World) : (Instr.makeSlice 40 (.int .i64 (n : Int)) (.int .i64 (n : Int))).run Try.prog W = .ok (.slice (some ⟨W.heap.size, 0, none⟩) n n) (W.alloc (.cells (fV n (fun _ => 0)) 2)) := by
  obtain ⟨i, hi, hz, hs, hb⟩ := info_parts info2_
  have h := run_makeSlice (P := Try.prog) W 40 2 i _ Try.underlying40 hi hz .i64 .i64 (n : Int) (n : Int) (by omega) (by omega) (by rw [hs]; omega) (by rw [hb]; omega) (by omega)
  simp only [Int.toNat_natCast, hs, Nat.mul_one] at h
  rw [h]
  have e : madeCells (Value.int IntKind.i64 0).cells n = fV n (fun _ => 0) := by
    apply Array.ext'
    have : (Value.int IntKind.i64 0).cells = #[Value.int IntKind.i64 0] := rfl
    rw [this, toList_madeCells_one]
    simp [fV, List.map_const']
  rw [e]
def CellI (W : World) (b o : Nat) (v : Int) : Prop := W.cell? ⟨b, o, none⟩ = some (.int .i64 v)
theorem CellI.below {W W' : World} {b o Bs : Nat} {v : Int} (h : CellI W b o v) (hb : Below Bs W W') (hB : W.heap.size ≤ Bs) : CellI W' b o v := ((hb.mono hB).cell (lt_of_cell (w := W) (by unfold CellI at h; exact h))).trans h
def tT (_ : Int) : Bool := true
/-- The sum over the first names. -/
def grN (l : NL) (G : Nat → Int) (q : Nat) : Int := sumN q fun x => ind (decide ((x : Int) ∈ l.ls)) (G x)
theorem flow_bad {l : NL} {W : World} (h : chkL l = 0) (hn : NLs W l) {fs : List Int} {k : Nat} (hk : k < l.n) (hb : ¬ (-(lAt l.zs k).tr ≤ iAt fs k ∧ iAt fs k ≤ (lAt l.zs k).tr)) : flE l l.n fs = 14 := by
  unfold flE
  rw [layE_nil, h, if_neg (by decide), if_neg (by simp), fitK_no (k := k) (by rw [← Bool.not_eq_true, inB_iff]; exact hb) _ hk]
  rfl
theorem flow_bok {l : NL} {W : World} (h : chkL l = 0) (hn : NLs W l) : BdOk ⟨0, 0, 0, l, l.zs⟩ := bd_ok h hn [] rfl 0 0 0
theorem flow_no {l : NL} {W : World} (h : chkL l = 0) (hn : NLs W l) {fs : List Int} {x : Nat} (hx : (x : Int) < l.N) (h1 : (x : Int) ∉ l.ls) (h2 : (x : Int) ∉ l.rs) (hG : outK l.zs (fun j => iAt fs j) tT l.n x ≠ 0) : flE l l.n fs = 14 := by
  unfold flE
  rw [layE_nil, h, if_neg (by decide), if_neg (by simp)]
  have hr : rightB ⟨0, 0, 0, l, l.zs⟩ (fun j => iAt fs j) = false := by
    rw [← Bool.not_eq_true, rightB_iff (flow_bok h hn)]
    intro hr
    have := hr x (by simp only; omega) h1 h2
    rw [← hn.zs.1, outK_out] at hG
    exact hG this
  rw [hr, Bool.and_false]
  rfl
theorem flow_yes {l : NL} {W : World} (h : chkL l = 0) (hn : NLs W l) {fs : List Int} {c : Nat} (hc : l.N = (c : Int)) (hf : fitK l.zs (fun j => iAt fs j) l.n = true) (hz : ∀ x : Nat, x < c → (x : Int) ∉ l.ls → (x : Int) ∉ l.rs → outK l.zs (fun j => iAt fs j) tT l.n x = 0) :
    flE l l.n fs = 0 ∧ grE l l.n fs = grN l (outK l.zs (fun j => iAt fs j) tT l.n) c := by
  have e0 : flE l l.n fs = 0 := by
    unfold flE
    have hr : rightB ⟨0, 0, 0, l, l.zs⟩ (fun j => iAt fs j) = true := by
      rw [rightB_iff (flow_bok h hn)]
      intro x hx h1 h2
      have := hz x (by simp only at hx; omega) h1 h2
      rw [← hn.zs.1, outK_out] at this
      exact this
    rw [layE_nil, h, if_neg (by decide), if_neg (by simp), hf, hr]
    rfl
  refine ⟨e0, ?_⟩
  unfold grE
  rw [e0, if_pos rfl]
  unfold greatF
  have ho : OkL c l.zs := by
    have := (flow_bok h hn).okl
    simp only [hc, Int.toNat_natCast] at this
    exact this
  rw [net_sum ho]
  unfold grN
  refine sumN_congr fun x hx => ?_
  rw [← hn.zs.1, outK_out]
  rfl
theorem grN_le (l : NL) {G : Nat → Int} (h : ∀ x, -1000000000 ≤ G x ∧ G x ≤ 1000000000) : ∀ q : Nat, -(1000000000 * ((q : Nat) : Int)) ≤ grN l G q ∧ grN l G q ≤ 1000000000 * ((q : Nat) : Int)
  | 0 => by simp [grN, sumN]
  | q + 1 => by
    have h1 := grN_le l h q
    have h2 := h q
    have h3 : grN l G (q + 1) = grN l G q + ind (decide ((q : Int) ∈ l.ls)) (G q) := rfl
    rw [h3]
    unfold ind
    split <;> omega
theorem out_fit {l : NL} {W : World} (h : chkL l = 0) (hn : NLs W l) {f : Nat → Int} {k : Nat} (hk : k ≤ l.n) (hf : fitK l.zs f k = true) (x : Nat) : -(2000000 * (k : Int)) ≤ outK l.zs f tT k x ∧ outK l.zs f tT k x ≤ 2000000 * (k : Int) :=
  outK_le l.zs tT (n := k) (fun j hj => by have h1 := fitK_iff.1 hf j hj; have h2 := chk_tr h hn j (by omega); omega) k (Nat.le_refl _) x
section
attribute [local go_sem ↓] exec_app at_app
attribute [local go_sem] Oper.semAt_some
set_option maxRecDepth 100000 in
set_option maxHeartbeats 16000000 in
theorem refCheckFlow27 (l : NL) (FA : Option Addr) (fn fc : Nat) (fs : List Int) (w : World) (h : NLs w l) (hS : Ints w FA fn fs) (hf6 : fn ≤ 1000000) :
    Calls Try.prog 27 #[.agg #[.int .i64 l.N, .slice l.A l.n l.cap, .slice l.LA l.ln l.lc, .slice l.RA l.rn l.rc], .slice FA fn fc] w fun e w' => e = .returned (.tuple #[.int .i64 (grE l fn fs), .int .i64 (flE l fn fs)]) ∧ Below w.heap.size w w' := by
  obtain ⟨R, hR⟩ : ∃ v, w.heap.size = v := ⟨_, rfl⟩
  have hb0 := below_alloc_ w (.cells #[.int .i64 l.N, .slice l.A l.n l.cap, .slice l.LA l.ln l.lc, .slice l.RA l.rn l.rc] 25)
  have hr0 := heap_alloc_new_ w (.cells #[.int .i64 l.N, .slice l.A l.n l.cap, .slice l.LA l.ln l.lc, .slice l.RA l.rn l.rc] 25)
  have hz0 : (w.alloc (.cells #[.int .i64 l.N, .slice l.A l.n l.cap, .slice l.LA l.ln l.lc, .slice l.RA l.rn l.rc] 25)).heap.size = w.heap.size + 1 := by simp
  obtain ⟨w0, hw0⟩ : ∃ v, w.alloc (.cells #[.int .i64 l.N, .slice l.A l.n l.cap, .slice l.LA l.ln l.lc, .slice l.RA l.rn l.rc] 25) = v := ⟨_, rfl⟩
  rw [hw0] at hb0 hr0 hz0
  rw [hR] at hr0 hz0
  have hB := hb0
  have S := Lib.hid (h.below hB (Nat.le_refl _))
  have SF := Lib.hid (hS.below hB (Nat.le_refl _))
  have X := Lib.hid hr0
  have HW0 := Lib.hid hw0
  have B := Lib.hid hB
  have HR := Lib.hid hR
  clear hB hR hb0 hr0 hz0 hw0 h hS
  have Hf6 := Lib.hid hf6
  clear hf6
  have ltX : R < w0.heap.size := lt_of_block X.out
  have zX0 : w0.cell? ⟨R, 0, none⟩ = some (.int .i64 l.N) := by rw [cell_row X.out]; rfl
  have zX1 : w0.cell? ⟨R, 1, none⟩ = some (.slice l.A l.n l.cap) := by rw [cell_row X.out]; rfl
  have zX2 : w0.cell? ⟨R, 2, none⟩ = some (.slice l.LA l.ln l.lc) := by rw [cell_row X.out]; rfl
  have zX3 : w0.cell? ⟨R, 3, none⟩ = some (.slice l.RA l.rn l.rc) := by rw [cell_row X.out]; rfl
  go_enter Try.func27, Try.ntmps27
  go_wp2_with fail
  try rw [HW0.out]
  try rw [HR.out]
  try simp only [Nat.add_assoc, Nat.reduceAdd]
  try go_wp2_with fail
  clear zX0 zX1 zX2 zX3 ltX
  refine (checkList18 l w0 S.out).mono ?_
  rintro en w1 ⟨rfl, hb⟩
  replace S := Lib.hid (S.out.below hb (Nat.le_refl _))
  replace SF := Lib.hid (SF.out.below hb (Nat.le_refl _))
  replace X := Lib.hid ((hb.block _ (lt_of_block X.out)).trans X.out)
  replace B := Lib.hid (B.out.trans (hb.mono B.out.size))
  obtain ⟨c9, hc⟩ : ∃ v, chkL l = v := ⟨_, rfl⟩
  rw [hc]
  have HC := Lib.hid hc
  clear hc
  try clear hb
  have ltX : R < w1.heap.size := lt_of_block X.out
  have zX0 : w1.cell? ⟨R, 0, none⟩ = some (.int .i64 l.N) := by rw [cell_row X.out]; rfl
  have zX1 : w1.cell? ⟨R, 1, none⟩ = some (.slice l.A l.n l.cap) := by rw [cell_row X.out]; rfl
  have zX2 : w1.cell? ⟨R, 2, none⟩ = some (.slice l.LA l.ln l.lc) := by rw [cell_row X.out]; rfl
  have zX3 : w1.cell? ⟨R, 3, none⟩ = some (.slice l.RA l.rn l.rc) := by rw [cell_row X.out]; rfl
  by_cases h0 : c9 = 0
  rotate_left
  · have d0 : (c9 != 0) = true := by rw [bne_iff_ne]; exact h0
    have HE2 := Lib.hid (show flE l fn fs = c9 by unfold flE; rw [layE_nil, HC.out, if_pos h0])
    have H0 := Lib.hid h0
    clear h0
    go_wp2_with fail
    refine (checkList18 l w1 S.out).mono ?_
    rintro en w2 ⟨rfl, hb⟩
    replace B := Lib.hid (B.out.trans (hb.mono B.out.size))
    clear hb
    go_wp2_with fail
    go_ret2
    exact ⟨by rw [grE_no HE2.out H0.out, HE2.out, HC.out] <;> rfl, B.out⟩
  subst h0
  by_cases he : fn = l.n
  rotate_left
  · have d0 : ((fn : Int) != (l.n : Int)) = true := by rw [bne_iff_ne]; omega
    have HE2 := Lib.hid (show flE l fn fs = 15 by unfold flE; rw [layE_nil, HC.out, if_neg (by decide), if_pos he])
    clear he
    go_wp2_with fail
    go_ret2
    exact ⟨by rw [grE_no HE2.out (by decide), HE2.out] <;> rfl, B.out⟩
  subst he
  have d0 : ((l.n : Int) != (l.n : Int)) = false := by rw [bne_eq_false_iff_eq]
  have hnn := (chk_zero HC.out).2.1
  have hN := (chk_zero HC.out).1
  obtain ⟨c, hcN⟩ : ∃ c : Nat, l.N = (c : Int) := ⟨l.N.toNat, by omega⟩
  have hc40 : c ≤ 40 := by omega
  rw [hcN] at zX0
  have hmk := make40 c (by omega) w1
  have HCN := Lib.hid hcN
  have hb := below_alloc_ w1 (.cells (fV c (fun _ => 0)) 2)
  have hrZ := heap_alloc_new_ w1 (.cells (fV c (fun _ => 0)) 2)
  obtain ⟨w2, hw2⟩ : ∃ v, w1.alloc (.cells (fV c (fun _ => 0)) 2) = v := ⟨_, rfl⟩
  obtain ⟨Z, hZ⟩ : ∃ v, w1.heap.size = v := ⟨_, rfl⟩
  rw [hw2] at hb hrZ hmk
  rw [hZ] at hrZ hmk
  have HZw := Lib.hid (show w.heap.size ≤ Z by rw [← hZ]; exact B.out.size)
  have HZ1 := Lib.hid (show w1.heap.size ≤ Z by rw [hZ]; exact Nat.le_refl _)
  have S1 := Lib.hid (S.out.below hb (Nat.le_refl _))
  have SF1 := Lib.hid (SF.out.below hb (Nat.le_refl _))
  have X1 := Lib.hid ((hb.block _ (lt_of_block X.out)).trans X.out)
  have HRZ := Lib.hid (show R < Z by rw [← hZ]; exact lt_of_block X.out)
  have Hb := Lib.hid hb
  have H0 := Lib.hid (show w2.heap[Z]? = some (.cells (fV c (outK l.zs (fun j => iAt fs j) tT 0)) 2 (0, 0)) ∧ Below w1.heap.size w1 w2 from ⟨hrZ, hb⟩)
  have Hc40 := Lib.hid hc40
  clear hcN hN hb hrZ hw2 hZ
  go_upto_region 6 with fail
  clear hmk zX0 zX1 zX2 zX3 ltX d0
  go_wp2_with fail
  obtain ⟨f, hf⟩ : ∃ f : Nat → Int, (fun j => iAt fs j) = f := ⟨_, rfl⟩
  have Hff := Lib.hid hf
  rw [hf] at H0
  clear hf
  go_loopw [7, 8] (fun i p wr => ∃ k : Nat, k ≤ l.n ∧ i = .int .i64 (k : Int) ∧ Hid (fitK l.zs f k = true) ∧ Hid (wr.heap[Z]? = some (.cells (fV c (outK l.zs f tT k)) 2 (0, 0)) ∧ Below w1.heap.size w1 wr)) (fun i p _ => l.n - (intOf i).toNat)
  case atStart => exact ⟨0, Nat.zero_le _, rfl, Lib.hid rfl, H0⟩
  case round =>
    obtain ⟨k, hk9, rfl, HT, HX⟩ := hrel
    obtain ⟨wk, rfl⟩ : ∃ wk, wk = wr := ⟨_, rfl⟩
    have hnn := (chk_zero HC.out).2.1
    have SK := Lib.hid (S.out.below HX.out.2 (Nat.le_refl _))
    have SFK := Lib.hid (SF.out.below HX.out.2 (Nat.le_refl _))
    have XK := Lib.hid ((HX.out.2.block _ (lt_of_block X.out)).trans X.out)
    by_cases hlt : k < l.n
    · obtain ⟨bz, oz, hA, hcz⟩ := SK.out.zs.2 (by omega)
      obtain ⟨bf, of_, hAf, hcf⟩ := SFK.out.2 (by omega)
      subst hAf
      obtain ⟨z0, z1, z2⟩ := hcz k hlt
      have v0 := hcf k hlt
      have zb : wk.cell? ⟨R, 1, none⟩ = some (.slice (some ⟨bz, oz, none⟩) l.n l.cap) := by rw [← hA, cell_row XK.out]; rfl
      have htr := chk_tr HC.out S.out k hlt
      have ok := (flow_bok HC.out S.out).ok k hlt
      have hff : iAt fs k = f k := by rw [← Hff.out]
      rw [hff] at v0
      have HBAD := Lib.hid (show ¬ (-(lAt l.zs k).tr ≤ f k ∧ f k ≤ (lAt l.zs k).tr) → flE l l.n fs = 14 from fun e => flow_bad HC.out S.out hlt (by rw [hff]; exact e))
      have HOK := Lib.hid (show (-(lAt l.zs k).tr ≤ f k ∧ f k ≤ (lAt l.zs k).tr) → fitK l.zs f (k + 1) = true from fun e => by simp only [fitK]; rw [HT.out, Bool.true_and, inB_iff]; exact e)
      have hbo := out_fit HC.out S.out hk9 HT.out
      have hst : ∀ x : Nat, outK l.zs f tT (k + 1) x = outK l.zs f tT k x + ind (tT (lAt l.zs k).one && decide ((lAt l.zs k).one = (x : Int))) (f k) - ind (tT (lAt l.zs k).two && decide ((lAt l.zs k).two = (x : Int))) (f k) := fun x => rfl
      obtain ⟨g3, hg⟩ : ∃ g, lAt l.zs k = g := ⟨_, rfl⟩
      obtain ⟨fk, hfk⟩ : ∃ g, f k = g := ⟨_, rfl⟩
      have ok' : (0 ≤ (lAt l.zs k).one ∧ (lAt l.zs k).one < l.N) ∧ (0 ≤ (lAt l.zs k).two ∧ (lAt l.zs k).two < l.N) := ⟨ok.1, ok.2.1⟩
      clear ok
      rw [hg] at z0 z1 z2 ok' htr HBAD HOK
      rw [hfk] at v0 HBAD HOK
      simp only [hg, hfk] at hst
      obtain ⟨gl, gh, gt⟩ := g3
      simp only at z0 z1 z2 ok' htr HBAD HOK hst
      obtain ⟨x1, hx1⟩ : ∃ x : Nat, gl = (x : Int) := ⟨gl.toNat, by omega⟩
      obtain ⟨x2, hx2⟩ : ∃ x : Nat, gh = (x : Int) := ⟨gh.toNat, by omega⟩
      subst hx1 hx2
      have hcN := HCN.out
      have l1 : x1 < c := by omega
      have l2 : x2 < c := by omega
      clear hcN
      have i0 : (0 : Int) ≤ (k : Int) := by omega
      have i1 : (k : Int) < (l.n : Int) := by omega
      have i2 : (0 : Int) ≤ (x1 : Int) := by omega
      have i3 : (x1 : Int) < (c : Int) := by omega
      have i4 : (0 : Int) ≤ (x2 : Int) := by omega
      have i5 : (x2 : Int) < (c : Int) := by omega
      obtain ⟨G, hG⟩ : ∃ G, outK l.zs f tT k = G := ⟨_, rfl⟩
      rw [hG] at HX hbo
      simp only [hG] at hst
      have hb := below_alloc_ wk (.cells #[.int .i64 (x1 : Int), .int .i64 (x2 : Int), .int .i64 gt] 60)
      have hrP := heap_alloc_new_ wk (.cells #[.int .i64 (x1 : Int), .int .i64 (x2 : Int), .int .i64 gt] 60)
      obtain ⟨w3, hw3⟩ : ∃ v, wk.alloc (.cells #[.int .i64 (x1 : Int), .int .i64 (x2 : Int), .int .i64 gt] 60) = v := ⟨_, rfl⟩
      obtain ⟨P, hP⟩ : ∃ v, wk.heap.size = v := ⟨_, rfl⟩
      rw [hw3] at hb hrP
      rw [hP] at hrP
      have hPZ : Z < P := by have := lt_of_block HX.out.1; omega
      have HP := Lib.hid hrP
      have HQ := Lib.hid ((hb.block _ (lt_of_block HX.out.1)).trans HX.out.1)
      have B1 := Lib.hid (HX.out.2.trans (hb.mono HX.out.2.size))
      have v1 : w3.cell? ⟨bf, of_ + k, none⟩ = some (.int .i64 fk) := (hb.cell (lt_of_cell v0)).trans v0
      have Hbf := Lib.hid (show bf < Z by
        have h1 := SF.out.2 (by omega)
        obtain ⟨b9, o9, e9, h9⟩ := h1
        cases e9
        have := lt_of_cell (h9 k hlt)
        have := HZ1.out
        omega)
      have HV := Lib.hid (show CellI w3 bf (of_ + k) fk from v1)
      have Hw3 := Lib.hid hw3
      have HPe := Lib.hid hP
      have HPZ := Lib.hid hPZ
      have Hst := Lib.hid hst
      have Hbo := Lib.hid hbo
      have Htr := Lib.hid htr
      clear hb hrP hw3 hP hPZ hst hbo hG hg hfk hff ok' HX hA hcz hcf v1 htr
      go_upto_region 10 with fail
      rw [Hw3.out]
      rw [HPe.out]
      clear zb z0 z1 z2 v0
      have hwn : IntKind.i64.wrap (-gt) = -gt := IntWalk.i64_in _ (by have := Htr.out; omega)
      have i6 : (k : Int) + (of_ : Int) = ((of_ + k : Nat) : Int) := by omega
      clear i6
      by_cases C1 : gt < fk
      · have dC1 : decide (gt < fk) = true := decide_eq_true C1
        have HE2 := Lib.hid (HBAD.out (by omega))
        have ltHP : P < w3.heap.size := lt_of_block HP.out
        have zHP0 : w3.cell? ⟨P, 0, none⟩ = some (.int .i64 (x1 : Int)) := by rw [cell_row HP.out]; rfl
        have zHP1 : w3.cell? ⟨P, 1, none⟩ = some (.int .i64 (x2 : Int)) := by rw [cell_row HP.out]; rfl
        have zHP2 : w3.cell? ⟨P, 2, none⟩ = some (.int .i64 gt) := by rw [cell_row HP.out]; rfl
        have v1 : w3.cell? ⟨bf, of_ + k, none⟩ = some (.int .i64 fk) := HV.out
        refine wp_region_held_drew (S := fun w2 => Below w3.heap.size w3 w2) (by kernel_rfl) (drew_b _ _) (fun hS0 => ?_)
        refine wpAnyH_take (i := 0) (oi := opRf0) (v := .slice (some ⟨bf, of_, none⟩) l.n fc) rfl (by kernel_rfl) (by kernel_rfl) (by kernel_rfl) (fun _ _ _ h => h) (Or.inl ⟨by rfl, by intro w2 hSw; (try dsimp only at hSw); have yHP0 := (hSw.cell (lt_of_cell zHP0)).trans zHP0; have yHP1 := (hSw.cell (lt_of_cell zHP1)).trans zHP1; have yHP2 := (hSw.cell (lt_of_cell zHP2)).trans zHP2; have yv1 := (hSw.cell (lt_of_cell v1)).trans v1;  go_simp⟩) hS0 ?_
        try simp only [Act.put, List.setIfInBounds_toArray, List.set_cons_zero, List.set_cons_succ]
        refine wpAnyH_take (i := 1) (oi := opRf1) (v := .int .i64 (k : Int)) rfl (by kernel_rfl) (by kernel_rfl) (by kernel_rfl) (fun _ _ _ h => h) (Or.inl ⟨by rfl, by intro w2 hSw; (try dsimp only at hSw); have yHP0 := (hSw.cell (lt_of_cell zHP0)).trans zHP0; have yHP1 := (hSw.cell (lt_of_cell zHP1)).trans zHP1; have yHP2 := (hSw.cell (lt_of_cell zHP2)).trans zHP2; have yv1 := (hSw.cell (lt_of_cell v1)).trans v1;  go_simp⟩) hS0 ?_
        try simp only [Act.put, List.setIfInBounds_toArray, List.set_cons_zero, List.set_cons_succ]
        refine wpAnyH_take (i := 2) (oi := opRf2) (v := .pointer (some ⟨bf, of_ + k, none⟩)) rfl (by kernel_rfl) (by kernel_rfl) (by kernel_rfl) (fun _ _ _ h => h) (Or.inl ⟨by rfl, by intro w2 hSw; (try dsimp only at hSw); have yHP0 := (hSw.cell (lt_of_cell zHP0)).trans zHP0; have yHP1 := (hSw.cell (lt_of_cell zHP1)).trans zHP1; have yHP2 := (hSw.cell (lt_of_cell zHP2)).trans zHP2; have yv1 := (hSw.cell (lt_of_cell v1)).trans v1;  go_simp⟩) hS0 ?_
        try simp only [Act.put, List.setIfInBounds_toArray, List.set_cons_zero, List.set_cons_succ]
        refine wpAnyH_take (i := 3) (oi := opRf3) (v := .int .i64 fk) rfl (by kernel_rfl) (by kernel_rfl) (by kernel_rfl) (fun _ _ _ h => h) (Or.inl ⟨by rfl, by intro w2 hSw; (try dsimp only at hSw); have yHP0 := (hSw.cell (lt_of_cell zHP0)).trans zHP0; have yHP1 := (hSw.cell (lt_of_cell zHP1)).trans zHP1; have yHP2 := (hSw.cell (lt_of_cell zHP2)).trans zHP2; have yv1 := (hSw.cell (lt_of_cell v1)).trans v1;  go_simp⟩) hS0 ?_
        try simp only [Act.put, List.setIfInBounds_toArray, List.set_cons_zero, List.set_cons_succ]
        refine wpAnyH_take (i := 4) (oi := opRf4) (v := .pointer (some ⟨P, 2, none⟩)) rfl (by kernel_rfl) (by kernel_rfl) (by kernel_rfl) (fun _ _ _ h => h) (Or.inl ⟨by rfl, by intro w2 hSw; (try dsimp only at hSw); have yHP0 := (hSw.cell (lt_of_cell zHP0)).trans zHP0; have yHP1 := (hSw.cell (lt_of_cell zHP1)).trans zHP1; have yHP2 := (hSw.cell (lt_of_cell zHP2)).trans zHP2; have yv1 := (hSw.cell (lt_of_cell v1)).trans v1;  go_simp⟩) hS0 ?_
        try simp only [Act.put, List.setIfInBounds_toArray, List.set_cons_zero, List.set_cons_succ]
        refine wpAnyH_take (i := 5) (oi := opRf5) (v := .int .i64 gt) rfl (by kernel_rfl) (by kernel_rfl) (by kernel_rfl) (fun _ _ _ h => h) (Or.inl ⟨by rfl, by intro w2 hSw; (try dsimp only at hSw); have yHP0 := (hSw.cell (lt_of_cell zHP0)).trans zHP0; have yHP1 := (hSw.cell (lt_of_cell zHP1)).trans zHP1; have yHP2 := (hSw.cell (lt_of_cell zHP2)).trans zHP2; have yv1 := (hSw.cell (lt_of_cell v1)).trans v1;  go_simp⟩) hS0 ?_
        try simp only [Act.put, List.setIfInBounds_toArray, List.set_cons_zero, List.set_cons_succ]
        refine wpAnyH_take (i := 6) (oi := opRf6) (v := .bool true) rfl (by kernel_rfl) (by kernel_rfl) (by kernel_rfl) (fun _ _ _ h => h) (Or.inl ⟨by rfl, by intro w2 hSw; (try dsimp only at hSw); have yHP0 := (hSw.cell (lt_of_cell zHP0)).trans zHP0; have yHP1 := (hSw.cell (lt_of_cell zHP1)).trans zHP1; have yHP2 := (hSw.cell (lt_of_cell zHP2)).trans zHP2; have yv1 := (hSw.cell (lt_of_cell v1)).trans v1;  go_simp⟩) hS0 ?_
        try simp only [Act.put, List.setIfInBounds_toArray, List.set_cons_zero, List.set_cons_succ]
        refine wpAnyH_take (i := 7) (oi := opRf7) (v := .bool true) rfl (by kernel_rfl) (by kernel_rfl) (by kernel_rfl) (fun _ _ _ h => h) (Or.inl ⟨by rfl, by intro w2 hSw; (try dsimp only at hSw); have yHP0 := (hSw.cell (lt_of_cell zHP0)).trans zHP0; have yHP1 := (hSw.cell (lt_of_cell zHP1)).trans zHP1; have yHP2 := (hSw.cell (lt_of_cell zHP2)).trans zHP2; have yv1 := (hSw.cell (lt_of_cell v1)).trans v1;  go_simp⟩) hS0 ?_
        try simp only [Act.put, List.setIfInBounds_toArray, List.set_cons_zero, List.set_cons_succ]
        refine wpAnyH_take (i := 8) (oi := opRf8) (v := undef) rfl (by kernel_rfl) (by kernel_rfl) (by kernel_rfl) (fun _ _ _ h => h) (Or.inr ⟨by rfl, rfl⟩) hS0 ?_
        try simp only [Act.put, List.setIfInBounds_toArray, List.set_cons_zero, List.set_cons_succ]
        refine wpAnyH_take (i := 9) (oi := opRf9) (v := undef) rfl (by kernel_rfl) (by kernel_rfl) (by kernel_rfl) (fun _ _ _ h => h) (Or.inr ⟨by rfl, rfl⟩) hS0 ?_
        try simp only [Act.put, List.setIfInBounds_toArray, List.set_cons_zero, List.set_cons_succ]
        refine wpAnyH_take (i := 10) (oi := opRf10) (v := undef) rfl (by kernel_rfl) (by kernel_rfl) (by kernel_rfl) (fun _ _ _ h => h) (Or.inr ⟨by rfl, rfl⟩) hS0 ?_
        try simp only [Act.put, List.setIfInBounds_toArray, List.set_cons_zero, List.set_cons_succ]
        refine wpAnyH_take (i := 11) (oi := opRf11) (v := undef) rfl (by kernel_rfl) (by kernel_rfl) (by kernel_rfl) (fun _ _ _ h => h) (Or.inr ⟨by rfl, rfl⟩) hS0 ?_
        try simp only [Act.put, List.setIfInBounds_toArray, List.set_cons_zero, List.set_cons_succ]
        refine wpAnyH_take (i := 12) (oi := opRf12) (v := undef) rfl (by kernel_rfl) (by kernel_rfl) (by kernel_rfl) (fun _ _ _ h => h) (Or.inr ⟨by rfl, rfl⟩) hS0 ?_
        try simp only [Act.put, List.setIfInBounds_toArray, List.set_cons_zero, List.set_cons_succ]
        refine wpAnyH_take (i := 13) (oi := opRf13) (v := undef) rfl (by kernel_rfl) (by kernel_rfl) (by kernel_rfl) (fun _ _ _ h => h) (Or.inr ⟨by rfl, rfl⟩) hS0 ?_
        try simp only [Act.put, List.setIfInBounds_toArray, List.set_cons_zero, List.set_cons_succ]
        refine wpAnyH_take (i := 14) (oi := opRf14) (v := undef) rfl (by kernel_rfl) (by kernel_rfl) (by kernel_rfl) (fun _ _ _ h => h) (Or.inr ⟨by rfl, rfl⟩) hS0 ?_
        try simp only [Act.put, List.setIfInBounds_toArray, List.set_cons_zero, List.set_cons_succ]
        refine wpAnyH_take (i := 15) (oi := opRf15) (v := undef) rfl (by kernel_rfl) (by kernel_rfl) (by kernel_rfl) (fun _ _ _ h => h) (Or.inr ⟨by rfl, rfl⟩) hS0 ?_
        try simp only [Act.put, List.setIfInBounds_toArray, List.set_cons_zero, List.set_cons_succ]
        refine wpAnyH_take (i := 16) (oi := opRf16) (v := .bool true) rfl (by kernel_rfl) (by kernel_rfl) (by kernel_rfl) (fun _ _ _ h => h) (Or.inl ⟨by rfl, by intro w2 hSw; (try dsimp only at hSw); have yHP0 := (hSw.cell (lt_of_cell zHP0)).trans zHP0; have yHP1 := (hSw.cell (lt_of_cell zHP1)).trans zHP1; have yHP2 := (hSw.cell (lt_of_cell zHP2)).trans zHP2; have yv1 := (hSw.cell (lt_of_cell v1)).trans v1;  go_simp⟩) hS0 ?_
        try simp only [Act.put, List.setIfInBounds_toArray, List.set_cons_zero, List.set_cons_succ]
        refine wpAnyH_done (by kernel_rfl) ?_ _
        clear zHP0 zHP1 zHP2 ltHP v1
        obtain ⟨w3d, hwd⟩ : ∃ v, w3.drew = v := ⟨_, rfl⟩
        have hb := hS0
        rw [hwd] at hb ⊢
        clear hS0 hwd
        replace HV := Lib.hid (HV.out.below hb (Nat.le_refl _))
        replace HP := Lib.hid ((hb.block _ (lt_of_block HP.out)).trans HP.out)
        replace HQ := Lib.hid ((hb.block _ (lt_of_block HQ.out)).trans HQ.out)
        replace B1 := Lib.hid (B1.out.trans (hb.mono B1.out.size))
        clear hb
        clear C1 dC1
        have HBB := Lib.hid (B.out.trans (B1.out.mono B.out.size))
        go_wp2_with fail
        go_ret2
        exact ⟨by rw [grE_no HE2.out (by decide), HE2.out] <;> rfl, HBB.out⟩
      have dC1 : decide (gt < fk) = false := decide_eq_false C1
      by_cases C2 : fk < -gt
      · have dC2 : decide (fk < -gt) = true := decide_eq_true C2
        have HE2 := Lib.hid (HBAD.out (by omega))
        have ltHP : P < w3.heap.size := lt_of_block HP.out
        have zHP0 : w3.cell? ⟨P, 0, none⟩ = some (.int .i64 (x1 : Int)) := by rw [cell_row HP.out]; rfl
        have zHP1 : w3.cell? ⟨P, 1, none⟩ = some (.int .i64 (x2 : Int)) := by rw [cell_row HP.out]; rfl
        have zHP2 : w3.cell? ⟨P, 2, none⟩ = some (.int .i64 gt) := by rw [cell_row HP.out]; rfl
        have v1 : w3.cell? ⟨bf, of_ + k, none⟩ = some (.int .i64 fk) := HV.out
        refine wp_region_held_drew (S := fun w2 => Below w3.heap.size w3 w2) (by kernel_rfl) (drew_b _ _) (fun hS0 => ?_)
        refine wpAnyH_take (i := 0) (oi := opRf0) (v := .slice (some ⟨bf, of_, none⟩) l.n fc) rfl (by kernel_rfl) (by kernel_rfl) (by kernel_rfl) (fun _ _ _ h => h) (Or.inl ⟨by rfl, by intro w2 hSw; (try dsimp only at hSw); have yHP0 := (hSw.cell (lt_of_cell zHP0)).trans zHP0; have yHP1 := (hSw.cell (lt_of_cell zHP1)).trans zHP1; have yHP2 := (hSw.cell (lt_of_cell zHP2)).trans zHP2; have yv1 := (hSw.cell (lt_of_cell v1)).trans v1;  go_simp⟩) hS0 ?_
        try simp only [Act.put, List.setIfInBounds_toArray, List.set_cons_zero, List.set_cons_succ]
        refine wpAnyH_take (i := 1) (oi := opRf1) (v := .int .i64 (k : Int)) rfl (by kernel_rfl) (by kernel_rfl) (by kernel_rfl) (fun _ _ _ h => h) (Or.inl ⟨by rfl, by intro w2 hSw; (try dsimp only at hSw); have yHP0 := (hSw.cell (lt_of_cell zHP0)).trans zHP0; have yHP1 := (hSw.cell (lt_of_cell zHP1)).trans zHP1; have yHP2 := (hSw.cell (lt_of_cell zHP2)).trans zHP2; have yv1 := (hSw.cell (lt_of_cell v1)).trans v1;  go_simp⟩) hS0 ?_
        try simp only [Act.put, List.setIfInBounds_toArray, List.set_cons_zero, List.set_cons_succ]
        refine wpAnyH_take (i := 2) (oi := opRf2) (v := .pointer (some ⟨bf, of_ + k, none⟩)) rfl (by kernel_rfl) (by kernel_rfl) (by kernel_rfl) (fun _ _ _ h => h) (Or.inl ⟨by rfl, by intro w2 hSw; (try dsimp only at hSw); have yHP0 := (hSw.cell (lt_of_cell zHP0)).trans zHP0; have yHP1 := (hSw.cell (lt_of_cell zHP1)).trans zHP1; have yHP2 := (hSw.cell (lt_of_cell zHP2)).trans zHP2; have yv1 := (hSw.cell (lt_of_cell v1)).trans v1;  go_simp⟩) hS0 ?_
        try simp only [Act.put, List.setIfInBounds_toArray, List.set_cons_zero, List.set_cons_succ]
        refine wpAnyH_take (i := 3) (oi := opRf3) (v := .int .i64 fk) rfl (by kernel_rfl) (by kernel_rfl) (by kernel_rfl) (fun _ _ _ h => h) (Or.inl ⟨by rfl, by intro w2 hSw; (try dsimp only at hSw); have yHP0 := (hSw.cell (lt_of_cell zHP0)).trans zHP0; have yHP1 := (hSw.cell (lt_of_cell zHP1)).trans zHP1; have yHP2 := (hSw.cell (lt_of_cell zHP2)).trans zHP2; have yv1 := (hSw.cell (lt_of_cell v1)).trans v1;  go_simp⟩) hS0 ?_
        try simp only [Act.put, List.setIfInBounds_toArray, List.set_cons_zero, List.set_cons_succ]
        refine wpAnyH_take (i := 4) (oi := opRf4) (v := .pointer (some ⟨P, 2, none⟩)) rfl (by kernel_rfl) (by kernel_rfl) (by kernel_rfl) (fun _ _ _ h => h) (Or.inl ⟨by rfl, by intro w2 hSw; (try dsimp only at hSw); have yHP0 := (hSw.cell (lt_of_cell zHP0)).trans zHP0; have yHP1 := (hSw.cell (lt_of_cell zHP1)).trans zHP1; have yHP2 := (hSw.cell (lt_of_cell zHP2)).trans zHP2; have yv1 := (hSw.cell (lt_of_cell v1)).trans v1;  go_simp⟩) hS0 ?_
        try simp only [Act.put, List.setIfInBounds_toArray, List.set_cons_zero, List.set_cons_succ]
        refine wpAnyH_take (i := 5) (oi := opRf5) (v := .int .i64 gt) rfl (by kernel_rfl) (by kernel_rfl) (by kernel_rfl) (fun _ _ _ h => h) (Or.inl ⟨by rfl, by intro w2 hSw; (try dsimp only at hSw); have yHP0 := (hSw.cell (lt_of_cell zHP0)).trans zHP0; have yHP1 := (hSw.cell (lt_of_cell zHP1)).trans zHP1; have yHP2 := (hSw.cell (lt_of_cell zHP2)).trans zHP2; have yv1 := (hSw.cell (lt_of_cell v1)).trans v1;  go_simp⟩) hS0 ?_
        try simp only [Act.put, List.setIfInBounds_toArray, List.set_cons_zero, List.set_cons_succ]
        refine wpAnyH_take (i := 6) (oi := opRf6) (v := .bool false) rfl (by kernel_rfl) (by kernel_rfl) (by kernel_rfl) (fun _ _ _ h => h) (Or.inl ⟨by rfl, by intro w2 hSw; (try dsimp only at hSw); have yHP0 := (hSw.cell (lt_of_cell zHP0)).trans zHP0; have yHP1 := (hSw.cell (lt_of_cell zHP1)).trans zHP1; have yHP2 := (hSw.cell (lt_of_cell zHP2)).trans zHP2; have yv1 := (hSw.cell (lt_of_cell v1)).trans v1;  go_simp⟩) hS0 ?_
        try simp only [Act.put, List.setIfInBounds_toArray, List.set_cons_zero, List.set_cons_succ]
        refine wpAnyH_take (i := 7) (oi := opRf7) (v := .bool false) rfl (by kernel_rfl) (by kernel_rfl) (by kernel_rfl) (fun _ _ _ h => h) (Or.inl ⟨by rfl, by intro w2 hSw; (try dsimp only at hSw); have yHP0 := (hSw.cell (lt_of_cell zHP0)).trans zHP0; have yHP1 := (hSw.cell (lt_of_cell zHP1)).trans zHP1; have yHP2 := (hSw.cell (lt_of_cell zHP2)).trans zHP2; have yv1 := (hSw.cell (lt_of_cell v1)).trans v1;  go_simp⟩) hS0 ?_
        try simp only [Act.put, List.setIfInBounds_toArray, List.set_cons_zero, List.set_cons_succ]
        refine wpAnyH_take (i := 8) (oi := opRf8) (v := .slice (some ⟨bf, of_, none⟩) l.n fc) rfl (by kernel_rfl) (by kernel_rfl) (by kernel_rfl) (fun _ _ _ h => h) (Or.inl ⟨by rfl, by intro w2 hSw; (try dsimp only at hSw); have yHP0 := (hSw.cell (lt_of_cell zHP0)).trans zHP0; have yHP1 := (hSw.cell (lt_of_cell zHP1)).trans zHP1; have yHP2 := (hSw.cell (lt_of_cell zHP2)).trans zHP2; have yv1 := (hSw.cell (lt_of_cell v1)).trans v1;  go_simp⟩) hS0 ?_
        try simp only [Act.put, List.setIfInBounds_toArray, List.set_cons_zero, List.set_cons_succ]
        refine wpAnyH_take (i := 9) (oi := opRf9) (v := .int .i64 (k : Int)) rfl (by kernel_rfl) (by kernel_rfl) (by kernel_rfl) (fun _ _ _ h => h) (Or.inl ⟨by rfl, by intro w2 hSw; (try dsimp only at hSw); have yHP0 := (hSw.cell (lt_of_cell zHP0)).trans zHP0; have yHP1 := (hSw.cell (lt_of_cell zHP1)).trans zHP1; have yHP2 := (hSw.cell (lt_of_cell zHP2)).trans zHP2; have yv1 := (hSw.cell (lt_of_cell v1)).trans v1;  go_simp⟩) hS0 ?_
        try simp only [Act.put, List.setIfInBounds_toArray, List.set_cons_zero, List.set_cons_succ]
        refine wpAnyH_take (i := 10) (oi := opRf10) (v := .pointer (some ⟨bf, of_ + k, none⟩)) rfl (by kernel_rfl) (by kernel_rfl) (by kernel_rfl) (fun _ _ _ h => h) (Or.inl ⟨by rfl, by intro w2 hSw; (try dsimp only at hSw); have yHP0 := (hSw.cell (lt_of_cell zHP0)).trans zHP0; have yHP1 := (hSw.cell (lt_of_cell zHP1)).trans zHP1; have yHP2 := (hSw.cell (lt_of_cell zHP2)).trans zHP2; have yv1 := (hSw.cell (lt_of_cell v1)).trans v1;  go_simp⟩) hS0 ?_
        try simp only [Act.put, List.setIfInBounds_toArray, List.set_cons_zero, List.set_cons_succ]
        refine wpAnyH_take (i := 11) (oi := opRf11) (v := .int .i64 fk) rfl (by kernel_rfl) (by kernel_rfl) (by kernel_rfl) (fun _ _ _ h => h) (Or.inl ⟨by rfl, by intro w2 hSw; (try dsimp only at hSw); have yHP0 := (hSw.cell (lt_of_cell zHP0)).trans zHP0; have yHP1 := (hSw.cell (lt_of_cell zHP1)).trans zHP1; have yHP2 := (hSw.cell (lt_of_cell zHP2)).trans zHP2; have yv1 := (hSw.cell (lt_of_cell v1)).trans v1;  go_simp⟩) hS0 ?_
        try simp only [Act.put, List.setIfInBounds_toArray, List.set_cons_zero, List.set_cons_succ]
        refine wpAnyH_take (i := 12) (oi := opRf12) (v := .pointer (some ⟨P, 2, none⟩)) rfl (by kernel_rfl) (by kernel_rfl) (by kernel_rfl) (fun _ _ _ h => h) (Or.inl ⟨by rfl, by intro w2 hSw; (try dsimp only at hSw); have yHP0 := (hSw.cell (lt_of_cell zHP0)).trans zHP0; have yHP1 := (hSw.cell (lt_of_cell zHP1)).trans zHP1; have yHP2 := (hSw.cell (lt_of_cell zHP2)).trans zHP2; have yv1 := (hSw.cell (lt_of_cell v1)).trans v1;  go_simp⟩) hS0 ?_
        try simp only [Act.put, List.setIfInBounds_toArray, List.set_cons_zero, List.set_cons_succ]
        refine wpAnyH_take (i := 13) (oi := opRf13) (v := .int .i64 gt) rfl (by kernel_rfl) (by kernel_rfl) (by kernel_rfl) (fun _ _ _ h => h) (Or.inl ⟨by rfl, by intro w2 hSw; (try dsimp only at hSw); have yHP0 := (hSw.cell (lt_of_cell zHP0)).trans zHP0; have yHP1 := (hSw.cell (lt_of_cell zHP1)).trans zHP1; have yHP2 := (hSw.cell (lt_of_cell zHP2)).trans zHP2; have yv1 := (hSw.cell (lt_of_cell v1)).trans v1;  go_simp⟩) hS0 ?_
        try simp only [Act.put, List.setIfInBounds_toArray, List.set_cons_zero, List.set_cons_succ]
        refine wpAnyH_take (i := 14) (oi := opRf14) (v := .int .i64 (-gt)) rfl (by kernel_rfl) (by kernel_rfl) (by kernel_rfl) (fun _ _ _ h => h) (Or.inl ⟨by rfl, by intro w2 hSw; (try dsimp only at hSw); have yHP0 := (hSw.cell (lt_of_cell zHP0)).trans zHP0; have yHP1 := (hSw.cell (lt_of_cell zHP1)).trans zHP1; have yHP2 := (hSw.cell (lt_of_cell zHP2)).trans zHP2; have yv1 := (hSw.cell (lt_of_cell v1)).trans v1;  go_simp⟩) hS0 ?_
        try simp only [Act.put, List.setIfInBounds_toArray, List.set_cons_zero, List.set_cons_succ]
        refine wpAnyH_take (i := 15) (oi := opRf15) (v := .bool true) rfl (by kernel_rfl) (by kernel_rfl) (by kernel_rfl) (fun _ _ _ h => h) (Or.inl ⟨by rfl, by intro w2 hSw; (try dsimp only at hSw); have yHP0 := (hSw.cell (lt_of_cell zHP0)).trans zHP0; have yHP1 := (hSw.cell (lt_of_cell zHP1)).trans zHP1; have yHP2 := (hSw.cell (lt_of_cell zHP2)).trans zHP2; have yv1 := (hSw.cell (lt_of_cell v1)).trans v1;  go_simp⟩) hS0 ?_
        try simp only [Act.put, List.setIfInBounds_toArray, List.set_cons_zero, List.set_cons_succ]
        refine wpAnyH_take (i := 16) (oi := opRf16) (v := .bool true) rfl (by kernel_rfl) (by kernel_rfl) (by kernel_rfl) (fun _ _ _ h => h) (Or.inl ⟨by rfl, by intro w2 hSw; (try dsimp only at hSw); have yHP0 := (hSw.cell (lt_of_cell zHP0)).trans zHP0; have yHP1 := (hSw.cell (lt_of_cell zHP1)).trans zHP1; have yHP2 := (hSw.cell (lt_of_cell zHP2)).trans zHP2; have yv1 := (hSw.cell (lt_of_cell v1)).trans v1;  go_simp⟩) hS0 ?_
        try simp only [Act.put, List.setIfInBounds_toArray, List.set_cons_zero, List.set_cons_succ]
        refine wpAnyH_done (by kernel_rfl) ?_ _
        clear zHP0 zHP1 zHP2 ltHP v1
        obtain ⟨w3d, hwd⟩ : ∃ v, w3.drew = v := ⟨_, rfl⟩
        have hb := hS0
        rw [hwd] at hb ⊢
        clear hS0 hwd
        replace HV := Lib.hid (HV.out.below hb (Nat.le_refl _))
        replace HP := Lib.hid ((hb.block _ (lt_of_block HP.out)).trans HP.out)
        replace HQ := Lib.hid ((hb.block _ (lt_of_block HQ.out)).trans HQ.out)
        replace B1 := Lib.hid (B1.out.trans (hb.mono B1.out.size))
        clear hb
        clear C1 dC1 C2 dC2
        have HBB := Lib.hid (B.out.trans (B1.out.mono B.out.size))
        go_wp2_with fail
        go_ret2
        exact ⟨by rw [grE_no HE2.out (by decide), HE2.out] <;> rfl, HBB.out⟩
      have dC2 : decide (fk < -gt) = false := decide_eq_false C2
      have HFK := Lib.hid (HOK.out (by omega))
      have Hsm := Lib.hid (show -1000000 ≤ fk ∧ fk ≤ 1000000 by have := Htr.out; omega)
      have ltHP : P < w3.heap.size := lt_of_block HP.out
      have zHP0 : w3.cell? ⟨P, 0, none⟩ = some (.int .i64 (x1 : Int)) := by rw [cell_row HP.out]; rfl
      have zHP1 : w3.cell? ⟨P, 1, none⟩ = some (.int .i64 (x2 : Int)) := by rw [cell_row HP.out]; rfl
      have zHP2 : w3.cell? ⟨P, 2, none⟩ = some (.int .i64 gt) := by rw [cell_row HP.out]; rfl
      have v1 : w3.cell? ⟨bf, of_ + k, none⟩ = some (.int .i64 fk) := HV.out
      refine wp_region_held_drew (S := fun w2 => Below w3.heap.size w3 w2) (by kernel_rfl) (drew_b _ _) (fun hS0 => ?_)
      refine wpAnyH_take (i := 0) (oi := opRf0) (v := .slice (some ⟨bf, of_, none⟩) l.n fc) rfl (by kernel_rfl) (by kernel_rfl) (by kernel_rfl) (fun _ _ _ h => h) (Or.inl ⟨by rfl, by intro w2 hSw; (try dsimp only at hSw); have yHP0 := (hSw.cell (lt_of_cell zHP0)).trans zHP0; have yHP1 := (hSw.cell (lt_of_cell zHP1)).trans zHP1; have yHP2 := (hSw.cell (lt_of_cell zHP2)).trans zHP2; have yv1 := (hSw.cell (lt_of_cell v1)).trans v1;  go_simp⟩) hS0 ?_
      try simp only [Act.put, List.setIfInBounds_toArray, List.set_cons_zero, List.set_cons_succ]
      refine wpAnyH_take (i := 1) (oi := opRf1) (v := .int .i64 (k : Int)) rfl (by kernel_rfl) (by kernel_rfl) (by kernel_rfl) (fun _ _ _ h => h) (Or.inl ⟨by rfl, by intro w2 hSw; (try dsimp only at hSw); have yHP0 := (hSw.cell (lt_of_cell zHP0)).trans zHP0; have yHP1 := (hSw.cell (lt_of_cell zHP1)).trans zHP1; have yHP2 := (hSw.cell (lt_of_cell zHP2)).trans zHP2; have yv1 := (hSw.cell (lt_of_cell v1)).trans v1;  go_simp⟩) hS0 ?_
      try simp only [Act.put, List.setIfInBounds_toArray, List.set_cons_zero, List.set_cons_succ]
      refine wpAnyH_take (i := 2) (oi := opRf2) (v := .pointer (some ⟨bf, of_ + k, none⟩)) rfl (by kernel_rfl) (by kernel_rfl) (by kernel_rfl) (fun _ _ _ h => h) (Or.inl ⟨by rfl, by intro w2 hSw; (try dsimp only at hSw); have yHP0 := (hSw.cell (lt_of_cell zHP0)).trans zHP0; have yHP1 := (hSw.cell (lt_of_cell zHP1)).trans zHP1; have yHP2 := (hSw.cell (lt_of_cell zHP2)).trans zHP2; have yv1 := (hSw.cell (lt_of_cell v1)).trans v1;  go_simp⟩) hS0 ?_
      try simp only [Act.put, List.setIfInBounds_toArray, List.set_cons_zero, List.set_cons_succ]
      refine wpAnyH_take (i := 3) (oi := opRf3) (v := .int .i64 fk) rfl (by kernel_rfl) (by kernel_rfl) (by kernel_rfl) (fun _ _ _ h => h) (Or.inl ⟨by rfl, by intro w2 hSw; (try dsimp only at hSw); have yHP0 := (hSw.cell (lt_of_cell zHP0)).trans zHP0; have yHP1 := (hSw.cell (lt_of_cell zHP1)).trans zHP1; have yHP2 := (hSw.cell (lt_of_cell zHP2)).trans zHP2; have yv1 := (hSw.cell (lt_of_cell v1)).trans v1;  go_simp⟩) hS0 ?_
      try simp only [Act.put, List.setIfInBounds_toArray, List.set_cons_zero, List.set_cons_succ]
      refine wpAnyH_take (i := 4) (oi := opRf4) (v := .pointer (some ⟨P, 2, none⟩)) rfl (by kernel_rfl) (by kernel_rfl) (by kernel_rfl) (fun _ _ _ h => h) (Or.inl ⟨by rfl, by intro w2 hSw; (try dsimp only at hSw); have yHP0 := (hSw.cell (lt_of_cell zHP0)).trans zHP0; have yHP1 := (hSw.cell (lt_of_cell zHP1)).trans zHP1; have yHP2 := (hSw.cell (lt_of_cell zHP2)).trans zHP2; have yv1 := (hSw.cell (lt_of_cell v1)).trans v1;  go_simp⟩) hS0 ?_
      try simp only [Act.put, List.setIfInBounds_toArray, List.set_cons_zero, List.set_cons_succ]
      refine wpAnyH_take (i := 5) (oi := opRf5) (v := .int .i64 gt) rfl (by kernel_rfl) (by kernel_rfl) (by kernel_rfl) (fun _ _ _ h => h) (Or.inl ⟨by rfl, by intro w2 hSw; (try dsimp only at hSw); have yHP0 := (hSw.cell (lt_of_cell zHP0)).trans zHP0; have yHP1 := (hSw.cell (lt_of_cell zHP1)).trans zHP1; have yHP2 := (hSw.cell (lt_of_cell zHP2)).trans zHP2; have yv1 := (hSw.cell (lt_of_cell v1)).trans v1;  go_simp⟩) hS0 ?_
      try simp only [Act.put, List.setIfInBounds_toArray, List.set_cons_zero, List.set_cons_succ]
      refine wpAnyH_take (i := 6) (oi := opRf6) (v := .bool false) rfl (by kernel_rfl) (by kernel_rfl) (by kernel_rfl) (fun _ _ _ h => h) (Or.inl ⟨by rfl, by intro w2 hSw; (try dsimp only at hSw); have yHP0 := (hSw.cell (lt_of_cell zHP0)).trans zHP0; have yHP1 := (hSw.cell (lt_of_cell zHP1)).trans zHP1; have yHP2 := (hSw.cell (lt_of_cell zHP2)).trans zHP2; have yv1 := (hSw.cell (lt_of_cell v1)).trans v1;  go_simp⟩) hS0 ?_
      try simp only [Act.put, List.setIfInBounds_toArray, List.set_cons_zero, List.set_cons_succ]
      refine wpAnyH_take (i := 7) (oi := opRf7) (v := .bool false) rfl (by kernel_rfl) (by kernel_rfl) (by kernel_rfl) (fun _ _ _ h => h) (Or.inl ⟨by rfl, by intro w2 hSw; (try dsimp only at hSw); have yHP0 := (hSw.cell (lt_of_cell zHP0)).trans zHP0; have yHP1 := (hSw.cell (lt_of_cell zHP1)).trans zHP1; have yHP2 := (hSw.cell (lt_of_cell zHP2)).trans zHP2; have yv1 := (hSw.cell (lt_of_cell v1)).trans v1;  go_simp⟩) hS0 ?_
      try simp only [Act.put, List.setIfInBounds_toArray, List.set_cons_zero, List.set_cons_succ]
      refine wpAnyH_take (i := 8) (oi := opRf8) (v := .slice (some ⟨bf, of_, none⟩) l.n fc) rfl (by kernel_rfl) (by kernel_rfl) (by kernel_rfl) (fun _ _ _ h => h) (Or.inl ⟨by rfl, by intro w2 hSw; (try dsimp only at hSw); have yHP0 := (hSw.cell (lt_of_cell zHP0)).trans zHP0; have yHP1 := (hSw.cell (lt_of_cell zHP1)).trans zHP1; have yHP2 := (hSw.cell (lt_of_cell zHP2)).trans zHP2; have yv1 := (hSw.cell (lt_of_cell v1)).trans v1;  go_simp⟩) hS0 ?_
      try simp only [Act.put, List.setIfInBounds_toArray, List.set_cons_zero, List.set_cons_succ]
      refine wpAnyH_take (i := 9) (oi := opRf9) (v := .int .i64 (k : Int)) rfl (by kernel_rfl) (by kernel_rfl) (by kernel_rfl) (fun _ _ _ h => h) (Or.inl ⟨by rfl, by intro w2 hSw; (try dsimp only at hSw); have yHP0 := (hSw.cell (lt_of_cell zHP0)).trans zHP0; have yHP1 := (hSw.cell (lt_of_cell zHP1)).trans zHP1; have yHP2 := (hSw.cell (lt_of_cell zHP2)).trans zHP2; have yv1 := (hSw.cell (lt_of_cell v1)).trans v1;  go_simp⟩) hS0 ?_
      try simp only [Act.put, List.setIfInBounds_toArray, List.set_cons_zero, List.set_cons_succ]
      refine wpAnyH_take (i := 10) (oi := opRf10) (v := .pointer (some ⟨bf, of_ + k, none⟩)) rfl (by kernel_rfl) (by kernel_rfl) (by kernel_rfl) (fun _ _ _ h => h) (Or.inl ⟨by rfl, by intro w2 hSw; (try dsimp only at hSw); have yHP0 := (hSw.cell (lt_of_cell zHP0)).trans zHP0; have yHP1 := (hSw.cell (lt_of_cell zHP1)).trans zHP1; have yHP2 := (hSw.cell (lt_of_cell zHP2)).trans zHP2; have yv1 := (hSw.cell (lt_of_cell v1)).trans v1;  go_simp⟩) hS0 ?_
      try simp only [Act.put, List.setIfInBounds_toArray, List.set_cons_zero, List.set_cons_succ]
      refine wpAnyH_take (i := 11) (oi := opRf11) (v := .int .i64 fk) rfl (by kernel_rfl) (by kernel_rfl) (by kernel_rfl) (fun _ _ _ h => h) (Or.inl ⟨by rfl, by intro w2 hSw; (try dsimp only at hSw); have yHP0 := (hSw.cell (lt_of_cell zHP0)).trans zHP0; have yHP1 := (hSw.cell (lt_of_cell zHP1)).trans zHP1; have yHP2 := (hSw.cell (lt_of_cell zHP2)).trans zHP2; have yv1 := (hSw.cell (lt_of_cell v1)).trans v1;  go_simp⟩) hS0 ?_
      try simp only [Act.put, List.setIfInBounds_toArray, List.set_cons_zero, List.set_cons_succ]
      refine wpAnyH_take (i := 12) (oi := opRf12) (v := .pointer (some ⟨P, 2, none⟩)) rfl (by kernel_rfl) (by kernel_rfl) (by kernel_rfl) (fun _ _ _ h => h) (Or.inl ⟨by rfl, by intro w2 hSw; (try dsimp only at hSw); have yHP0 := (hSw.cell (lt_of_cell zHP0)).trans zHP0; have yHP1 := (hSw.cell (lt_of_cell zHP1)).trans zHP1; have yHP2 := (hSw.cell (lt_of_cell zHP2)).trans zHP2; have yv1 := (hSw.cell (lt_of_cell v1)).trans v1;  go_simp⟩) hS0 ?_
      try simp only [Act.put, List.setIfInBounds_toArray, List.set_cons_zero, List.set_cons_succ]
      refine wpAnyH_take (i := 13) (oi := opRf13) (v := .int .i64 gt) rfl (by kernel_rfl) (by kernel_rfl) (by kernel_rfl) (fun _ _ _ h => h) (Or.inl ⟨by rfl, by intro w2 hSw; (try dsimp only at hSw); have yHP0 := (hSw.cell (lt_of_cell zHP0)).trans zHP0; have yHP1 := (hSw.cell (lt_of_cell zHP1)).trans zHP1; have yHP2 := (hSw.cell (lt_of_cell zHP2)).trans zHP2; have yv1 := (hSw.cell (lt_of_cell v1)).trans v1;  go_simp⟩) hS0 ?_
      try simp only [Act.put, List.setIfInBounds_toArray, List.set_cons_zero, List.set_cons_succ]
      refine wpAnyH_take (i := 14) (oi := opRf14) (v := .int .i64 (-gt)) rfl (by kernel_rfl) (by kernel_rfl) (by kernel_rfl) (fun _ _ _ h => h) (Or.inl ⟨by rfl, by intro w2 hSw; (try dsimp only at hSw); have yHP0 := (hSw.cell (lt_of_cell zHP0)).trans zHP0; have yHP1 := (hSw.cell (lt_of_cell zHP1)).trans zHP1; have yHP2 := (hSw.cell (lt_of_cell zHP2)).trans zHP2; have yv1 := (hSw.cell (lt_of_cell v1)).trans v1;  go_simp⟩) hS0 ?_
      try simp only [Act.put, List.setIfInBounds_toArray, List.set_cons_zero, List.set_cons_succ]
      refine wpAnyH_take (i := 15) (oi := opRf15) (v := .bool false) rfl (by kernel_rfl) (by kernel_rfl) (by kernel_rfl) (fun _ _ _ h => h) (Or.inl ⟨by rfl, by intro w2 hSw; (try dsimp only at hSw); have yHP0 := (hSw.cell (lt_of_cell zHP0)).trans zHP0; have yHP1 := (hSw.cell (lt_of_cell zHP1)).trans zHP1; have yHP2 := (hSw.cell (lt_of_cell zHP2)).trans zHP2; have yv1 := (hSw.cell (lt_of_cell v1)).trans v1;  go_simp⟩) hS0 ?_
      try simp only [Act.put, List.setIfInBounds_toArray, List.set_cons_zero, List.set_cons_succ]
      refine wpAnyH_take (i := 16) (oi := opRf16) (v := .bool false) rfl (by kernel_rfl) (by kernel_rfl) (by kernel_rfl) (fun _ _ _ h => h) (Or.inl ⟨by rfl, by intro w2 hSw; (try dsimp only at hSw); have yHP0 := (hSw.cell (lt_of_cell zHP0)).trans zHP0; have yHP1 := (hSw.cell (lt_of_cell zHP1)).trans zHP1; have yHP2 := (hSw.cell (lt_of_cell zHP2)).trans zHP2; have yv1 := (hSw.cell (lt_of_cell v1)).trans v1;  go_simp⟩) hS0 ?_
      try simp only [Act.put, List.setIfInBounds_toArray, List.set_cons_zero, List.set_cons_succ]
      refine wpAnyH_done (by kernel_rfl) ?_ _
      clear zHP0 zHP1 zHP2 ltHP v1
      obtain ⟨w3d, hwd⟩ : ∃ v, w3.drew = v := ⟨_, rfl⟩
      have hb := hS0
      rw [hwd] at hb ⊢
      clear hS0 hwd
      replace HV := Lib.hid (HV.out.below hb (Nat.le_refl _))
      replace HP := Lib.hid ((hb.block _ (lt_of_block HP.out)).trans HP.out)
      replace HQ := Lib.hid ((hb.block _ (lt_of_block HQ.out)).trans HQ.out)
      replace B1 := Lib.hid (B1.out.trans (hb.mono B1.out.size))
      clear hb
      clear C1 C2 dC1 dC2 hwn
      have hwn : IntKind.i64.wrap (G x1 + fk) = G x1 + fk := IntWalk.i64_in _ (by have h1 := Hbo.out x1; have h3 := Hsm.out; omega)
      go_upto_region 12 with fail
      have ltHP : P < w3d.heap.size := lt_of_block HP.out
      have zHP0 : w3d.cell? ⟨P, 0, none⟩ = some (.int .i64 (x1 : Int)) := by rw [cell_row HP.out]; rfl
      have zHP1 : w3d.cell? ⟨P, 1, none⟩ = some (.int .i64 (x2 : Int)) := by rw [cell_row HP.out]; rfl
      have zHP2 : w3d.cell? ⟨P, 2, none⟩ = some (.int .i64 gt) := by rw [cell_row HP.out]; rfl
      have v1 : w3d.cell? ⟨bf, of_ + k, none⟩ = some (.int .i64 fk) := HV.out
      have r1 : w3d.cell? ⟨Z, x1, none⟩ = some (.int .i64 (G x1)) := by rw [cell_row HQ.out]; exact fV_at c G x1 l1
      refine Zed.region_z (z := 11) (S := fun w2 => Below w3d.heap.size w3d w2) (by kernel_rfl) (drew_b _ _) (fun hS0 => ?_)
      refine Zed.anyZ_take (i := 0) (oi := { dst := some 53, op := Go.Op.move (Go.Operand.tmp 6), type := 40, pos := "ref.go:290", after := #[], guard := none }) (v := .slice (some ⟨Z, 0, none⟩) c c) rfl (by decide) (by kernel_rfl) (by kernel_rfl) (by kernel_rfl) (by kernel_rfl) (fun _ _ _ h => h) (Or.inl ⟨by rfl, by intro w2 hSw; (try dsimp only at hSw); have yHP0 := (hSw.cell (lt_of_cell zHP0)).trans zHP0; have yHP1 := (hSw.cell (lt_of_cell zHP1)).trans zHP1; have yHP2 := (hSw.cell (lt_of_cell zHP2)).trans zHP2; have yv1 := (hSw.cell (lt_of_cell v1)).trans v1; have yr1 := (hSw.cell (lt_of_cell r1)).trans r1; go_simp⟩) hS0 ?_
      try simp only [Act.put, List.setIfInBounds_toArray, List.set_cons_zero, List.set_cons_succ]
      refine Zed.anyZ_take (i := 1) (oi := { dst := some 54, op := Go.Op.fieldAddr 60 (Go.Operand.tmp 8) 0, type := 0, pos := "ref.go:290", after := #[], guard := none }) (v := .pointer (some ⟨P, 0, none⟩)) rfl (by decide) (by kernel_rfl) (by kernel_rfl) (by kernel_rfl) (by kernel_rfl) (fun _ _ _ h => h) (Or.inl ⟨by rfl, by intro w2 hSw; (try dsimp only at hSw); have yHP0 := (hSw.cell (lt_of_cell zHP0)).trans zHP0; have yHP1 := (hSw.cell (lt_of_cell zHP1)).trans zHP1; have yHP2 := (hSw.cell (lt_of_cell zHP2)).trans zHP2; have yv1 := (hSw.cell (lt_of_cell v1)).trans v1; have yr1 := (hSw.cell (lt_of_cell r1)).trans r1; go_simp⟩) hS0 ?_
      try simp only [Act.put, List.setIfInBounds_toArray, List.set_cons_zero, List.set_cons_succ]
      refine Zed.anyZ_take (i := 2) (oi := { dst := some 55, op := Go.Op.load 3 (Go.Operand.tmp 54), type := 3, pos := "ref.go:290", after := #[{ on := 1, ground := Go.Ground.data }], guard := none }) (v := .int .i64 (x1 : Int)) rfl (by decide) (by kernel_rfl) (by kernel_rfl) (by kernel_rfl) (by kernel_rfl) (fun _ _ _ h => h) (Or.inl ⟨by rfl, by intro w2 hSw; (try dsimp only at hSw); have yHP0 := (hSw.cell (lt_of_cell zHP0)).trans zHP0; have yHP1 := (hSw.cell (lt_of_cell zHP1)).trans zHP1; have yHP2 := (hSw.cell (lt_of_cell zHP2)).trans zHP2; have yv1 := (hSw.cell (lt_of_cell v1)).trans v1; have yr1 := (hSw.cell (lt_of_cell r1)).trans r1; go_simp⟩) hS0 ?_
      try simp only [Act.put, List.setIfInBounds_toArray, List.set_cons_zero, List.set_cons_succ]
      refine Zed.anyZ_take (i := 3) (oi := { dst := some 56, op := Go.Op.indexAddr 40 (Go.Operand.tmp 53) (Go.Operand.tmp 55), type := 0, pos := "ref.go:290", after := #[{ on := 0, ground := Go.Ground.data }, { on := 2, ground := Go.Ground.data }], guard := none }) (v := .pointer (some ⟨Z, x1, none⟩)) rfl (by decide) (by kernel_rfl) (by kernel_rfl) (by kernel_rfl) (by kernel_rfl) (fun _ _ _ h => h) (Or.inl ⟨by rfl, by intro w2 hSw; (try dsimp only at hSw); have yHP0 := (hSw.cell (lt_of_cell zHP0)).trans zHP0; have yHP1 := (hSw.cell (lt_of_cell zHP1)).trans zHP1; have yHP2 := (hSw.cell (lt_of_cell zHP2)).trans zHP2; have yv1 := (hSw.cell (lt_of_cell v1)).trans v1; have yr1 := (hSw.cell (lt_of_cell r1)).trans r1; go_simp⟩) hS0 ?_
      try simp only [Act.put, List.setIfInBounds_toArray, List.set_cons_zero, List.set_cons_succ]
      refine Zed.anyZ_take (i := 4) (oi := { dst := some 57, op := Go.Op.load 2 (Go.Operand.tmp 56), type := 2, pos := "ref.go:290", after := #[{ on := 3, ground := Go.Ground.data }], guard := none }) (v := .int .i64 (G x1)) rfl (by decide) (by kernel_rfl) (by kernel_rfl) (by kernel_rfl) (by kernel_rfl) (fun _ _ _ h => h) (Or.inl ⟨by rfl, by intro w2 hSw; (try dsimp only at hSw); have yHP0 := (hSw.cell (lt_of_cell zHP0)).trans zHP0; have yHP1 := (hSw.cell (lt_of_cell zHP1)).trans zHP1; have yHP2 := (hSw.cell (lt_of_cell zHP2)).trans zHP2; have yv1 := (hSw.cell (lt_of_cell v1)).trans v1; have yr1 := (hSw.cell (lt_of_cell r1)).trans r1; go_simp⟩) hS0 ?_
      try simp only [Act.put, List.setIfInBounds_toArray, List.set_cons_zero, List.set_cons_succ]
      refine Zed.anyZ_take (i := 5) (oi := { dst := some 58, op := Go.Op.move (Go.Operand.tmp 1), type := 41, pos := "ref.go:290", after := #[], guard := none }) (v := .slice (some ⟨bf, of_, none⟩) l.n fc) rfl (by decide) (by kernel_rfl) (by kernel_rfl) (by kernel_rfl) (by kernel_rfl) (fun _ _ _ h => h) (Or.inl ⟨by rfl, by intro w2 hSw; (try dsimp only at hSw); have yHP0 := (hSw.cell (lt_of_cell zHP0)).trans zHP0; have yHP1 := (hSw.cell (lt_of_cell zHP1)).trans zHP1; have yHP2 := (hSw.cell (lt_of_cell zHP2)).trans zHP2; have yv1 := (hSw.cell (lt_of_cell v1)).trans v1; have yr1 := (hSw.cell (lt_of_cell r1)).trans r1; go_simp⟩) hS0 ?_
      try simp only [Act.put, List.setIfInBounds_toArray, List.set_cons_zero, List.set_cons_succ]
      refine Zed.anyZ_take (i := 6) (oi := { dst := some 59, op := Go.Op.move (Go.Operand.tmp 7), type := 3, pos := "ref.go:290", after := #[], guard := none }) (v := .int .i64 (k : Int)) rfl (by decide) (by kernel_rfl) (by kernel_rfl) (by kernel_rfl) (by kernel_rfl) (fun _ _ _ h => h) (Or.inl ⟨by rfl, by intro w2 hSw; (try dsimp only at hSw); have yHP0 := (hSw.cell (lt_of_cell zHP0)).trans zHP0; have yHP1 := (hSw.cell (lt_of_cell zHP1)).trans zHP1; have yHP2 := (hSw.cell (lt_of_cell zHP2)).trans zHP2; have yv1 := (hSw.cell (lt_of_cell v1)).trans v1; have yr1 := (hSw.cell (lt_of_cell r1)).trans r1; go_simp⟩) hS0 ?_
      try simp only [Act.put, List.setIfInBounds_toArray, List.set_cons_zero, List.set_cons_succ]
      refine Zed.anyZ_take (i := 7) (oi := { dst := some 60, op := Go.Op.indexAddr 41 (Go.Operand.tmp 58) (Go.Operand.tmp 59), type := 0, pos := "ref.go:290", after := #[{ on := 5, ground := Go.Ground.data }, { on := 6, ground := Go.Ground.data }], guard := none }) (v := .pointer (some ⟨bf, of_ + k, none⟩)) rfl (by decide) (by kernel_rfl) (by kernel_rfl) (by kernel_rfl) (by kernel_rfl) (fun _ _ _ h => h) (Or.inl ⟨by rfl, by intro w2 hSw; (try dsimp only at hSw); have yHP0 := (hSw.cell (lt_of_cell zHP0)).trans zHP0; have yHP1 := (hSw.cell (lt_of_cell zHP1)).trans zHP1; have yHP2 := (hSw.cell (lt_of_cell zHP2)).trans zHP2; have yv1 := (hSw.cell (lt_of_cell v1)).trans v1; have yr1 := (hSw.cell (lt_of_cell r1)).trans r1; go_simp⟩) hS0 ?_
      try simp only [Act.put, List.setIfInBounds_toArray, List.set_cons_zero, List.set_cons_succ]
      refine Zed.anyZ_take (i := 8) (oi := { dst := some 61, op := Go.Op.load 2 (Go.Operand.tmp 60), type := 2, pos := "ref.go:290", after := #[{ on := 7, ground := Go.Ground.data }], guard := none }) (v := .int .i64 fk) rfl (by decide) (by kernel_rfl) (by kernel_rfl) (by kernel_rfl) (by kernel_rfl) (fun _ _ _ h => h) (Or.inl ⟨by rfl, by intro w2 hSw; (try dsimp only at hSw); have yHP0 := (hSw.cell (lt_of_cell zHP0)).trans zHP0; have yHP1 := (hSw.cell (lt_of_cell zHP1)).trans zHP1; have yHP2 := (hSw.cell (lt_of_cell zHP2)).trans zHP2; have yv1 := (hSw.cell (lt_of_cell v1)).trans v1; have yr1 := (hSw.cell (lt_of_cell r1)).trans r1; go_simp⟩) hS0 ?_
      try simp only [Act.put, List.setIfInBounds_toArray, List.set_cons_zero, List.set_cons_succ]
      refine Zed.anyZ_take (i := 9) (oi := { dst := some 62, op := Go.Op.binOp Go.BinOp.add 2 (Go.Operand.tmp 57) (Go.Operand.tmp 61) 2, type := 2, pos := "ref.go:290", after := #[{ on := 4, ground := Go.Ground.data }, { on := 8, ground := Go.Ground.data }], guard := none }) (v := .int .i64 (G x1 + fk)) rfl (by decide) (by kernel_rfl) (by kernel_rfl) (by kernel_rfl) (by kernel_rfl) (fun _ _ _ h => h) (Or.inl ⟨by rfl, by intro w2 hSw; (try dsimp only at hSw); have yHP0 := (hSw.cell (lt_of_cell zHP0)).trans zHP0; have yHP1 := (hSw.cell (lt_of_cell zHP1)).trans zHP1; have yHP2 := (hSw.cell (lt_of_cell zHP2)).trans zHP2; have yv1 := (hSw.cell (lt_of_cell v1)).trans v1; have yr1 := (hSw.cell (lt_of_cell r1)).trans r1; go_simp⟩) hS0 ?_
      try simp only [Act.put, List.setIfInBounds_toArray, List.set_cons_zero, List.set_cons_succ]
      refine Zed.anyZ_take (i := 10) (oi := { dst := some 63, op := Go.Op.indexAddr 40 (Go.Operand.tmp 53) (Go.Operand.tmp 55), type := 0, pos := "ref.go:290", after := #[{ on := 0, ground := Go.Ground.data }, { on := 2, ground := Go.Ground.data }, { on := 0, ground := Go.Ground.phase }, { on := 1, ground := Go.Ground.phase }, { on := 2, ground := Go.Ground.phase }, { on := 3, ground := Go.Ground.phase }, { on := 4, ground := Go.Ground.phase }, { on := 5, ground := Go.Ground.phase }, { on := 6, ground := Go.Ground.phase }, { on := 7, ground := Go.Ground.phase }, { on := 8, ground := Go.Ground.phase }, { on := 9, ground := Go.Ground.phase }], guard := none }) (v := .pointer (some ⟨Z, x1, none⟩)) rfl (by decide) (by kernel_rfl) (by kernel_rfl) (by kernel_rfl) (by kernel_rfl) (fun _ _ _ h => h) (Or.inl ⟨by rfl, by intro w2 hSw; (try dsimp only at hSw); have yHP0 := (hSw.cell (lt_of_cell zHP0)).trans zHP0; have yHP1 := (hSw.cell (lt_of_cell zHP1)).trans zHP1; have yHP2 := (hSw.cell (lt_of_cell zHP2)).trans zHP2; have yv1 := (hSw.cell (lt_of_cell v1)).trans v1; have yr1 := (hSw.cell (lt_of_cell r1)).trans r1; go_simp⟩) hS0 ?_
      try simp only [Act.put, List.setIfInBounds_toArray, List.set_cons_zero, List.set_cons_succ]
      generalize w3d.drew = V0 at hS0 ⊢
      replace HV := Lib.hid (HV.out.below hS0 (Nat.le_refl _))
      replace HP := Lib.hid ((hS0.block _ (lt_of_block HP.out)).trans HP.out)
      replace HQ := Lib.hid ((hS0.block _ (lt_of_block HQ.out)).trans HQ.out)
      replace B1 := Lib.hid (B1.out.trans (hS0.mono B1.out.size))
      have xf : V0.cell? ⟨Z, x1, none⟩ = some (.int .i64 (G x1)) := by rw [cell_row HQ.out]; exact fV_at c G x1 l1
      have fz := frozen_row (k := x1) HQ.out
      clear hS0
      refine Zed.anyZ_ready (rs := [11]) (by kernel_rfl) (by simp) ?_
      refine Zed.AllZ.cons (o := { dst := none, op := Go.Op.store 2 (Go.Operand.tmp 63) (Go.Operand.tmp 62), type := 0, pos := "ref.go:290", after := #[{ on := 10, ground := Go.Ground.data }, { on := 9, ground := Go.Ground.data }, { on := 0, ground := Go.Ground.phase }, { on := 1, ground := Go.Ground.phase }, { on := 2, ground := Go.Ground.phase }, { on := 3, ground := Go.Ground.phase }, { on := 4, ground := Go.Ground.phase }, { on := 5, ground := Go.Ground.phase }, { on := 6, ground := Go.Ground.phase }, { on := 7, ground := Go.Ground.phase }, { on := 8, ground := Go.Ground.phase }, { on := 9, ground := Go.Ground.phase }], guard := none }) rfl (fun K2 hK => ?_) Zed.AllZ.nil
      go_simp
      refine hK.out _ _ (fun h => absurd rfl h) (fun _ => ?_)
      clear hK K2
      try simp only [Act.put, List.setIfInBounds_toArray, List.set_cons_zero, List.set_cons_succ]
      refine Zed.anyZ_done (by kernel_rfl) ?_ _
      clear zHP0 zHP1 zHP2 ltHP v1 r1
      clear xf fz hwn
      have e1 := keeps_setCell V0 Z x1 (.int .i64 (G x1 + fk))
      have hv := HV.out
      unfold CellI at hv
      replace HV := Lib.hid (show CellI (V0.setCell ⟨Z, x1, none⟩ (.int .i64 (G x1 + fk))) bf (of_ + k) fk from (keep_cells e1 (lt_of_cell hv) (by have := Hbf.out; omega) (of_ + k)).trans hv)
      replace HP := Lib.hid ((Below.heap_setCell V0 ⟨Z, x1, none⟩ (.int .i64 (G x1 + fk)) P (by have := HPZ.out; simp only; omega)).trans HP.out)
      replace B1 := Lib.hid (B1.out.trans (e1.below B1.out.size (fun j hj e => by have := HZ1.out; omega)))
      have hq := set_same x1 (.int .i64 (G x1 + fk)) HQ.out
      rw [fV_set] at hq
      replace HQ := Lib.hid hq
      clear e1 hv hq
      obtain ⟨w5, hw5⟩ : ∃ v, V0.setCell ⟨Z, x1, none⟩ (.int .i64 (G x1 + fk)) = v := ⟨_, rfl⟩
      rw [hw5] at HV HP HQ B1 ⊢
      clear hw5
      obtain ⟨H, hH⟩ : ∃ H, (fun x => if x = x1 then G x1 + fk else G x) = H := ⟨_, rfl⟩
      have HH := Lib.hid (show ∀ x : Nat, H x = G x + ind (tT (x1 : Int) && decide ((x1 : Int) = (x : Int))) fk from fun x => by
        rw [← hH]
        by_cases e : x = x1
        · subst e; simp [ind, tT]
        · have e2 : ¬ (x1 : Int) = (x : Int) := by omega
          simp [ind, e, e2])
      rw [hH] at HQ
      clear hH
      have hwn : IntKind.i64.wrap (H x2 - fk) = H x2 - fk := IntWalk.i64_in _ (by have h1 := Hbo.out x2; have h2 := HH.out x2; have h3 := Hsm.out; unfold ind at h2; split at h2 <;> omega)
      go_upto_region 13 with fail
      have ltHP : P < w5.heap.size := lt_of_block HP.out
      have zHP0 : w5.cell? ⟨P, 0, none⟩ = some (.int .i64 (x1 : Int)) := by rw [cell_row HP.out]; rfl
      have zHP1 : w5.cell? ⟨P, 1, none⟩ = some (.int .i64 (x2 : Int)) := by rw [cell_row HP.out]; rfl
      have zHP2 : w5.cell? ⟨P, 2, none⟩ = some (.int .i64 gt) := by rw [cell_row HP.out]; rfl
      have v1 : w5.cell? ⟨bf, of_ + k, none⟩ = some (.int .i64 fk) := HV.out
      have r1 : w5.cell? ⟨Z, x2, none⟩ = some (.int .i64 (H x2)) := by rw [cell_row HQ.out]; exact fV_at c H x2 l2
      refine Zed.region_z (z := 11) (S := fun w2 => Below w5.heap.size w5 w2) (by kernel_rfl) (drew_b _ _) (fun hS0 => ?_)
      refine Zed.anyZ_take (i := 0) (oi := { dst := some 64, op := Go.Op.move (Go.Operand.tmp 6), type := 40, pos := "ref.go:291", after := #[], guard := none }) (v := .slice (some ⟨Z, 0, none⟩) c c) rfl (by decide) (by kernel_rfl) (by kernel_rfl) (by kernel_rfl) (by kernel_rfl) (fun _ _ _ h => h) (Or.inl ⟨by rfl, by intro w2 hSw; (try dsimp only at hSw); have yHP0 := (hSw.cell (lt_of_cell zHP0)).trans zHP0; have yHP1 := (hSw.cell (lt_of_cell zHP1)).trans zHP1; have yHP2 := (hSw.cell (lt_of_cell zHP2)).trans zHP2; have yv1 := (hSw.cell (lt_of_cell v1)).trans v1; have yr1 := (hSw.cell (lt_of_cell r1)).trans r1; go_simp⟩) hS0 ?_
      try simp only [Act.put, List.setIfInBounds_toArray, List.set_cons_zero, List.set_cons_succ]
      refine Zed.anyZ_take (i := 1) (oi := { dst := some 65, op := Go.Op.fieldAddr 60 (Go.Operand.tmp 8) 1, type := 0, pos := "ref.go:291", after := #[], guard := none }) (v := .pointer (some ⟨P, 1, none⟩)) rfl (by decide) (by kernel_rfl) (by kernel_rfl) (by kernel_rfl) (by kernel_rfl) (fun _ _ _ h => h) (Or.inl ⟨by rfl, by intro w2 hSw; (try dsimp only at hSw); have yHP0 := (hSw.cell (lt_of_cell zHP0)).trans zHP0; have yHP1 := (hSw.cell (lt_of_cell zHP1)).trans zHP1; have yHP2 := (hSw.cell (lt_of_cell zHP2)).trans zHP2; have yv1 := (hSw.cell (lt_of_cell v1)).trans v1; have yr1 := (hSw.cell (lt_of_cell r1)).trans r1; go_simp⟩) hS0 ?_
      try simp only [Act.put, List.setIfInBounds_toArray, List.set_cons_zero, List.set_cons_succ]
      refine Zed.anyZ_take (i := 2) (oi := { dst := some 66, op := Go.Op.load 3 (Go.Operand.tmp 65), type := 3, pos := "ref.go:291", after := #[{ on := 1, ground := Go.Ground.data }], guard := none }) (v := .int .i64 (x2 : Int)) rfl (by decide) (by kernel_rfl) (by kernel_rfl) (by kernel_rfl) (by kernel_rfl) (fun _ _ _ h => h) (Or.inl ⟨by rfl, by intro w2 hSw; (try dsimp only at hSw); have yHP0 := (hSw.cell (lt_of_cell zHP0)).trans zHP0; have yHP1 := (hSw.cell (lt_of_cell zHP1)).trans zHP1; have yHP2 := (hSw.cell (lt_of_cell zHP2)).trans zHP2; have yv1 := (hSw.cell (lt_of_cell v1)).trans v1; have yr1 := (hSw.cell (lt_of_cell r1)).trans r1; go_simp⟩) hS0 ?_
      try simp only [Act.put, List.setIfInBounds_toArray, List.set_cons_zero, List.set_cons_succ]
      refine Zed.anyZ_take (i := 3) (oi := { dst := some 67, op := Go.Op.indexAddr 40 (Go.Operand.tmp 64) (Go.Operand.tmp 66), type := 0, pos := "ref.go:291", after := #[{ on := 0, ground := Go.Ground.data }, { on := 2, ground := Go.Ground.data }], guard := none }) (v := .pointer (some ⟨Z, x2, none⟩)) rfl (by decide) (by kernel_rfl) (by kernel_rfl) (by kernel_rfl) (by kernel_rfl) (fun _ _ _ h => h) (Or.inl ⟨by rfl, by intro w2 hSw; (try dsimp only at hSw); have yHP0 := (hSw.cell (lt_of_cell zHP0)).trans zHP0; have yHP1 := (hSw.cell (lt_of_cell zHP1)).trans zHP1; have yHP2 := (hSw.cell (lt_of_cell zHP2)).trans zHP2; have yv1 := (hSw.cell (lt_of_cell v1)).trans v1; have yr1 := (hSw.cell (lt_of_cell r1)).trans r1; go_simp⟩) hS0 ?_
      try simp only [Act.put, List.setIfInBounds_toArray, List.set_cons_zero, List.set_cons_succ]
      refine Zed.anyZ_take (i := 4) (oi := { dst := some 68, op := Go.Op.load 2 (Go.Operand.tmp 67), type := 2, pos := "ref.go:291", after := #[{ on := 3, ground := Go.Ground.data }], guard := none }) (v := .int .i64 (H x2)) rfl (by decide) (by kernel_rfl) (by kernel_rfl) (by kernel_rfl) (by kernel_rfl) (fun _ _ _ h => h) (Or.inl ⟨by rfl, by intro w2 hSw; (try dsimp only at hSw); have yHP0 := (hSw.cell (lt_of_cell zHP0)).trans zHP0; have yHP1 := (hSw.cell (lt_of_cell zHP1)).trans zHP1; have yHP2 := (hSw.cell (lt_of_cell zHP2)).trans zHP2; have yv1 := (hSw.cell (lt_of_cell v1)).trans v1; have yr1 := (hSw.cell (lt_of_cell r1)).trans r1; go_simp⟩) hS0 ?_
      try simp only [Act.put, List.setIfInBounds_toArray, List.set_cons_zero, List.set_cons_succ]
      refine Zed.anyZ_take (i := 5) (oi := { dst := some 69, op := Go.Op.move (Go.Operand.tmp 1), type := 41, pos := "ref.go:291", after := #[], guard := none }) (v := .slice (some ⟨bf, of_, none⟩) l.n fc) rfl (by decide) (by kernel_rfl) (by kernel_rfl) (by kernel_rfl) (by kernel_rfl) (fun _ _ _ h => h) (Or.inl ⟨by rfl, by intro w2 hSw; (try dsimp only at hSw); have yHP0 := (hSw.cell (lt_of_cell zHP0)).trans zHP0; have yHP1 := (hSw.cell (lt_of_cell zHP1)).trans zHP1; have yHP2 := (hSw.cell (lt_of_cell zHP2)).trans zHP2; have yv1 := (hSw.cell (lt_of_cell v1)).trans v1; have yr1 := (hSw.cell (lt_of_cell r1)).trans r1; go_simp⟩) hS0 ?_
      try simp only [Act.put, List.setIfInBounds_toArray, List.set_cons_zero, List.set_cons_succ]
      refine Zed.anyZ_take (i := 6) (oi := { dst := some 70, op := Go.Op.move (Go.Operand.tmp 7), type := 3, pos := "ref.go:291", after := #[], guard := none }) (v := .int .i64 (k : Int)) rfl (by decide) (by kernel_rfl) (by kernel_rfl) (by kernel_rfl) (by kernel_rfl) (fun _ _ _ h => h) (Or.inl ⟨by rfl, by intro w2 hSw; (try dsimp only at hSw); have yHP0 := (hSw.cell (lt_of_cell zHP0)).trans zHP0; have yHP1 := (hSw.cell (lt_of_cell zHP1)).trans zHP1; have yHP2 := (hSw.cell (lt_of_cell zHP2)).trans zHP2; have yv1 := (hSw.cell (lt_of_cell v1)).trans v1; have yr1 := (hSw.cell (lt_of_cell r1)).trans r1; go_simp⟩) hS0 ?_
      try simp only [Act.put, List.setIfInBounds_toArray, List.set_cons_zero, List.set_cons_succ]
      refine Zed.anyZ_take (i := 7) (oi := { dst := some 71, op := Go.Op.indexAddr 41 (Go.Operand.tmp 69) (Go.Operand.tmp 70), type := 0, pos := "ref.go:291", after := #[{ on := 5, ground := Go.Ground.data }, { on := 6, ground := Go.Ground.data }], guard := none }) (v := .pointer (some ⟨bf, of_ + k, none⟩)) rfl (by decide) (by kernel_rfl) (by kernel_rfl) (by kernel_rfl) (by kernel_rfl) (fun _ _ _ h => h) (Or.inl ⟨by rfl, by intro w2 hSw; (try dsimp only at hSw); have yHP0 := (hSw.cell (lt_of_cell zHP0)).trans zHP0; have yHP1 := (hSw.cell (lt_of_cell zHP1)).trans zHP1; have yHP2 := (hSw.cell (lt_of_cell zHP2)).trans zHP2; have yv1 := (hSw.cell (lt_of_cell v1)).trans v1; have yr1 := (hSw.cell (lt_of_cell r1)).trans r1; go_simp⟩) hS0 ?_
      try simp only [Act.put, List.setIfInBounds_toArray, List.set_cons_zero, List.set_cons_succ]
      refine Zed.anyZ_take (i := 8) (oi := { dst := some 72, op := Go.Op.load 2 (Go.Operand.tmp 71), type := 2, pos := "ref.go:291", after := #[{ on := 7, ground := Go.Ground.data }], guard := none }) (v := .int .i64 fk) rfl (by decide) (by kernel_rfl) (by kernel_rfl) (by kernel_rfl) (by kernel_rfl) (fun _ _ _ h => h) (Or.inl ⟨by rfl, by intro w2 hSw; (try dsimp only at hSw); have yHP0 := (hSw.cell (lt_of_cell zHP0)).trans zHP0; have yHP1 := (hSw.cell (lt_of_cell zHP1)).trans zHP1; have yHP2 := (hSw.cell (lt_of_cell zHP2)).trans zHP2; have yv1 := (hSw.cell (lt_of_cell v1)).trans v1; have yr1 := (hSw.cell (lt_of_cell r1)).trans r1; go_simp⟩) hS0 ?_
      try simp only [Act.put, List.setIfInBounds_toArray, List.set_cons_zero, List.set_cons_succ]
      refine Zed.anyZ_take (i := 9) (oi := { dst := some 73, op := Go.Op.binOp Go.BinOp.sub 2 (Go.Operand.tmp 68) (Go.Operand.tmp 72) 2, type := 2, pos := "ref.go:291", after := #[{ on := 4, ground := Go.Ground.data }, { on := 8, ground := Go.Ground.data }], guard := none }) (v := .int .i64 (H x2 - fk)) rfl (by decide) (by kernel_rfl) (by kernel_rfl) (by kernel_rfl) (by kernel_rfl) (fun _ _ _ h => h) (Or.inl ⟨by rfl, by intro w2 hSw; (try dsimp only at hSw); have yHP0 := (hSw.cell (lt_of_cell zHP0)).trans zHP0; have yHP1 := (hSw.cell (lt_of_cell zHP1)).trans zHP1; have yHP2 := (hSw.cell (lt_of_cell zHP2)).trans zHP2; have yv1 := (hSw.cell (lt_of_cell v1)).trans v1; have yr1 := (hSw.cell (lt_of_cell r1)).trans r1; go_simp⟩) hS0 ?_
      try simp only [Act.put, List.setIfInBounds_toArray, List.set_cons_zero, List.set_cons_succ]
      refine Zed.anyZ_take (i := 10) (oi := { dst := some 74, op := Go.Op.indexAddr 40 (Go.Operand.tmp 64) (Go.Operand.tmp 66), type := 0, pos := "ref.go:291", after := #[{ on := 0, ground := Go.Ground.data }, { on := 2, ground := Go.Ground.data }, { on := 0, ground := Go.Ground.phase }, { on := 1, ground := Go.Ground.phase }, { on := 2, ground := Go.Ground.phase }, { on := 3, ground := Go.Ground.phase }, { on := 4, ground := Go.Ground.phase }, { on := 5, ground := Go.Ground.phase }, { on := 6, ground := Go.Ground.phase }, { on := 7, ground := Go.Ground.phase }, { on := 8, ground := Go.Ground.phase }, { on := 9, ground := Go.Ground.phase }], guard := none }) (v := .pointer (some ⟨Z, x2, none⟩)) rfl (by decide) (by kernel_rfl) (by kernel_rfl) (by kernel_rfl) (by kernel_rfl) (fun _ _ _ h => h) (Or.inl ⟨by rfl, by intro w2 hSw; (try dsimp only at hSw); have yHP0 := (hSw.cell (lt_of_cell zHP0)).trans zHP0; have yHP1 := (hSw.cell (lt_of_cell zHP1)).trans zHP1; have yHP2 := (hSw.cell (lt_of_cell zHP2)).trans zHP2; have yv1 := (hSw.cell (lt_of_cell v1)).trans v1; have yr1 := (hSw.cell (lt_of_cell r1)).trans r1; go_simp⟩) hS0 ?_
      try simp only [Act.put, List.setIfInBounds_toArray, List.set_cons_zero, List.set_cons_succ]
      generalize w5.drew = V0 at hS0 ⊢
      replace HV := Lib.hid (HV.out.below hS0 (Nat.le_refl _))
      replace HP := Lib.hid ((hS0.block _ (lt_of_block HP.out)).trans HP.out)
      replace HQ := Lib.hid ((hS0.block _ (lt_of_block HQ.out)).trans HQ.out)
      replace B1 := Lib.hid (B1.out.trans (hS0.mono B1.out.size))
      have xf : V0.cell? ⟨Z, x2, none⟩ = some (.int .i64 (H x2)) := by rw [cell_row HQ.out]; exact fV_at c H x2 l2
      have fz := frozen_row (k := x2) HQ.out
      clear hS0
      refine Zed.anyZ_ready (rs := [11]) (by kernel_rfl) (by simp) ?_
      refine Zed.AllZ.cons (o := { dst := none, op := Go.Op.store 2 (Go.Operand.tmp 74) (Go.Operand.tmp 73), type := 0, pos := "ref.go:291", after := #[{ on := 10, ground := Go.Ground.data }, { on := 9, ground := Go.Ground.data }, { on := 0, ground := Go.Ground.phase }, { on := 1, ground := Go.Ground.phase }, { on := 2, ground := Go.Ground.phase }, { on := 3, ground := Go.Ground.phase }, { on := 4, ground := Go.Ground.phase }, { on := 5, ground := Go.Ground.phase }, { on := 6, ground := Go.Ground.phase }, { on := 7, ground := Go.Ground.phase }, { on := 8, ground := Go.Ground.phase }, { on := 9, ground := Go.Ground.phase }], guard := none }) rfl (fun K2 hK => ?_) Zed.AllZ.nil
      go_simp
      refine hK.out _ _ (fun h => absurd rfl h) (fun _ => ?_)
      clear hK K2
      try simp only [Act.put, List.setIfInBounds_toArray, List.set_cons_zero, List.set_cons_succ]
      refine Zed.anyZ_done (by kernel_rfl) ?_ _
      clear zHP0 zHP1 zHP2 ltHP v1 r1
      clear xf fz hwn
      have e1 := keeps_setCell V0 Z x2 (.int .i64 (H x2 - fk))
      have hv := HV.out
      unfold CellI at hv
      replace HV := Lib.hid (show CellI (V0.setCell ⟨Z, x2, none⟩ (.int .i64 (H x2 - fk))) bf (of_ + k) fk from (keep_cells e1 (lt_of_cell hv) (by have := Hbf.out; omega) (of_ + k)).trans hv)
      replace HP := Lib.hid ((Below.heap_setCell V0 ⟨Z, x2, none⟩ (.int .i64 (H x2 - fk)) P (by have := HPZ.out; simp only; omega)).trans HP.out)
      replace B1 := Lib.hid (B1.out.trans (e1.below B1.out.size (fun j hj e => by have := HZ1.out; omega)))
      have hq := set_same x2 (.int .i64 (H x2 - fk)) HQ.out
      rw [fV_set] at hq
      replace HQ := Lib.hid hq
      clear e1 hv hq
      obtain ⟨w6, hw6⟩ : ∃ v, V0.setCell ⟨Z, x2, none⟩ (.int .i64 (H x2 - fk)) = v := ⟨_, rfl⟩
      rw [hw6] at HV HP HQ B1 ⊢
      clear hw6
      have HF := Lib.hid (show outK l.zs f tT (k + 1) = fun x => if x = x2 then H x2 - fk else H x from funext fun x => by
        rw [Hst.out x]
        by_cases e : x = x2
        · subst e; rw [if_pos rfl, HH.out x]; simp [ind, tT]
        · have e2 : ¬ (x2 : Int) = (x : Int) := by omega
          rw [if_neg e, HH.out x]; simp [ind, e2])
      go_wp2_with fail
      go_roundw
      case rel => exact ⟨k + 1, by omega, by go_num, HFK, Lib.hid ⟨by rw [HF.out]; exact HQ.out, B1.out⟩⟩
      case measure => simp [intOf]; omega
    · obtain rfl : k = l.n := by omega
      obtain ⟨G, hG⟩ : ∃ G, outK l.zs f tT l.n = G := ⟨_, rfl⟩
      have HY := Lib.hid (show (∀ x : Nat, x < c → (x : Int) ∉ l.ls → (x : Int) ∉ l.rs → G x = 0) → flE l l.n fs = 0 ∧ grE l l.n fs = grN l G c from fun e => by
        have h9 := flow_yes HC.out S.out (fs := fs) HCN.out (by rw [Hff.out]; exact HT.out) (fun x hx h1 h2 => by rw [Hff.out, hG]; exact e x hx h1 h2)
        rw [Hff.out, hG] at h9
        exact h9)
      have HNO := Lib.hid (show ∀ x : Nat, x < c → (x : Int) ∉ l.ls → (x : Int) ∉ l.rs → G x ≠ 0 → flE l l.n fs = 14 from fun x hx h1 h2 h3 => flow_no HC.out S.out (by rw [HCN.out]; omega) h1 h2 (by rw [Hff.out, hG]; exact h3))
      have Hbo := Lib.hid (show ∀ x : Nat, -1000000000 ≤ G x ∧ G x ≤ 1000000000 from fun x => by
        have := out_fit HC.out S.out (Nat.le_refl _) HT.out x
        rw [hG] at this
        omega)
      have HQ := Lib.hid (show wk.heap[Z]? = some (.cells (fV c G) 2 (0, 0)) by rw [← hG]; exact HX.out.1)
      replace B := Lib.hid (B.out.trans (HX.out.2.mono B.out.size))
      clear HX HT hG
      replace X := XK
      replace S := SK
      have zX0 : wk.cell? ⟨R, 0, none⟩ = some (.int .i64 (c : Int)) := by rw [← HCN.out, cell_row X.out]; rfl
      have zX2 : wk.cell? ⟨R, 2, none⟩ = some (.slice l.LA l.ln l.lc) := by rw [cell_row X.out]; rfl
      have zX3 : wk.cell? ⟨R, 3, none⟩ = some (.slice l.RA l.rn l.rc) := by rw [cell_row X.out]; rfl
      go_wp2_with fail
      go_loopw [9, 10] (fun g i wr => ∃ q : Nat, q ≤ c ∧ i = .int .i64 (q : Int) ∧ g = .int .i64 (grN l G q) ∧ Hid (∀ x : Nat, x < q → (x : Int) ∉ l.ls → (x : Int) ∉ l.rs → G x = 0) ∧ wr = wk) (fun g i _ => c - (intOf i).toNat)
      case atStart => exact ⟨0, Nat.zero_le _, rfl, rfl, Lib.hid (fun x hx => by omega), rfl⟩
      case round =>
        obtain ⟨q, hq9, rfl, rfl, HZ, hw9⟩ := hrel
        subst wr
        have hc40 := Hc40.out
        by_cases hlt2 : q < c
        · have r1 : wk.cell? ⟨Z, q, none⟩ = some (.int .i64 (G q)) := by rw [cell_row HQ.out]; exact fV_at c G q hlt2
          have i0 : (0 : Int) ≤ (q : Int) := by omega
          have i1 : (q : Int) < (c : Int) := by omega
          have hs : grN l G (q + 1) = grN l G q + ind (decide ((q : Int) ∈ l.ls)) (G q) := rfl
          have hgb := grN_le l Hbo.out q
          have hgq := Hbo.out q
          have K := Lib.hid (in38 l.LA l.ln l.lc l.ls (q : Int) wk S.out.ls S.out.l6)
          have K2 := Lib.hid (in38 l.RA l.rn l.rc l.rs (q : Int) wk S.out.rs S.out.r6)
          have HNq := Lib.hid (HNO.out q hlt2)
          have HZq := Lib.hid (show (((q : Int) ∉ l.ls → (q : Int) ∉ l.rs → G q = 0) → ∀ x : Nat, x < q + 1 → (x : Int) ∉ l.ls → (x : Int) ∉ l.rs → G x = 0) from fun e x hx => by
            rcases Nat.lt_or_ge x q with h | h
            · exact HZ.out x h
            · obtain rfl : x = q := by omega
              exact e)
          obtain ⟨a1, ha1⟩ : ∃ v, decide ((q : Int) ∈ l.ls) = v := ⟨_, rfl⟩
          obtain ⟨a2, ha2⟩ : ∃ v, decide ((q : Int) ∈ l.rs) = v := ⟨_, rfl⟩
          rw [ha1] at K hs
          rw [ha2] at K2
          have HA1 := Lib.hid ha1
          have HA2 := Lib.hid ha2
          obtain ⟨Gq, hGq⟩ : ∃ v, G q = v := ⟨_, rfl⟩
          obtain ⟨gr, hgr⟩ : ∃ v, grN l G q = v := ⟨_, rfl⟩
          rw [hGq] at r1 hs hgq HNq HZq
          rw [hgr] at hs hgb ⊢
          have Hs := Lib.hid hs
          have hwn : IntKind.i64.wrap (gr + Gq) = gr + Gq := IntWalk.i64_in _ (by omega)
          clear ha1 ha2 hGq hgr hs hgb hgq
          go_wp2_with fail
          refine K.out.mono ?_
          rintro en w9 ⟨rfl, hw9⟩
          subst w9
          rcases a1 with _ | _
          rotate_left
          · go_wp2_with fail
            go_roundw
            case rel => exact ⟨q + 1, by omega, by go_num, by rw [Hs.out] <;> rfl, Lib.hid (HZq.out fun h => absurd (of_decide_eq_true HA1.out) h), trivial⟩
            case measure => simp [intOf]; omega
          have HL := Lib.hid (of_decide_eq_false HA1.out)
          have Hs2 := Lib.hid (show grN l G (q + 1) = gr by rw [Hs.out]; simp [ind])
          go_wp2_with fail
          refine K2.out.mono ?_
          rintro en w9 ⟨rfl, hw9⟩
          subst w9
          rcases a2 with _ | _
          rotate_left
          · go_wp2_with fail
            go_roundw
            case rel => exact ⟨q + 1, by omega, by go_num, by rw [Hs2.out], Lib.hid (HZq.out fun _ h => absurd (of_decide_eq_true HA2.out) h), trivial⟩
            case measure => simp [intOf]; omega
          have HR2 := Lib.hid (of_decide_eq_false HA2.out)
          by_cases hg0 : Gq = 0
          · subst hg0
            have d0 : ((0 : Int) != 0) = false := rfl
            go_wp2_with fail
            go_roundw
            case rel => exact ⟨q + 1, by omega, by go_num, by rw [Hs2.out], Lib.hid (HZq.out fun _ _ => by trivial), trivial⟩
            case measure => simp [intOf]; omega
          · have d0 : (Gq != 0) = true := by rw [bne_iff_ne]; exact hg0
            have HE2 := Lib.hid (HNq.out HL.out HR2.out hg0)
            clear hg0
            go_wp2_with fail
            go_ret2
            exact ⟨by rw [grE_no HE2.out (by decide), HE2.out] <;> rfl, B.out⟩
        · obtain rfl : q = c := by omega
          obtain ⟨e1, e2⟩ := HY.out HZ.out
          have E1 := Lib.hid e1
          have E2 := Lib.hid e2
          clear e1 e2 HZ hq9 hlt2 hc40
          go_wp2_with fail
          go_ret2
          exact ⟨by rw [E1.out, E2.out] <;> rfl, B.out⟩
end
end Go.Proofs.Ytigohccehllmnaa
