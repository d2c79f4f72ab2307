/- Stage 3: the marks of a board, loaded and compared. -/
import Derived.Test.YtdfdlklglbefiaaMeet
import Derived.ChangeKeysEq
import Derived.Deep.MidRow
import Derived.Laws.StructEq
namespace Go.Proofs.Ytdfdlklglbefiaa
set_option linter.unusedSimpArgs false
set_option linter.unusedVariables false
open Go.RowKit Go.Shelf

/-- The cells of marks. -/
def arrV (f : Nat → Bool) : Array Value := ((List.range 24).map fun i => Value.bool (f i)).toArray
theorem arrV_size (f : Nat → Bool) : (arrV f).size = 24 := by simp [arrV]
theorem arrV_at (f : Nat → Bool) (i : Nat) (h : i < 24) : (arrV f)[i]? = some (.bool (f i)) := by simp [arrV, h]
/-- Are all marks alike? -/
def sameB (f g : Nat → Bool) : Bool := (List.range 24).all fun i => f i == g i
theorem run_part4 (w : World) (f : Nat → Bool) (i : Nat) (h : i < 24) : (part 4 (arrV f) i).run Try.prog w = .ok (.bool (f i)) w := by
  have h2 := arrV_at f i h
  have hi : i < (arrV f).size := by rw [arrV_size]; exact h
  simp [part, go_sem, Try.underlying4, h2]
theorem run_items4 (d : Nat) (f g : Nat → Bool) : ∀ (is : List Nat) (w : World), (∀ i ∈ is, i < 24) → (Op.eqItems (d + 1) 4 1 (arrV f) (arrV g) is).run Try.prog w = .ok (is.all fun i => f i == g i) w
  | [], w, _ => by simp [Op.eqItems]
  | i :: is, w, h => by
    have h1 := run_part4 w f i (h i (by simp))
    have h2 := run_part4 w g i (h i (by simp))
    have h3 := run_equalIn_bool (P := Try.prog) w d 4 (f i) (g i) Try.underlying4
    have ih := run_items4 d f g is w (fun j hj => h j (by simp [hj]))
    simp only [Op.eqItems, Sem.run_bind, Nat.mul_one, h1, h2, h3, Result.andThen_ok, List.all_cons]
    cases hq : (f i == g i)
    · simp
    · simpa using ih
theorem info4_ : (Try.prog.info? 4).map (fun i => (i.zero, i.size, i.bytes)) = some (some (.bool false), 1, 1) := by kernel_rfl
theorem run_eqlArr4 (d : Nat) (w : World) (f g : Nat → Bool) : (Op.equalIn (d + 1 + 1) 74 (.agg (arrV f)) (.agg (arrV g))).run Try.prog w = .ok (sameB f g) w := by
  obtain ⟨i, hi, _⟩ := info_parts info4_
  have hc : Try.prog.cellsOf 4 = 1 := by kernel_rfl
  rw [run_equalIn_array (P := Try.prog) w (d + 1) (arrV f) (arrV g) Try.underlying74 hi, hc, run_items4 d f g (List.range 24) w (fun i hi => by simpa using hi)]
  rfl
theorem run_neq74 (w : World) (f g : Nat → Bool) : (binOp .neq 74 (.agg (arrV f)) (.agg (arrV g))).run Try.prog w = .ok (.bool (!sameB f g)) w := by
  rw [run_neq_struct, run_eqlArr4 9998 w f g]
  rfl
theorem run_eql74 (w : World) (f g : Nat → Bool) : (binOp .eql 74 (.agg (arrV f)) (.agg (arrV g))).run Try.prog w = .ok (.bool (sameB f g)) w := by
  rw [run_eql_struct, run_eqlArr4 9998 w f g]
  rfl
theorem brd_loads {w : World} {B : Nat} {t : TypeId} {v : Value} {mt al : Nat → Bool} (h : w.heap[B]? = some (.cells (brdV v mt al) t (0, 0))) :
    runO Try.prog (ld 74) (.pointer (some ⟨B, 1, none⟩)) w = .ok (.value (.agg (arrV mt))) w ∧ runO Try.prog (ld 74) (.pointer (some ⟨B, 25, none⟩)) w = .ok (.value (.agg (arrV al))) w := by
  have h1 : (Instr.loadAt 74 (.pointer (some ⟨B, 1, none⟩))).run Try.prog w = .ok (.agg (arrV mt)) w := run_loadAt_mid w B 1 74 ((List.range 24).map fun i => Value.bool (mt i)) (.array 24 4) (fun j u hu => by
    have hj : j < 24 := by have := (List.getElem?_eq_some_iff.1 hu).1; simpa using this
    rw [cell_row h, brdV_met _ _ _ _ hj, ← hu]
    simp [hj]) Try.underlying74 rfl (by kernel_rfl)
  have h2 : (Instr.loadAt 74 (.pointer (some ⟨B, 25, none⟩))).run Try.prog w = .ok (.agg (arrV al)) w := run_loadAt_mid w B 25 74 ((List.range 24).map fun i => Value.bool (al i)) (.array 24 4) (fun j u hu => by
    have hj : j < 24 := by have := (List.getElem?_eq_some_iff.1 hu).1; simpa using this
    rw [cell_row h, brdV_all _ _ _ _ hj, ← hu]
    simp [hj]) Try.underlying74 rfl (by kernel_rfl)
  unfold runO ld
  constructor
  · simp only [execOp, Act.eval, Sem.run_bind, Sem.run_pure, Result.andThen_ok, h1]
  · simp only [execOp, Act.eval, Sem.run_bind, Sem.run_pure, Result.andThen_ok, h2]
theorem exec_load74 (ρ : Operand → Value) (d : Option Tmp) (x : Operand) (ty : TypeId) (pos : String) (af : Array Edge) (g : Option (Nat × Bool)) (W : World) :
    (execOp ρ { dst := d, op := Op.load 74 x, type := ty, pos := pos, after := af, guard := g }).run Try.prog W = runO Try.prog (ld 74) (ρ x) W := rfl
theorem at_load74 (r : Option Nat) (ρ : Operand → Value) (d : Option Tmp) (x : Operand) (ty : TypeId) (pos : String) (af : Array Edge) (g : Option (Nat × Bool)) (W : World) :
    (Oper.semAt r ρ { dst := d, op := Op.load 74 x, type := ty, pos := pos, after := af, guard := g }).run Try.prog W = runO Try.prog (ld 74) (ρ x) W := by
  rw [at_plain _ _ _ (fun c => by simp)]; exact exec_load74 ρ d x ty pos af g W
/-! The comparison, kept whole in walks. -/
def runQ (P : Program) (op : BinOp) (x y : Value) (W : World) : Result Next :=
  (execOp (fun o => match o with | .tmp 0 => x | _ => y) { dst := none, op := Op.binOp op 74 (.tmp 0) (.tmp 1) 74, type := 0, pos := "", after := #[], guard := none }).run P W
theorem exec_cmp74 (op : BinOp) (ρ : Operand → Value) (d : Option Tmp) (i j : Tmp) (ty : TypeId) (pos : String) (af : Array Edge) (g : Option (Nat × Bool)) (W : World) :
    (execOp ρ { dst := d, op := Op.binOp op 74 (.tmp i) (.tmp j) 74, type := ty, pos := pos, after := af, guard := g }).run Try.prog W = runQ Try.prog op (ρ (.tmp i)) (ρ (.tmp j)) W := rfl
theorem at_cmp74 (op : BinOp) (r : Option Nat) (ρ : Operand → Value) (d : Option Tmp) (i j : Tmp) (ty : TypeId) (pos : String) (af : Array Edge) (g : Option (Nat × Bool)) (W : World) :
    (Oper.semAt r ρ { dst := d, op := Op.binOp op 74 (.tmp i) (.tmp j) 74, type := ty, pos := pos, after := af, guard := g }).run Try.prog W = runQ Try.prog op (ρ (.tmp i)) (ρ (.tmp j)) W := by
  rw [at_plain _ _ _ (fun c => by simp)]; exact exec_cmp74 op ρ d i j ty pos af g W
theorem runQ_neq (f g : Nat → Bool) (W : World) : runQ Try.prog .neq (.agg (arrV f)) (.agg (arrV g)) W = .ok (.value (.bool (!sameB f g))) W := by
  have h := run_eqlArr4 9998 W f g
  unfold runQ
  simp [execOp, go_sem, h]
theorem runQ_eql (f g : Nat → Bool) (W : World) : runQ Try.prog .eql (.agg (arrV f)) (.agg (arrV g)) W = .ok (.value (.bool (sameB f g))) W := by
  have h := run_eqlArr4 9998 W f g
  unfold runQ
  simp [execOp, go_sem, h]
end Go.Proofs.Ytdfdlklglbefiaa
