/- Stage 5: the most links that can be true together, and covers: mathematics. -/
import Derived.Test.YtnodkgejggnehaaIt
import Derived.ChangeKeysEq
import Derived.Deep.MidRow
import Derived.Test.YtnodkgejggnehaaFd
import Derived.Deep.Cut
import Derived.LoopIn
namespace Go.Proofs.Ytnodkgejggnehaa
set_option linter.unusedSimpArgs false
set_option linter.unusedVariables false
open Go.RowKit Go.Shelf
theorem exec_load88 (ρ : Operand → Value) (d : Option Tmp) (x : Operand) (ty : TypeId) (pos : String) (af : Array Edge) (g : Option (Nat × Bool)) (W : World) :
    (execOp ρ { dst := d, op := Op.load 88 x, type := ty, pos := pos, after := af, guard := g }).run Try.prog W = runO Try.prog (ld 88) (ρ x) W := rfl
theorem exec_load91 (ρ : Operand → Value) (d : Option Tmp) (x : Operand) (ty : TypeId) (pos : String) (af : Array Edge) (g : Option (Nat × Bool)) (W : World) :
    (execOp ρ { dst := d, op := Op.load 91 x, type := ty, pos := pos, after := af, guard := g }).run Try.prog W = runO Try.prog (ld 91) (ρ x) W := rfl
theorem exec_store88 (ρ : Operand → Value) (d : Option Tmp) (x y : Operand) (ty : TypeId) (pos : String) (af : Array Edge) (g : Option (Nat × Bool)) (W : World) :
    (execOp ρ { dst := d, op := Op.store 88 x y, type := ty, pos := pos, after := af, guard := g }).run Try.prog W = runV Try.prog (st 88) (ρ x) (ρ y) W := rfl
theorem exec_store91 (ρ : Operand → Value) (d : Option Tmp) (x y : Operand) (ty : TypeId) (pos : String) (af : Array Edge) (g : Option (Nat × Bool)) (W : World) :
    (execOp ρ { dst := d, op := Op.store 91 x y, type := ty, pos := pos, after := af, guard := g }).run Try.prog W = runV Try.prog (st 91) (ρ x) (ρ y) W := rfl
/-- All partners. -/
def pV (pt : Nat → Int) : Array Value := ((List.range 24).map fun j => Value.int .i64 (pt j)).toArray
/-- The partners of one list. -/
def pW (pt : Nat → Int) (l : Nat) : Array Value := ((List.range 12).map fun j => Value.int .i64 (pt (l * 12 + j))).toArray
theorem pV_size (pt : Nat → Int) : (pV pt).size = 24 := by simp [pV]
theorem pV_at (pt : Nat → Int) (j : Nat) (h : j < 24) : (pV pt)[j]? = some (.int .i64 (pt j)) := by simp [pV, h]
theorem pW_size (pt : Nat → Int) (l : Nat) : (pW pt l).size = 12 := by simp [pW]
theorem pW_at (pt : Nat → Int) (l j : Nat) (h : j < 12) : (pW pt l)[j]? = some (.int .i64 (pt (l * 12 + j))) := by simp [pW, h]
theorem pV_one (pt : Nat → Int) : (pV pt).all (·.oneCell') = true := by simp [pV, Value.oneCell']
theorem run_ld88 {W : World} {B o : Nat} {pt : Nat → Int} (h : ∀ j, j < 24 → W.cell? ⟨B, o + j, none⟩ = some (.int .i64 (pt j))) : runO Try.prog (ld 88) (.pointer (some ⟨B, o, none⟩)) W = .ok (.value (.agg (pV pt))) W := by
  have h1 : (loadVar 88 ⟨B, o, none⟩).run Try.prog W = .ok (.agg ((List.range 24).map fun j => Value.int .i64 (pt j)).toArray) W := run_loadVar_mid W B o 88 ((List.range 24).map fun j => Value.int .i64 (pt j)) _ (fun j v hv => by
    have hj : j < 24 := by have := (List.getElem?_eq_some_iff.1 hv).1; simpa using this
    have e : v = .int .i64 (pt j) := by simp [hj] at hv; exact hv.symm
    subst e
    exact h j hj) Try.underlying88 rfl (by kernel_rfl)
  unfold runO ld pV
  simp only [execOp, Act.eval, Instr.loadAt, Instr.sureAddr, Sem.run_bind, Sem.run_pure, Result.andThen_ok, h1]
theorem run_st88 {W : World} {B : Nat} {pt : Nat → Int} {Y : Array Value} {t : TypeId} (h : W.heap[B]? = some (.cells Y t (0, 0))) (hY : Y.size = 24) :
    runV Try.prog (st 88) (.pointer (some ⟨B, 0, none⟩)) (.agg (pV pt)) W = .ok .skip (W.setRow B (pV pt)) := by
  have h2 : (storeVar 88 ⟨B, 0, none⟩ (.agg (pV pt))).run Try.prog W = .ok () (W.setRow B (pV pt)) := run_storeVar_row W B t 88 Y (pV pt) h (by rw [pV_size]; kernel_rfl) (by rw [pV_size]; omega) (pV_one pt)
  unfold runV st
  simp only [execOp, Instr.storeAt, Instr.sureAddr, Sem.run_bind, Sem.run_pure, Result.andThen_ok, h2]
theorem run_ld91 {W : World} {B : Nat} {X : Array Value} {t : TypeId} (h : W.heap[B]? = some (.cells X t (0, 0))) (hs : X.size = 69) : runO Try.prog (ld 91) (.pointer (some ⟨B, 0, none⟩)) W = .ok (.value (.agg X)) W := by
  have h1 : (loadVar 91 ⟨B, 0, none⟩).run Try.prog W = .ok (.agg X) W := run_loadVar_row W B t 91 X (0, 0) _ h Try.underlying91 rfl (by rw [hs]; kernel_rfl)
  unfold runO ld
  simp only [execOp, Act.eval, Instr.loadAt, Instr.sureAddr, Sem.run_bind, Sem.run_pure, Result.andThen_ok, h1]
theorem run_st91 {W : World} {B : Nat} {X Y : Array Value} {t : TypeId} (h : W.heap[B]? = some (.cells Y t (0, 0))) (hY : Y.size = 69) (hX : X.size = 69) (h1 : X.all (·.oneCell') = true) :
    runV Try.prog (st 91) (.pointer (some ⟨B, 0, none⟩)) (.agg X) W = .ok .skip (W.setRow B X) := by
  have h2 : (storeVar 91 ⟨B, 0, none⟩ (.agg X)).run Try.prog W = .ok () (W.setRow B X) := run_storeVar_row W B t 91 Y X h (by rw [hX]; kernel_rfl) (by omega) h1
  unfold runV st
  simp only [execOp, Instr.storeAt, Instr.sureAddr, Sem.run_bind, Sem.run_pure, Result.andThen_ok, h2]
/-- All the same partners. -/
def samP (p q : Nat → Int) : Bool := (List.range 24).all fun j => p j == q j
def samW (p q : Nat → Int) (l : Nat) : Bool := (List.range 12).all fun j => p (l * 12 + j) == q (l * 12 + j)
theorem run_part3 (w : World) (p : Nat → Int) (l i : Nat) (h : i < 12) : (part 3 (pW p l) i).run Try.prog w = .ok (.int .i64 (p (l * 12 + i))) w := by
  have h2 := pW_at p l i h
  have hi : i < (pW p l).size := by rw [pW_size]; exact h
  simp [part, go_sem, Try.underlying3, h2]
theorem run_items3 (d : Nat) (p q : Nat → Int) (l : Nat) : ∀ (is : List Nat) (w : World), (∀ i ∈ is, i < 12) → (Op.eqItems (d + 1) 3 1 (pW p l) (pW q l) is).run Try.prog w = .ok (is.all fun i => p (l * 12 + i) == q (l * 12 + i)) w
  | [], w, _ => by simp [Op.eqItems]
  | i :: is, w, h => by
    have h1 := run_part3 w p l i (h i (by simp))
    have h2 := run_part3 w q l i (h i (by simp))
    have h3 := run_equalIn_int (P := Try.prog) w d 3 .i64 .i64 (p (l * 12 + i)) (q (l * 12 + i)) Try.underlying3
    have ih := run_items3 d p q l is w (fun j hj => h j (by simp [hj]))
    simp only [Op.eqItems, Sem.run_bind, Nat.mul_one, h1, h2, h3, Result.andThen_ok, List.all_cons]
    cases hq : (p (l * 12 + i) == q (l * 12 + i))
    · simp
    · simpa using ih
theorem run_eql86 (d : Nat) (w : World) (p q : Nat → Int) (l : Nat) : (Op.equalIn (d + 1 + 1) 86 (.agg (pW p l)) (.agg (pW q l))).run Try.prog w = .ok (samW p q l) w := by
  have hs3 : (Try.prog.info? 3).isSome = true := by kernel_rfl
  obtain ⟨i, hi⟩ := Option.isSome_iff_exists.1 hs3
  have hc : Try.prog.cellsOf 3 = 1 := by kernel_rfl
  rw [run_equalIn_array (P := Try.prog) w (d + 1) (pW p l) (pW q l) Try.underlying86 hi, hc, run_items3 d p q l (List.range 12) w (fun i hi => by simpa using hi)]
  rfl
theorem run_part86 (w : World) (p : Nat → Int) (l : Nat) (h : l < 2) : (part 86 (pV p) (l * 12)).run Try.prog w = .ok (.agg (pW p l)) w := by
  have hx : (pV p).extract (l * 12) (l * 12 + 12) = pW p l := by
    apply Array.ext_getElem?
    intro i
    by_cases hi : i < 12
    · rw [pW_at p l i hi, Array.getElem?_extract]
      simp [pV_size, hi, pV_at p (l * 12 + i) (by omega)]
      omega
    · rw [Array.getElem?_eq_none (by simp only [Array.size_extract, pV_size]; omega), Array.getElem?_eq_none (by rw [pW_size]; omega)]
  have hm : (Try.prog.info? 86).map (·.size) = some 12 := by kernel_rfl
  obtain ⟨i, hi, hs⟩ := Option.map_eq_some_iff.1 hm
  have hagg : (isAgg 86).run Try.prog w = .ok true w := by
    unfold isAgg
    rw [Sem.run_bind, run_underlying Try.underlying86 w]
    rfl
  simp [part, Sem.run_bind, hagg, sizeOf, typeInfo, hi, hs, hx]
theorem run_items86 (d : Nat) (p q : Nat → Int) (is : List Nat) : ∀ (w : World), (∀ i ∈ is, i < 2) → (Op.eqItems (d + 1 + 1) 86 12 (pV p) (pV q) is).run Try.prog w = .ok (is.all fun l => samW p q l) w := by
  induction is with
  | nil => intro w _; simp only [Op.eqItems, Sem.run_pure, List.all_nil]
  | cons i is ih =>
    intro w h
    have h1 := run_part86 w p i (h i (by simp))
    have h2 := run_part86 w q i (h i (by simp))
    have h3 := run_eql86 d w p q i
    have h4 := ih w (fun j hj => h j (by simp [hj]))
    simp only [Op.eqItems, Sem.run_bind, h1, h2, h3, Result.andThen_ok, List.all_cons]
    cases hq : samW p q i with
    | false => simp only [Bool.not_false, if_true, Sem.run_pure, Bool.false_and]
    | true => simp only [Bool.not_true, Bool.false_eq_true, if_false, Bool.true_and, h4]
theorem samP_eq (p q : Nat → Int) : ((List.range 2).all fun l => samW p q l) = samP p q := by
  rw [Bool.eq_iff_iff]
  simp only [List.all_eq_true, List.mem_range, samW, samP, beq_iff_eq]
  constructor
  · intro h j hj
    have := h (j / 12) (by omega) (j % 12) (by omega)
    rwa [show j / 12 * 12 + j % 12 = j by omega] at this
  · intro h l hl j hj
    exact h (l * 12 + j) (by omega)
theorem run_eql88 (w : World) (p q : Nat → Int) : (Op.equalIn 10000 88 (.agg (pV p)) (.agg (pV q))).run Try.prog w = .ok (samP p q) w := by
  have hs3 : (Try.prog.info? 86).isSome = true := by kernel_rfl
  obtain ⟨i, hi⟩ := Option.isSome_iff_exists.1 hs3
  have hc : Try.prog.cellsOf 86 = 12 := by kernel_rfl
  rw [show (10000 : Nat) = 9997 + 1 + 1 + 1 from rfl, run_equalIn_array (P := Try.prog) w (9997 + 1 + 1) (pV p) (pV q) Try.underlying88 hi, hc, run_items86 9997 p q (List.range 2) w (fun i hi => by simpa using hi), samP_eq]
theorem samP_iff (p q : Nat → Int) : samP p q = true ↔ ∀ j, j < 24 → p j = q j := by
  simp [samP, List.all_eq_true]
end Go.Proofs.Ytnodkgejggnehaa

namespace Go.Proofs.Ytnodkgejggnehaa
set_option linter.unusedSimpArgs false
set_option linter.unusedVariables false
open Go.RowKit Go.Shelf
attribute [local go_sem ↓] exec_app at_app
attribute [local go_sem] Oper.semAt_some
/-- Partners are as a joining says. -/
def Cons (n : Nat) (zs : List Rg) (pt : Nat → Int) : Prop := ∀ l i, l < 2 → i < 12 → pt (l * 12 + i) = -1 ∨ ∃ k, k < n ∧ pt (l * 12 + i) = (k : Int) ∧ eN zs l k = i ∧ pt ((1 - l) * 12 + eN zs (1 - l) k) = (k : Int)
/-- The ends of open links have partners by open links alone. -/
def OpI (n : Nat) (zs : List Rg) (op : Nat → Bool) (pt : Nat → Int) : Prop := ∀ k, k < n → op k = true → ∀ l, l < 2 → pt (l * 12 + eN zs l k) = -1 ∨ ∃ q, q < n ∧ pt (l * 12 + eN zs l k) = (q : Int) ∧ op q = true
/-- No search from an item finds a partner. -/
def Cert (n : Nat) (zs : List Rg) (op : Nat → Bool) (pt : Nat → Int) (l i : Nat) : Prop := ∃ ls lt : Nat → Bool, ls i = true ∧ (∀ x, x < 12 → ls x = true → ∀ k, k < n → op k = true → eN zs l k = x → lt (eN zs (1 - l) k) = true) ∧ ∀ y, y < 12 → lt y = true → ∃ k, k < n ∧ mT pt l y = (k : Int) ∧ ls (eN zs l k) = true
/-- More items have partners, by open links. -/
structure Gro (n : Nat) (zs : List Rg) (op : Nat → Bool) (pt pt' : Nat → Int) : Prop where
  cons : Cons n zs pt'
  opi : OpI n zs op pt'
  mono : ∀ x, x < 24 → pt x ≠ -1 → pt' x ≠ -1
  new : ∀ x, x < 24 → pt' x = pt x ∨ ∃ k, k < n ∧ pt' x = (k : Int) ∧ op k = true
theorem Gro.trans {n : Nat} {zs : List Rg} {op : Nat → Bool} {a b c : Nat → Int} (h : Gro n zs op a b) (k : Gro n zs op b c) : Gro n zs op a c :=
  ⟨k.cons, k.opi, fun x hx e => k.mono x hx (h.mono x hx e), fun x hx => by
    rcases k.new x hx with e | e
    · rw [e]; exact h.new x hx
    · exact .inr e⟩
theorem Gro.refl {n : Nat} {zs : List Rg} {op : Nat → Bool} {a : Nat → Int} (h : Cons n zs a) (k : OpI n zs op a) : Gro n zs op a a := ⟨h, k, fun _ _ e => e, fun _ _ => .inl rfl⟩
theorem Cons.ptOk {n : Nat} {zs : List Rg} {pt : Nat → Int} (h : Cons n zs pt) : PtOk n pt := fun x hx => by
  have := h (x / 12) (x % 12) (by omega) (by omega)
  rw [show x / 12 * 12 + x % 12 = x by omega] at this
  rcases this with h | ⟨k, h1, h2, _⟩
  · exact .inl h
  · exact .inr ⟨k, h1, h2⟩
theorem Cons.pre {n : Nat} {zs : List Rg} {pt : Nat → Int} (h : Cons n zs pt) {l : Nat} (hl : l < 2) (lk : Nat → Bool) : Pre n (eN zs l) (eN zs (1 - l)) lk (mT pt l) (pS pt l) := fun j hj _ => by
  rcases h (1 - l) j (by omega) hj with h | ⟨k, h1, h2, h3, h4⟩
  · exact .inl h
  · refine .inr ⟨k, h1, h2, h3, ?_⟩
    rw [show 1 - (1 - l) = l by omega] at h4
    exact h4
theorem Cons.img {n : Nat} {zs : List Rg} {pt : Nat → Int} (h : Cons n zs pt) {l i : Nat} (hl : l < 2) (lk : Nat → Bool) (hi : pt (l * 12 + i) = -1) : ¬ Img n (eN zs l) lk (mT pt l) i := by
  rintro ⟨j, hj, hlj, k, hk, hm, hf⟩
  rcases h.pre hl (fun _ => false) j hj rfl with e | ⟨q, h1, h2, h3, h4⟩
  · rw [hm] at e; omega
  · rw [hm] at h2
    obtain rfl : k = q := by omega
    rw [hf] at h4
    unfold pS at h4
    rw [hi] at h4; omega
/-- A search that has found a partner, nothing looked at before. -/
theorem AugP.gro {n : Nat} {zs : List Rg} {op : Nat → Bool} {l i : Nat} {lk : Nat → Bool} {pt pt' : Nat → Int} (hz : ZOk n zs) (hl : l < 2) (hi : i < 12) (hc : Cons n zs pt) (ho : OpI n zs op pt) (h0 : pt (l * 12 + i) = -1) (hlk : ∀ z, lk z = false) (h : AugP n zs op l i lk pt pt') : Gro n zs op pt pt' ∧ pt' (l * 12 + i) ≠ -1 := by
  have hT : ∀ j, kT lk l j = false := fun j => hlk _
  have key : ∀ x, x < 12 → (pS pt' l x = -1 ∧ pS pt l x = -1) ∨ ∃ k, k < n ∧ pS pt' l x = (k : Int) ∧ eN zs l k = x ∧ mT pt' l (eN zs (1 - l) k) = (k : Int) := fun x hx => by
    by_cases him : Img n (eN zs l) (kT lk l) (mT pt' l) x
    · obtain ⟨j, hj, hlj, k, hk, hm, hf⟩ := him
      rcases h.b j hj hlj with e | ⟨q, h1, h2, h3, h4⟩
      · rw [hm] at e; omega
      · rw [hm] at h2
        obtain rfl : k = q := by omega
        rw [hf] at h4
        exact .inr ⟨k, hk, h4, hf, by rw [h3]; exact hm⟩
    · have e := h.d x hx him
      rcases hc l x hl hx with e2 | ⟨k, h1, h2, h3, h4⟩
      · exact .inl ⟨by rw [e]; exact e2, e2⟩
      · exact absurd (h.e2 x ⟨eN zs (1 - l) k, hz.lt h1, hT _, k, h1, h4, h3⟩) him
  have hdom : ∀ x, x < 12 → pS pt l x ≠ -1 → pS pt' l x ≠ -1 := fun x hx e => by
    rcases key x hx with ⟨_, e2⟩ | ⟨k, _, h2, _⟩
    · exact absurd e2 e
    · rw [h2]; omega
  have hcons : Cons n zs pt' := fun l2 x hl2 hx => by
    rcases (by omega : l2 = l ∨ l2 = 1 - l) with rfl | rfl
    · rcases key x hx with ⟨e, _⟩ | e
      · exact .inl e
      · exact .inr e
    · rcases h.b x hx (hT x) with e | ⟨k, h1, h2, h3, h4⟩
      · exact .inl e
      · refine .inr ⟨k, h1, h2, h3, ?_⟩
        rw [show 1 - (1 - l) = l by omega]
        exact h4
  have hnew : ∀ x, x < 24 → pt' x = pt x ∨ ∃ k, k < n ∧ pt' x = (k : Int) ∧ op k = true := fun x hx => by
    rcases (by omega : x / 12 = l ∨ x / 12 = 1 - l) with e | e
    · have := h.fp (x % 12) (by omega)
      unfold pS at this
      rwa [show l * 12 + x % 12 = x by omega] at this
    · have := h.fm (x % 12) (by omega)
      unfold mT at this
      rwa [show (1 - l) * 12 + x % 12 = x by omega] at this
  refine ⟨⟨hcons, fun k hk hok l2 hl2 => ?_, fun x hx e => ?_, hnew⟩, ?_⟩
  · have hx : l2 * 12 + eN zs l2 k < 24 := by have := hz.lt (l := l2) hk; omega
    rcases hnew _ hx with e | ⟨q, h1, h2, h3⟩
    · rw [e]; exact ho k hk hok l2 hl2
    · exact .inr ⟨q, h1, h2, h3⟩
  · rcases (by omega : x / 12 = l ∨ x / 12 = 1 - l) with e2 | e2
    · have := hdom (x % 12) (by omega)
      unfold pS at this
      rw [show l * 12 + x % 12 = x by omega] at this
      exact this e
    · have := h.c (x % 12) (by omega)
      unfold mT at this
      rw [show (1 - l) * 12 + x % 12 = x by omega] at this
      exact this e
  · obtain ⟨j, hj, hlj, k, hk, hm, hf⟩ := h.e1
    rcases h.b j hj hlj with e | ⟨q, h1, h2, h3, h4⟩
    · rw [hm] at e; omega
    · rw [hm] at h2
      obtain rfl : k = q := by omega
      rw [hf] at h4
      have h4' : pt' (l * 12 + i) = (k : Int) := h4
      rw [h4']; omega
theorem CloP.cert {n : Nat} {zs : List Rg} {op : Nat → Bool} {l i : Nat} {pt : Nat → Int} {lk lk' : Nat → Bool} (hlk : ∀ z, lk z = false) (h : CloP n zs op l pt lk lk') (hi : lk' (l * 12 + i) = true) : Cert n zs op pt l i :=
  ⟨kS lk' l, kT lk' l, hi, fun x hx e => (h.cs x hx e).resolve_left (by show ¬ lk _ = true; rw [hlk]; simp), fun y hy e => (h.ct y hy e).resolve_left (by show ¬ lk _ = true; rw [hlk]; simp)⟩
/-- Items without partners. -/
def unp (pt : Nat → Int) : Nat := (List.range 24).countP fun x => pt x == -1
theorem unp_lt {pt pt' : Nat → Int} (h : ∀ x, x < 24 → pt x ≠ -1 → pt' x ≠ -1) {s : Nat} (hs : s < 24) (h1 : pt s = -1) (h2 : pt' s ≠ -1) : unp pt' < unp pt := by
  unfold unp
  have hle : ∀ L : List Nat, (∀ x ∈ L, x < 24) → L.countP (fun x => pt' x == -1) ≤ L.countP (fun x => pt x == -1) := fun L hL => List.countP_mono_left (fun x hx e => by
    rw [beq_iff_eq] at e ⊢
    exact Classical.byContradiction fun e2 => h x (hL x hx) e2 e)
  have : ∀ L : List Nat, (∀ x ∈ L, x < 24) → s ∈ L → L.countP (fun x => pt' x == -1) < L.countP (fun x => pt x == -1) := by
    intro L hL hm
    induction L with
    | nil => simp at hm
    | cons x L ih =>
      rw [List.countP_cons, List.countP_cons]
      have hL2 : ∀ y ∈ L, y < 24 := fun y hy => hL y (List.mem_cons_of_mem _ hy)
      rcases List.mem_cons.1 hm with rfl | hm
      · have h3 : (pt' s == -1) = false := by rw [beq_eq_false_iff_ne]; exact h2
        have h4 : (pt s == -1) = true := by rw [beq_iff_eq]; exact h1
        rw [h3, h4]
        have := hle L hL2
        simp; omega
      · have h5 := ih hL2 hm
        have h6 : (if (pt' x == -1) = true then 1 else 0) ≤ (if (pt x == -1) = true then 1 else 0) := by
          by_cases e : pt x = -1
          · rw [e]; split <;> simp
          · have h7 : (pt' x == -1) = false := by rw [beq_eq_false_iff_ne]; exact h x (hL x (by simp)) e
            rw [h7]; simp
        omega
  exact this _ (fun x hx => List.mem_range.1 hx) (List.mem_range.2 hs)
/-- The same, read of the world. -/
def unpW (W : World) (B : Nat) : Nat := (List.range 24).countP fun j => match W.cell? ⟨B, 4 + j, none⟩ with
  | some (.int _ a) => a == -1
  | _ => false
theorem Brd.unp {W : World} {B : Nat} {sl sr : Int} {A : Option Addr} {n cap : Nat} {zs : List Rg} {A2 : Option Addr} {kn kc : Nat} {ks : List Int} {pt : Nat → Int} {op : Nat → Bool} {mp : Value} (h : Brd W B sl sr A n cap zs A2 kn kc ks pt op mp) : unpW W B = unp pt := by
  unfold unpW Ytnodkgejggnehaa.unp
  refine List.countP_congr (fun j hj => ?_)
  rw [h.hp j (List.mem_range.1 hj)]
/-- Sides of items. -/
def SdOk (ss : List Rg) : Prop := ∀ s ∈ ss, ∃ l i : Nat, l < 2 ∧ i < 12 ∧ s = ⟨(l : Int), (i : Int)⟩
end Go.Proofs.Ytnodkgejggnehaa

namespace Go.Proofs.Ytnodkgejggnehaa
set_option linter.unusedSimpArgs false
set_option linter.unusedVariables false
/-- What a valid sheet says. -/
structure Shg (sl sr : Int) (zs : List Rg) (ks : List Int) : Prop where
  rng : 1 ≤ sl ∧ sl ≤ 12 ∧ 1 ≤ sr ∧ sr ≤ 12
  n40 : zs.length ≤ 40
  zok : ZOk zs.length zs
  e0 : ∀ k, k < zs.length → (eN zs 0 k : Int) < sl
  e1 : ∀ k, k < zs.length → (eN zs 1 k : Int) < sr
  nm : NmOk zs.length ks
  ap : ∀ i j, i < ks.length → j < ks.length → i ≠ j → ∀ l, l < 2 → eN zs l (iAt ks i).toNat ≠ eN zs l (iAt ks j).toNat
  ris : risI (zs.length : Int) ks = true
theorem getElem_inj_nodup {α : Type} {l : List α} (h : l.Nodup) {i j : Nat} (hi : i < l.length) (hj : j < l.length) (e : l[i] = l[j]) : i = j := (List.getElem_inj h).1 e
theorem shg_of {sl sr : Int} {zs : List Rg} {ks : List Int} (h : chkS sl sr zs ks = 0) : Shg sl sr zs ks := by
  obtain ⟨h1, h2, h3, h4, h5, h6⟩ := chkS_zero h
  have hok : ∀ k, k < zs.length → 0 ≤ (gAt zs k).lo ∧ (gAt zs k).lo < sl ∧ 0 ≤ (gAt zs k).hi ∧ (gAt zs k).hi < sr := fun k hk => by
    have := List.all_eq_true.1 h3 zs[k] (List.getElem_mem hk)
    unfold okG at this
    rw [Bool.and_eq_true, inB_iff, inB_iff] at this
    rw [gAt_eq hk]
    omega
  have hz : ZOk zs.length zs := fun k hk => by
    obtain ⟨a, b, c, d⟩ := hok k hk
    refine ⟨(gAt zs k).lo.toNat, (gAt zs k).hi.toNat, ?_, by omega, by omega⟩
    have e1 : ((gAt zs k).lo.toNat : Int) = (gAt zs k).lo := Int.toNat_of_nonneg a
    have e2 : ((gAt zs k).hi.toNat : Int) = (gAt zs k).hi := Int.toNat_of_nonneg c
    rw [e1, e2]
  have hk : ∀ j, j < ks.length → 0 ≤ iAt ks j ∧ iAt ks j < (zs.length : Int) := fun j hj => by
    have := ris_at (n := ks.length) h5 j hj
    omega
  refine ⟨h1, h2, hz, fun k hk => ?_, fun k hk => ?_, fun x hx => ?_, fun i j hi hj hne l hl e => ?_, h5⟩
  · obtain ⟨a, b, c, d⟩ := hok k hk
    have := hz.end_eq (l := 0) hk
    unfold endI at this
    rw [if_pos rfl] at this
    omega
  · obtain ⟨a, b, c, d⟩ := hok k hk
    have := hz.end_eq (l := 1) hk
    unfold endI at this
    rw [if_neg (by omega)] at this
    omega
  · obtain ⟨j, hj, rfl⟩ := List.getElem_of_mem hx
    have := hk j hj
    rw [iAt_eq hj] at this
    exact ⟨ks[j].toNat, by omega, by omega⟩
  · have hi2 : (iAt ks i).toNat < zs.length := by have := hk i hi; omega
    have hj2 : (iAt ks j).toNat < zs.length := by have := hk j hj; omega
    unfold apB at h6
    rw [Bool.and_eq_true, decide_eq_true_eq, decide_eq_true_eq] at h6
    obtain ⟨h6, h7⟩ := h6
    have q1 := hz.end_eq (l := l) hi2
    have q2 := hz.end_eq (l := l) hj2
    rw [e, ← q2] at q1
    unfold endI at q1
    rcases (by omega : l = 0 ∨ l = 1) with rfl | rfl
    · rw [if_pos rfl, if_pos rfl] at q1
      refine hne (getElem_inj_nodup h6 (i := i) (j := j) (by simpa [lfS] using hi) (by simpa [lfS] using hj) ?_)
      simp only [lfS, List.getElem_map]
      rw [← iAt_eq hi, ← iAt_eq hj]; exact q1
    · rw [if_neg (by omega), if_neg (by omega)] at q1
      refine hne (getElem_inj_nodup h7 (i := i) (j := j) (by simpa [rtS] using hi) (by simpa [rtS] using hj) ?_)
      simp only [rtS, List.getElem_map]
      rw [← iAt_eq hi, ← iAt_eq hj]; exact q1
/-- Two links meet. -/
def mtB (zs : List Rg) (j k : Nat) : Bool := decide (eN zs 0 j = eN zs 0 k) || decide (eN zs 1 j = eN zs 1 k)
theorem meB_eq {n : Nat} {zs : List Rg} (hz : ZOk n zs) {j k : Nat} (hj : j < n) (hk : k < n) : meB (gAt zs j) (gAt zs k) = mtB zs j k := by
  obtain ⟨h1, _, _⟩ := hz.at hj
  obtain ⟨h2, _, _⟩ := hz.at hk
  unfold meB mtB
  rw [h1, h2]
  rw [Bool.eq_iff_iff]
  simp only [Bool.or_eq_true, beq_iff_eq, decide_eq_true_eq]
  omega
theorem tkB_iff {n : Nat} {zs : List Rg} (hz : ZOk n zs) {ks : List Int} (hn : NmOk n ks) {j : Nat} (hj : j < n) : tkB zs ks j = true ↔ ∃ k : Nat, k < n ∧ (k : Int) ∈ ks ∧ mtB zs j k = true := by
  unfold tkB
  rw [List.any_eq_true]
  constructor
  · rintro ⟨x, hx, h⟩
    obtain ⟨k, hk, rfl⟩ := hn x hx
    exact ⟨k, hk, hx, by rw [Int.toNat_natCast, meB_eq hz hj hk] at h; exact h⟩
  · rintro ⟨k, hk, hx, h⟩
    exact ⟨(k : Int), hx, by rw [Int.toNat_natCast, meB_eq hz hj hk]; exact h⟩
/-- The links that no known one meets. -/
def opnL (n : Nat) (zs : List Rg) (ks : List Int) : Nat → Bool := fun j => decide (j < n) && !tkB zs ks j
theorem knw_free {n : Nat} {zs : List Rg} {pt : Nat → Int} {op : Nat → Bool} {k : Nat} (h0 : pt (0 * 12 + eN zs 0 k) = -1) (h1 : pt (1 * 12 + eN zs 1 k) = -1) :
    knw zs n pt op k 2 = (pt, clsO zs n 1 (eN zs 1 k) (clsO zs n 0 (eN zs 0 k) op n) n, []) := by
  show (prtP zs (prtP zs pt (0 * 12 + eN zs 0 k)) (1 * 12 + eN zs 1 k), _, _) = _
  have e0 : prtP zs pt (0 * 12 + eN zs 0 k) = pt := by unfold prtP; rw [if_pos h0]
  have e1 : prtP zs pt (1 * 12 + eN zs 1 k) = pt := by unfold prtP; rw [if_pos h1]
  have l0 : prtL zs pt (0 * 12 + eN zs 0 k) = [] := by unfold prtL; rw [if_pos h0]
  have l1 : prtL zs pt (1 * 12 + eN zs 1 k) = [] := by unfold prtL; rw [if_pos h1]
  simp only [knw, e0, e1, l0, l1, List.append_nil]
/-- The first q known links are known. -/
structure LyI (n : Nat) (zs : List Rg) (ks : List Int) (pt : Nat → Int) (op : Nat → Bool) : Prop where
  cons : Cons n zs pt
  op : op = opnL n zs ks
  joi : ∀ j, j < n → (pt (0 * 12 + eN zs 0 j) = (j : Int) ↔ (j : Int) ∈ ks)
theorem LyI.start {n : Nat} {zs : List Rg} {pt : Nat → Int} (hz : ZOk n zs) (h : ∀ j, j < 24 → pt j = -1) : LyI n zs [] pt (fun j => decide (j < n)) := by
  refine ⟨fun l i hl hi => .inl (h _ (by omega)), ?_, fun j hj => ?_⟩
  · funext j; simp [opnL, tkB]
  · have := hz.lt (l := 0) hj
    rw [h _ (by omega)]
    simp
theorem prP_at {n : Nat} {zs : List Rg} (hz : ZOk n zs) {k : Nat} (hk : k < n) (pt : Nat → Int) {l i : Nat} (hl : l < 2) (hi : i < 12) : prP pt (eN zs 0 k) (eN zs 1 k) k 2 (l * 12 + i) = if i = eN zs l k then (k : Int) else pt (l * 12 + i) := by
  have h0 := hz.lt (l := 0) hk
  have h1 := hz.lt (l := 1) hk
  simp only [prP]
  rcases (by omega : l = 0 ∨ l = 1) with rfl | rfl
  · by_cases e : i = eN zs 0 k
    · rw [if_neg (by omega), if_pos (by omega), if_pos e]
    · rw [if_neg (by omega), if_neg (by omega), if_neg e]
  · by_cases e : i = eN zs 1 k
    · rw [if_pos (by omega), if_pos e]
    · rw [if_neg (by omega), if_neg (by omega), if_neg e]
/-- A link between free items is joined. -/
theorem Cons.pair {n : Nat} {zs : List Rg} {pt : Nat → Int} (hz : ZOk n zs) (h : Cons n zs pt) {k : Nat} (hk : k < n) (hf : ∀ l, l < 2 → pt (l * 12 + eN zs l k) = -1) : Cons n zs (prP pt (eN zs 0 k) (eN zs 1 k) k 2) := by
  intro l i hl hi
  rw [prP_at hz hk pt hl hi]
  by_cases e : i = eN zs l k
  · rw [if_pos e]
    exact .inr ⟨k, hk, rfl, e.symm, by rw [prP_at hz hk pt (by omega) (hz.lt hk), if_pos rfl]⟩
  · rw [if_neg e]
    rcases h l i hl hi with h1 | ⟨q, h1, h2, h3, h4⟩
    · exact .inl h1
    · refine .inr ⟨q, h1, h2, h3, ?_⟩
      rw [prP_at hz hk pt (by omega) (hz.lt h1)]
      rw [if_neg (fun e2 => by have := hf (1 - l) (by omega); rw [← e2, h4] at this; omega)]
      exact h4
theorem LyI.free {n : Nat} {zs : List Rg} {ks : List Int} {pt : Nat → Int} {op : Nat → Bool} (hz : ZOk n zs) (h : LyI n zs ks pt op) {k : Nat} (hk : k < n) (hne : ∀ j : Nat, j < n → (j : Int) ∈ ks → ∀ l, l < 2 → eN zs l j ≠ eN zs l k) : ∀ l, l < 2 → pt (l * 12 + eN zs l k) = -1 := by
  intro l hl
  rcases h.cons l _ hl (hz.lt hk) with h1 | ⟨q, h1, h2, h3, h4⟩
  · exact h1
  · have hj : pt (0 * 12 + eN zs 0 q) = (q : Int) := by
      rcases (by omega : l = 0 ∨ l = 1) with rfl | rfl
      · rw [h3]; exact h2
      · exact h4
    exact absurd h3 (hne q h1 ((h.joi q h1).1 hj) l hl)
theorem LyI.step {n : Nat} {zs : List Rg} {ks : List Int} {pt : Nat → Int} {op : Nat → Bool} (hz : ZOk n zs) (hnm : NmOk n ks) (h : LyI n zs ks pt op) {k : Nat} (hk : k < n) (hne : ∀ j : Nat, j < n → (j : Int) ∈ ks → ∀ l, l < 2 → eN zs l j ≠ eN zs l k) :
    LyI n zs (ks ++ [(k : Int)]) (prP (knw zs n pt op k 2).1 (eN zs 0 k) (eN zs 1 k) k 2) (knw zs n pt op k 2).2.1 := by
  have hf := h.free hz hk hne
  rw [knw_free (hf 0 (by omega)) (hf 1 (by omega))]
  refine ⟨h.cons.pair hz hk hf, ?_, fun j hj => ?_⟩
  · funext j
    simp only [clsO, h.op, opnL]
    by_cases hj : j < n
    · have e : tkB zs (ks ++ [(k : Int)]) j = (tkB zs ks j || mtB zs j k) := by
        unfold tkB
        rw [List.any_append]
        simp only [List.any_cons, List.any_nil, Bool.or_false, Int.toNat_natCast]
        rw [meB_eq hz hj hk]
      rw [e]
      simp only [hj, decide_true, Bool.true_and, mtB]
      cases tkB zs ks j <;> cases decide (eN zs 0 j = eN zs 0 k) <;> cases decide (eN zs 1 j = eN zs 1 k) <;> rfl
    · simp [hj]
  · rw [prP_at hz hk pt (by omega) (hz.lt hj)]
    by_cases e : eN zs 0 j = eN zs 0 k
    · rw [if_pos e]
      simp only [List.mem_append, List.mem_singleton]
      constructor
      · intro h1; exact .inr (by omega)
      · rintro (h1 | h1)
        · exact absurd e (hne j hj h1 0 (by omega))
        · omega
    · rw [if_neg e, h.joi j hj]
      simp only [List.mem_append, List.mem_singleton]
      constructor
      · exact .inl
      · rintro (h1 | h1)
        · exact h1
        · exact absurd (by have : j = k := by omega
                           rw [this]) e
theorem LyI.opi {n : Nat} {zs : List Rg} {ks : List Int} {pt : Nat → Int} {op : Nat → Bool} (hz : ZOk n zs) (hnm : NmOk n ks) (h : LyI n zs ks pt op) : OpI n zs op pt := by
  intro k hk hop l hl
  refine .inl (h.free hz hk (fun j hj hm l2 hl2 e => ?_) l hl)
  rw [h.op] at hop
  simp only [opnL, hk, decide_true, Bool.true_and, Bool.not_eq_true'] at hop
  have : tkB zs ks k = true := (tkB_iff hz hnm hk).2 ⟨j, hj, hm, by
    unfold mtB
    rcases (by omega : l2 = 0 ∨ l2 = 1) with rfl | rfl <;> simp [e]⟩
  rw [hop] at this; cases this
end Go.Proofs.Ytnodkgejggnehaa

namespace Go.Proofs.Ytnodkgejggnehaa
set_option linter.unusedSimpArgs false
set_option linter.unusedVariables false
/-- The most members of a list of which no two are related. -/
def mmF {α : Type} (r : α → α → Bool) : Nat → List α → Nat
  | 0, _ => 0
  | _ + 1, [] => 0
  | f + 1, k :: L => max (mmF r f L) (1 + mmF r f (L.filter fun j => !r k j))
def mm {α : Type} (r : α → α → Bool) (L : List α) : Nat := mmF r L.length L
/-- No two are related. -/
def Mat {α : Type} (r : α → α → Bool) (N : List α) : Prop := N.Pairwise fun a b => r a b = false
theorem mat_at {α : Type} {r : α → α → Bool} (hs : ∀ a b, r a b = r b a) {N : List α} (hN : Mat r N) {a b : α} (ha : a ∈ N) (hb : b ∈ N) (hne : a ≠ b) : r a b = false := by
  induction N with
  | nil => cases ha
  | cons x N ih =>
    obtain ⟨h1, h2⟩ := List.pairwise_cons.1 hN
    rcases List.mem_cons.1 ha with e | ha2
    · rcases List.mem_cons.1 hb with e2 | hb2
      · exact absurd (e.trans e2.symm) hne
      · rw [e]; exact h1 b hb2
    · rcases List.mem_cons.1 hb with e2 | hb2
      · rw [e2, hs]; exact h1 a ha2
      · exact ih h2 ha2 hb2
theorem mm_ub_ {α : Type} [DecidableEq α] {r : α → α → Bool} (hs : ∀ a b, r a b = r b a) (hr : ∀ a, r a a = true) : ∀ (f : Nat) (L N : List α), L.length ≤ f → Mat r N → (∀ x ∈ N, x ∈ L) → N.length ≤ mmF r f L
  | 0, L, N, hL, hN, hsub => by
    have : L = [] := List.length_eq_zero_iff.1 (by omega)
    subst this
    cases N with
    | nil => simp
    | cons x N => exact absurd (hsub x (by simp)) (by simp)
  | f + 1, [], N, hL, hN, hsub => by
    cases N with
    | nil => simp
    | cons x N => exact absurd (hsub x (by simp)) (by simp)
  | f + 1, k :: L, N, hL, hN, hsub => by
    have hl : L.length ≤ f := by simp at hL; omega
    show N.length ≤ max _ _
    by_cases hk : k ∈ N
    · have h1 := mm_ub_ hs hr f (L.filter fun j => !r k j) (N.erase k) (Nat.le_trans (List.length_filter_le _ _) hl) (hN.sublist List.erase_sublist) (fun x hx => by
        have hnd : N.Nodup := hN.imp (fun {a b} h e => by subst e; rw [hr] at h; cases h)
        have hne : x ≠ k := fun e => by
          subst e
          exact (List.Nodup.not_mem_erase hnd) hx
        have hxN := List.mem_of_mem_erase hx
        have h2 : r k x = false := mat_at hs hN hk hxN (fun e => hne e.symm)
        rw [List.mem_filter]
        refine ⟨?_, by rw [h2]; rfl⟩
        rcases List.mem_cons.1 (hsub x hxN) with e | e
        · exact absurd e hne
        · exact e)
      rw [List.length_erase_of_mem hk] at h1
      omega
    · have h1 := mm_ub_ hs hr f L N hl hN (fun x hx => by
        rcases List.mem_cons.1 (hsub x hx) with e | e
        · subst e; exact absurd hx hk
        · exact e)
      omega
theorem mm_ex_ {α : Type} {r : α → α → Bool} (hs : ∀ a b, r a b = r b a) : ∀ (f : Nat) (L : List α), L.length ≤ f → ∃ N, Mat r N ∧ N.Sublist L ∧ N.length = mmF r f L
  | 0, L, hL => ⟨[], List.Pairwise.nil, List.nil_sublist _, rfl⟩
  | f + 1, [], hL => ⟨[], List.Pairwise.nil, List.nil_sublist _, rfl⟩
  | f + 1, k :: L, hL => by
    have hl : L.length ≤ f := by simp at hL; omega
    obtain ⟨N1, a1, a2, a3⟩ := mm_ex_ hs f L hl
    obtain ⟨N2, b1, b2, b3⟩ := mm_ex_ hs f (L.filter fun j => !r k j) (Nat.le_trans (List.length_filter_le _ _) hl)
    show ∃ N, Mat r N ∧ N.Sublist (k :: L) ∧ N.length = max _ _
    rcases Nat.le_total (1 + mmF r f (L.filter fun j => !r k j)) (mmF r f L) with h | h
    · exact ⟨N1, a1, a2.cons k, by rw [a3]; omega⟩
    · refine ⟨k :: N2, List.pairwise_cons.2 ⟨fun x hx => ?_, b1⟩, (b2.trans List.filter_sublist).cons_cons k, by rw [List.length_cons, b3]; omega⟩
      have := (List.mem_filter.1 (b2.subset hx)).2
      cases e : r k x
      · rfl
      · rw [e] at this; cases this
theorem mm_ub {α : Type} [DecidableEq α] {r : α → α → Bool} (hs : ∀ a b, r a b = r b a) (hr : ∀ a, r a a = true) {L N : List α} (hN : Mat r N) (hsub : ∀ x ∈ N, x ∈ L) : N.length ≤ mm r L := mm_ub_ hs hr _ L N (Nat.le_refl _) hN hsub
theorem mm_ex {α : Type} {r : α → α → Bool} (hs : ∀ a b, r a b = r b a) (L : List α) : ∃ N, Mat r N ∧ N.Sublist L ∧ N.length = mm r L := mm_ex_ hs _ L (Nat.le_refl _)
/-- A number that is reached and not exceeded is this one. -/
theorem mm_eq {α : Type} [DecidableEq α] {r : α → α → Bool} (hs : ∀ a b, r a b = r b a) (hr : ∀ a, r a a = true) {L : List α} {v : Nat} (h1 : ∃ N, Mat r N ∧ (∀ x ∈ N, x ∈ L) ∧ N.length = v) (h2 : ∀ N, Mat r N → (∀ x ∈ N, x ∈ L) → N.length ≤ v) : mm r L = v := by
  obtain ⟨N, a, b, c⟩ := h1
  obtain ⟨N', a', b', c'⟩ := mm_ex hs L
  have e1 := mm_ub hs hr a b
  have e2 := h2 N' a' (fun x hx => b'.subset hx)
  omega
theorem mtB_symm (zs : List Rg) (a b : Nat) : mtB zs a b = mtB zs b a := by
  unfold mtB
  rw [decide_eq_decide.2 (show eN zs 0 a = eN zs 0 b ↔ eN zs 0 b = eN zs 0 a from ⟨Eq.symm, Eq.symm⟩), decide_eq_decide.2 (show eN zs 1 a = eN zs 1 b ↔ eN zs 1 b = eN zs 1 a from ⟨Eq.symm, Eq.symm⟩)]
theorem mtB_refl (zs : List Rg) (a : Nat) : mtB zs a a = true := by simp [mtB]
/-- The open links. -/
def opL (n : Nat) (op : Nat → Bool) : List Nat := (List.range n).filter op
theorem mem_opL {n : Nat} {op : Nat → Bool} {k : Nat} : k ∈ opL n op ↔ k < n ∧ op k = true := by simp [opL]
/-- The open links that are joined. -/
def jL (n : Nat) (zs : List Rg) (op : Nat → Bool) (pt : Nat → Int) : List Nat := (List.range n).filter fun k => op k && (pt (0 * 12 + eN zs 0 k) == (k : Int))
theorem mem_jL {n : Nat} {zs : List Rg} {op : Nat → Bool} {pt : Nat → Int} {k : Nat} : k ∈ jL n zs op pt ↔ k < n ∧ op k = true ∧ pt (0 * 12 + eN zs 0 k) = (k : Int) := by simp [jL]
/-- A link is joined at both ends. -/
theorem Cons.both {n : Nat} {zs : List Rg} {pt : Nat → Int} (hz : ZOk n zs) (h : Cons n zs pt) {k : Nat} (hk : k < n) {l : Nat} (hl : l < 2) (e : pt (l * 12 + eN zs l k) = (k : Int)) : ∀ l2, l2 < 2 → pt (l2 * 12 + eN zs l2 k) = (k : Int) := by
  intro l2 hl2
  rcases h l (eN zs l k) hl (hz.lt hk) with h1 | ⟨q, h1, h2, h3, h4⟩
  · omega
  · obtain rfl : k = q := by omega
    rcases (by omega : l2 = l ∨ l2 = 1 - l) with rfl | rfl
    · exact e
    · exact h4
theorem Cons.not_meet {n : Nat} {zs : List Rg} {pt : Nat → Int} (hz : ZOk n zs) (h : Cons n zs pt) {j k : Nat} (hj : j < n) (hk : k < n) (e1 : pt (0 * 12 + eN zs 0 j) = (j : Int)) (e2 : pt (0 * 12 + eN zs 0 k) = (k : Int)) (hne : j ≠ k) : mtB zs j k = false := by
  have a1 := h.both hz hj (l := 0) (by omega) e1
  have a2 := h.both hz hk (l := 0) (by omega) e2
  unfold mtB
  rw [Bool.or_eq_false_iff, decide_eq_false_iff_not, decide_eq_false_iff_not]
  constructor
  · intro e; have b1 := a1 0 (by omega); have b2 := a2 0 (by omega); rw [e] at b1; omega
  · intro e; have b1 := a1 1 (by omega); have b2 := a2 1 (by omega); rw [e] at b1; omega
theorem jL_mat {n : Nat} {zs : List Rg} {op : Nat → Bool} {pt : Nat → Int} (hz : ZOk n zs) (h : Cons n zs pt) : Mat (mtB zs) (jL n zs op pt) := by
  have hnd : (jL n zs op pt).Nodup := List.Nodup.sublist List.filter_sublist List.nodup_range
  unfold Mat
  refine List.Pairwise.imp_of_mem ?_ hnd
  intro a b ha hb hne
  rw [mem_jL] at ha hb
  exact h.not_meet hz ha.1 hb.1 ha.2.2 hb.2.2 hne
/-- Each open link has an item in the cover. -/
def Cov (n : Nat) (zs : List Rg) (op : Nat → Bool) (c : Nat → Bool) : Prop := ∀ k, k < n → op k = true → c (eN zs 0 k) = true ∨ c (12 + eN zs 1 k) = true
/-- How many items a cover has. -/
def czL (c : Nat → Bool) : List Nat := (List.range 24).filter c
def pick (zs : List Rg) (c : Nat → Bool) (k : Nat) : Nat := if c (eN zs 0 k) = true then eN zs 0 k else 12 + eN zs 1 k
theorem pick_mem {n : Nat} {zs : List Rg} {op : Nat → Bool} {c : Nat → Bool} (hz : ZOk n zs) (h : Cov n zs op c) {k : Nat} (hk : k < n) (ho : op k = true) : pick zs c k ∈ czL c := by
  have h0 := hz.lt (l := 0) hk
  have h1 := hz.lt (l := 1) hk
  unfold pick czL
  rw [List.mem_filter]
  by_cases e : c (eN zs 0 k) = true
  · rw [if_pos e]; exact ⟨List.mem_range.2 (by omega), e⟩
  · rw [if_neg e]; exact ⟨List.mem_range.2 (by omega), (h k hk ho).resolve_left e⟩
theorem pick_ne {n : Nat} {zs : List Rg} (hz : ZOk n zs) {c : Nat → Bool} {j k : Nat} (hj : j < n) (hk : k < n) (h : mtB zs j k = false) : pick zs c j ≠ pick zs c k := by
  have a0 := hz.lt (l := 0) hj
  have b0 := hz.lt (l := 0) hk
  unfold mtB at h
  rw [Bool.or_eq_false_iff, decide_eq_false_iff_not, decide_eq_false_iff_not] at h
  unfold pick
  split <;> split <;> omega
theorem pick_nodup {n : Nat} {zs : List Rg} (hz : ZOk n zs) {c : Nat → Bool} {N : List Nat} (hN : Mat (mtB zs) N) (hn : ∀ x ∈ N, x < n) : (N.map (pick zs c)).Pairwise (· ≠ ·) := by
  rw [List.pairwise_map]
  exact List.Pairwise.imp_of_mem (fun {a b} ha hb h => pick_ne hz (hn a ha) (hn b hb) h) hN
/-- No joining is larger than a cover. -/
theorem mat_le_cov {n : Nat} {zs : List Rg} {op : Nat → Bool} {c : Nat → Bool} (hz : ZOk n zs) (h : Cov n zs op c) {N : List Nat} (hN : Mat (mtB zs) N) (ho : ∀ x ∈ N, x < n ∧ op x = true) : N.length ≤ (czL c).length := by
  have := nodup_le (N.map (pick zs c)) (czL c) (pick_nodup hz hN (fun x hx => (ho x hx).1)) (fun y hy => by
    obtain ⟨x, hx, rfl⟩ := List.mem_map.1 hy
    exact pick_mem hz h (ho x hx).1 (ho x hx).2)
  simpa using this
/-- Partners are greatest: by a cover. -/
def Kon (n : Nat) (zs : List Rg) (op : Nat → Bool) (pt : Nat → Int) : Prop := ∃ c, Cov n zs op c ∧ (czL c).length ≤ (jL n zs op pt).length
theorem Kon.mm {n : Nat} {zs : List Rg} {op : Nat → Bool} {pt : Nat → Int} (hz : ZOk n zs) (hc : Cons n zs pt) (h : Kon n zs op pt) : mm (mtB zs) (opL n op) = (jL n zs op pt).length := by
  obtain ⟨c, h1, h2⟩ := h
  refine mm_eq (mtB_symm zs) (mtB_refl zs) ⟨_, jL_mat hz hc, fun x hx => ?_, rfl⟩ (fun N hN hs => Nat.le_trans (mat_le_cov hz h1 hN (fun x hx => mem_opL.1 (hs x hx))) h2)
  rw [mem_jL] at hx
  exact mem_opL.2 ⟨hx.1, hx.2.1⟩
/-- Of such a cover each item has a partner by an open link, and no joined open link has both its items in it. -/
theorem Kon.sharp {n : Nat} {zs : List Rg} {op : Nat → Bool} {pt : Nat → Int} {c : Nat → Bool} (hz : ZOk n zs) (hc : Cons n zs pt) (h1 : Cov n zs op c) (h2 : (czL c).length ≤ (jL n zs op pt).length) :
    (∀ x, x < 24 → c x = true → ∃ k, k < n ∧ op k = true ∧ pt x = (k : Int)) ∧ ∀ k, k ∈ jL n zs op pt → ¬ (c (eN zs 0 k) = true ∧ c (12 + eN zs 1 k) = true) := by
  -- what is in the cover is picked
  have hit : ∀ x, x < 24 → c x = true → ∃ k ∈ jL n zs op pt, pick zs c k = x := fun x hx hcx => by
    refine Classical.byContradiction fun hno => ?_
    have := nodup_le (x :: (jL n zs op pt).map (pick zs c)) (czL c) (List.pairwise_cons.2 ⟨fun y hy e => by
      subst e
      obtain ⟨k, hk, e⟩ := List.mem_map.1 hy
      exact hno ⟨k, hk, e⟩, pick_nodup hz (jL_mat hz hc) (fun k hk => (mem_jL.1 hk).1)⟩) (fun y hy => by
      rcases List.mem_cons.1 hy with rfl | hy
      · exact List.mem_filter.2 ⟨List.mem_range.2 hx, hcx⟩
      · obtain ⟨k, hk, rfl⟩ := List.mem_map.1 hy
        exact pick_mem hz h1 (mem_jL.1 hk).1 (mem_jL.1 hk).2.1)
    simp only [List.length_cons, List.length_map] at this
    omega
  refine ⟨fun x hx hcx => ?_, fun k hk hb => ?_⟩
  · obtain ⟨k, hk, e⟩ := hit x hx hcx
    obtain ⟨a, b, d⟩ := mem_jL.1 hk
    refine ⟨k, a, b, ?_⟩
    unfold pick at e
    have hb := hc.both hz a (l := 0) (by omega) d
    split at e
    · rw [← e]; have := hb 0 (by omega); rwa [Nat.zero_mul, Nat.zero_add] at this
    · rw [← e]; have := hb 1 (by omega); rwa [Nat.one_mul] at this
  · obtain ⟨a, b, d⟩ := mem_jL.1 hk
    have h9 := hz.lt (l := 1) a
    obtain ⟨q, hq, e⟩ := hit (12 + eN zs 1 k) (by omega) hb.2
    obtain ⟨a2, b2, d2⟩ := mem_jL.1 hq
    have hq0 := hz.lt (l := 0) a2
    unfold pick at e
    split at e
    · omega
    · rename_i hnc
      have e1 : eN zs 1 q = eN zs 1 k := by omega
      have c1 := hc.both hz a (l := 0) (by omega) d 1 (by omega)
      have c2 := hc.both hz a2 (l := 0) (by omega) d2 1 (by omega)
      rw [e1, c1] at c2
      have : q = k := by omega
      subst this
      exact hnc hb.1
end Go.Proofs.Ytnodkgejggnehaa
