/- Stage 2: which steps come just behind a step (rivals61). -/
import Derived.Test.YtfmcfalghbaanaaFst3
namespace Go.Proofs.Ytfmcfalghbaanaa
set_option linter.unusedSimpArgs false
set_option linter.unusedVariables false
open Go.RowKit Go.Shelf
attribute [local go_sem] Oper.semAt_some
attribute [local go_sem ↓] exec_load78
attribute [local go_sem ↓] at_load78
attribute [local go_sem ↓] exec_load73
attribute [local go_sem ↓] at_load73

theorem exec_store73 (ρ : Operand → Value) (d : Option Tmp) (x y : Operand) (ty : TypeId) (pos : String) (af : Array Edge) (g : Option (Nat × Bool)) (W : World) :
    (execOp ρ { dst := d, op := Op.store 73 x y, type := ty, pos := pos, after := af, guard := g }).run Try.prog W = runV Try.prog (st 73) (ρ x) (ρ y) W := rfl
theorem at_store73 (r : Option Nat) (ρ : Operand → Value) (d : Option Tmp) (x y : Operand) (ty : TypeId) (pos : String) (af : Array Edge) (g : Option (Nat × Bool)) (W : World) :
    (Oper.semAt r ρ { dst := d, op := Op.store 73 x y, type := ty, pos := pos, after := af, guard := g }).run Try.prog W = runV Try.prog (st 73) (ρ x) (ρ y) W := by
  rw [at_plain _ _ _ (fun c => by simp)]; exact exec_store73 ρ d x y ty pos af g W
attribute [local go_sem ↓] exec_store73
attribute [local go_sem ↓] at_store73
/-- A row of sixteen bools. -/
def row16 (f : Nat → Bool) : Array Value := ((List.range 16).map fun j => Value.bool (f j)).toArray
theorem row16_size (f : Nat → Bool) : (row16 f).size = 16 := by simp [row16]
theorem row16_at (f : Nat → Bool) (j : Nat) (h : j < 16) : (row16 f)[j]? = some (.bool (f j)) := by simp [row16, h]
theorem row16_one (f : Nat → Bool) : (row16 f).all (·.oneCell') = true := by
  simp [row16, Value.oneCell']
theorem row16_set (f : Nat → Bool) (j : Nat) (h : j < 16) : (row16 f).setIfInBounds j (.bool true) = row16 (fun i => f i || decide (i = j)) := by
  apply Array.ext_getElem?
  intro i
  by_cases hi : i < 16
  · by_cases e : i = j
    · subst e
      rw [Array.getElem?_setIfInBounds_self_of_lt (by rw [row16_size]; exact h), row16_at _ _ h]
      simp
    · rw [Array.getElem?_setIfInBounds_ne (by omega), row16_at _ _ hi, row16_at _ _ hi]
      simp [e]
  · rw [Array.getElem?_eq_none (by simp [row16_size]; omega), Array.getElem?_eq_none (by rw [row16_size]; omega)]
theorem run_ld73b {W : World} {B : Nat} {R : Array Value} {t : TypeId} (h : W.heap[B]? = some (.cells R t (0, 0))) (hs : R.size = 16) : runO Try.prog (ld 73) (.pointer (some ⟨B, 0, none⟩)) W = .ok (.value (.agg R)) W := by
  have h1 : (loadVar 73 ⟨B, 0, none⟩).run Try.prog W = .ok (.agg R) W := run_loadVar_row W B t 73 R (0, 0) _ h Try.underlying73 rfl (by rw [hs]; kernel_rfl)
  unfold runO ld
  simp only [execOp, Act.eval, Instr.loadAt, Instr.sureAddr, Sem.run_bind, Sem.run_pure, Result.andThen_ok, h1]
theorem run_st73 {W : World} {B : Nat} {X Y : Array Value} {t : TypeId} (h : W.heap[B]? = some (.cells Y t (0, 0))) (hY : Y.size = 16) (hX : X.size = 16) (h1 : X.all (·.oneCell') = true) :
    runV Try.prog (st 73) (.pointer (some ⟨B, 0, none⟩)) (.agg X) W = .ok .skip (W.setRow B X) := by
  have h2 : (storeVar 73 ⟨B, 0, none⟩ (.agg X)).run Try.prog W = .ok () (W.setRow B X) := run_storeVar_row W B t 73 Y X h (by rw [hX]; kernel_rfl) (by omega) h1
  unfold runV st
  simp only [execOp, Instr.storeAt, Instr.sureAddr, Sem.run_bind, Sem.run_pure, Result.andThen_ok, h2]
def hitB (T : Nat → Nat → Bool) (cs : List Nat) (n j : Nat) (b : Sta) : Bool := decide (b.last = j) && goesB T cs n b
def hitA (T : Nat → Nat → Bool) (cs : List Nat) (n j : Nat) (a : Sta) : Bool := (nexts T cs a).any (hitB T cs n j)
def RowAt (W : World) (F : Nat) (f : Nat → Bool) : Prop := W.heap[F]? = some (.cells (row16 f) 73 (0, 0))
theorem RowAt.keep {W W' : World} {F : Nat} {f : Nat → Bool} {Mut : Nat → Prop} (h : RowAt W F f) (hK : Keeps Mut W W') (hm : ¬ Mut F) : RowAt W' F f := (hK.block _ (lt_of_block h) hm).trans h
/-- What the outer loop keeps. -/
def OI (T : Nat → Nat → Bool) (cs : List Nat) (n M nn F : Nat) (W5 : World) (pre : List Sta) (W : World) : Prop := RowAt W F (fun j => pre.any (hitA T cs n j)) ∧ Memo W M (nn + pre.length * (16 * 17 ^ 9)) T cs n ∧ Keeps (fun j => j = F ∨ j = M) W5 W
/-- What the inner loop keeps. -/
def NI (T : Nat → Nat → Bool) (cs : List Nat) (n M nn F : Nat) (g : Nat → Bool) (W7 : World) (pre : List Sta) (W : World) : Prop := RowAt W F (fun j => g j || pre.any (hitB T cs n j)) ∧ Memo W M (nn + pre.length * 17 ^ 9) T cs n ∧ Keeps (fun j => j = F ∨ j = M) W7 W
theorem OI.abides {T : Nat → Nat → Bool} {cs : List Nat} {n M nn F : Nat} {W5 : World} {pre : List Sta} {B0 : Nat} (h : W5.heap.size ≤ B0) (hM : M < B0) (hF : F < B0) : Abides B0 (OI T cs n M nn F W5 pre) := fun A B hh hK => ⟨hh.1.keep hK (by omega), hh.2.1.keep hK (by omega), keeps_abides h _ _ hh.2.2 hK⟩
theorem NI.abides {T : Nat → Nat → Bool} {cs : List Nat} {n M nn F : Nat} {g : Nat → Bool} {W5 : World} {pre : List Sta} {B0 : Nat} (h : W5.heap.size ≤ B0) (hM : M < B0) (hF : F < B0) : Abides B0 (NI T cs n M nn F g W5 pre) := fun A B hh hK => ⟨hh.1.keep hK (by omega), hh.2.1.keep hK (by omega), keeps_abides h _ _ hh.2.2 hK⟩
set_option maxRecDepth 100000 in
theorem res61 {tmps : Array Value} {W : World} {F : Nat} {R : Array Value} (h4 : tmps.getD 4 undef = .pointer (some ⟨F, 0, none⟩)) (hF : W.heap[F]? = some (.cells R 73 (0, 0))) (hs : R.size = 16) :
    (results Try.f61 tmps).run Try.prog W = .ok (.agg R) W := by
  have h1 : (loadVar 73 ⟨F, 0, none⟩).run Try.prog W = .ok (.agg R) W := run_loadVar_row W F 73 73 R (0, 0) _ hF Try.underlying73 rfl (by rw [hs]; kernel_rfl)
  have h2 : (results Try.f61 tmps).run Try.prog W = ((asAddr (tmps.getD 4 undef)).run Try.prog W).andThen fun a w₁ => (loadVar 73 a).run Try.prog w₁ := by
    simp only [results, show Try.f61.results = #[.cell 4 73] from rfl]
    simp [Sem.run_bind, Result.andThen]
  rw [h2, h4, show (asAddr (.pointer (some ⟨F, 0, none⟩))).run Try.prog W = .ok ⟨F, 0, none⟩ W from rfl, Result.andThen_ok, h1]
theorem reached60 (X : Array Value) (p : Int) (t : Bool) (w : World) : Calls Try.prog 60 #[.agg X, .agg #[.int .i64 p, .bool t]] w fun e w' => e = .returned (.func (.func 73) #[] #[.pointer (some ⟨w.heap.size + 1, 0, none⟩), .pointer (some ⟨w.heap.size, 0, none⟩)]) ∧ w' = (w.alloc (.cells X 78)).alloc (.cells #[.int .i64 p, .bool t] 28) := by
  go_enter Try.func60, Try.ntmps60
  go_wp2_with fail
  go_ret
  exact ⟨rfl, rfl⟩

set_option maxRecDepth 100000 in
set_option maxHeartbeats 4000000 in
theorem rivals61 (X : Array Value) (A : Option Addr) (n cap : Nat) (off lo hi : Int) (T : Nat → Nat → Bool) (M p x nn : Nat) (t : Bool) (ps : List Pc) (w : World) (hX : Brd X A n cap off lo hi T M) (hp : Pcs w A n ps) (hm : Memo w M nn T (codesL ps) n) (hnn : nn + 80000 * 17 ^ 9 ≤ 1000000000000000000) (hn1 : 1 ≤ n) (hn : n ≤ 8) (hx : x = if t then 2 * p + 1 else 2 * p) (hx16 : x < 16) :
    Calls Try.prog 61 #[.agg X, .agg #[.int .i64 (p : Int), .bool t]] w fun e w' => e = .returned (.agg (row16 fun j => (reachL T (codesL ps) x).any (hitA T (codesL ps) n j))) ∧ Keeps (fun j => j = M) w w' := by
  have hMw := hm.lt
  have hsz := hX.size
  have e0 : ((((w.alloc (.cells X 78)).alloc (.cells #[.int .i64 (p : Int), .bool t] 28)).alloc (.cells #[.bool false, .bool false, .bool false, .bool false, .bool false, .bool false, .bool false, .bool false, .bool false, .bool false, .bool false, .bool false, .bool false, .bool false, .bool false, .bool false] 73)).alloc (.cells #[.bool false, .bool false, .bool false, .bool false, .bool false, .bool false, .bool false, .bool false, .bool false, .bool false, .bool false, .bool false, .bool false, .bool false, .bool false, .bool false] 73)).heap[w.heap.size]? = some (.cells X 78 (0, 0)) := hal_old (hal_old (hal_old (heap_alloc_new_ _ _)))
  have e1 : ((((w.alloc (.cells X 78)).alloc (.cells #[.int .i64 (p : Int), .bool t] 28)).alloc (.cells #[.bool false, .bool false, .bool false, .bool false, .bool false, .bool false, .bool false, .bool false, .bool false, .bool false, .bool false, .bool false, .bool false, .bool false, .bool false, .bool false] 73)).alloc (.cells #[.bool false, .bool false, .bool false, .bool false, .bool false, .bool false, .bool false, .bool false, .bool false, .bool false, .bool false, .bool false, .bool false, .bool false, .bool false, .bool false] 73)).heap[w.heap.size + 1]? = some (.cells #[.int .i64 (p : Int), .bool t] 28 (0, 0)) := hal_old (hal_old (hal_new (by simp)))
  have e2 : RowAt ((((w.alloc (.cells X 78)).alloc (.cells #[.int .i64 (p : Int), .bool t] 28)).alloc (.cells #[.bool false, .bool false, .bool false, .bool false, .bool false, .bool false, .bool false, .bool false, .bool false, .bool false, .bool false, .bool false, .bool false, .bool false, .bool false, .bool false] 73)).alloc (.cells #[.bool false, .bool false, .bool false, .bool false, .bool false, .bool false, .bool false, .bool false, .bool false, .bool false, .bool false, .bool false, .bool false, .bool false, .bool false, .bool false] 73)) (w.heap.size + 1 + 1) (fun _ => false) := show ((((w.alloc (.cells X 78)).alloc (.cells #[.int .i64 (p : Int), .bool t] 28)).alloc (.cells #[.bool false, .bool false, .bool false, .bool false, .bool false, .bool false, .bool false, .bool false, .bool false, .bool false, .bool false, .bool false, .bool false, .bool false, .bool false, .bool false] 73)).alloc (.cells #[.bool false, .bool false, .bool false, .bool false, .bool false, .bool false, .bool false, .bool false, .bool false, .bool false, .bool false, .bool false, .bool false, .bool false, .bool false, .bool false] 73)).heap[w.heap.size + 1 + 1]? = some (.cells #[.bool false, .bool false, .bool false, .bool false, .bool false, .bool false, .bool false, .bool false, .bool false, .bool false, .bool false, .bool false, .bool false, .bool false, .bool false, .bool false] 73 (0, 0)) from hal_old (hal_new (by simp))
  have e3 : RowAt ((((w.alloc (.cells X 78)).alloc (.cells #[.int .i64 (p : Int), .bool t] 28)).alloc (.cells #[.bool false, .bool false, .bool false, .bool false, .bool false, .bool false, .bool false, .bool false, .bool false, .bool false, .bool false, .bool false, .bool false, .bool false, .bool false, .bool false] 73)).alloc (.cells #[.bool false, .bool false, .bool false, .bool false, .bool false, .bool false, .bool false, .bool false, .bool false, .bool false, .bool false, .bool false, .bool false, .bool false, .bool false, .bool false] 73)) (w.heap.size + 1 + 1 + 1) (fun _ => false) := show ((((w.alloc (.cells X 78)).alloc (.cells #[.int .i64 (p : Int), .bool t] 28)).alloc (.cells #[.bool false, .bool false, .bool false, .bool false, .bool false, .bool false, .bool false, .bool false, .bool false, .bool false, .bool false, .bool false, .bool false, .bool false, .bool false, .bool false] 73)).alloc (.cells #[.bool false, .bool false, .bool false, .bool false, .bool false, .bool false, .bool false, .bool false, .bool false, .bool false, .bool false, .bool false, .bool false, .bool false, .bool false, .bool false] 73)).heap[w.heap.size + 1 + 1 + 1]? = some (.cells #[.bool false, .bool false, .bool false, .bool false, .bool false, .bool false, .bool false, .bool false, .bool false, .bool false, .bool false, .bool false, .bool false, .bool false, .bool false, .bool false] 73 (0, 0)) from hal_new (by simp)
  have k4 : Keeps (fun _ => False) w ((((w.alloc (.cells X 78)).alloc (.cells #[.int .i64 (p : Int), .bool t] 28)).alloc (.cells #[.bool false, .bool false, .bool false, .bool false, .bool false, .bool false, .bool false, .bool false, .bool false, .bool false, .bool false, .bool false, .bool false, .bool false, .bool false, .bool false] 73)).alloc (.cells #[.bool false, .bool false, .bool false, .bool false, .bool false, .bool false, .bool false, .bool false, .bool false, .bool false, .bool false, .bool false, .bool false, .bool false, .bool false, .bool false] 73)) := (((keep_alloc _ _ _).trans (keep_alloc _ _ _)).trans (keep_alloc _ _ _)).trans (keep_alloc _ _ _)
  have hs4 := eq_le (show ((((w.alloc (.cells X 78)).alloc (.cells #[.int .i64 (p : Int), .bool t] 28)).alloc (.cells #[.bool false, .bool false, .bool false, .bool false, .bool false, .bool false, .bool false, .bool false, .bool false, .bool false, .bool false, .bool false, .bool false, .bool false, .bool false, .bool false] 73)).alloc (.cells #[.bool false, .bool false, .bool false, .bool false, .bool false, .bool false, .bool false, .bool false, .bool false, .bool false, .bool false, .bool false, .bool false, .bool false, .bool false, .bool false] 73)).heap.size = w.heap.size + 4 by simp)
  have l78 : runO Try.prog (ld 78) (.pointer (some ⟨w.heap.size, 0, none⟩)) ((((w.alloc (.cells X 78)).alloc (.cells #[.int .i64 (p : Int), .bool t] 28)).alloc (.cells #[.bool false, .bool false, .bool false, .bool false, .bool false, .bool false, .bool false, .bool false, .bool false, .bool false, .bool false, .bool false, .bool false, .bool false, .bool false, .bool false] 73)).alloc (.cells #[.bool false, .bool false, .bool false, .bool false, .bool false, .bool false, .bool false, .bool false, .bool false, .bool false, .bool false, .bool false, .bool false, .bool false, .bool false, .bool false] 73)) = .ok (.value (.agg X)) _ := run_ld78 e0 hsz
  have c0 : ((((w.alloc (.cells X 78)).alloc (.cells #[.int .i64 (p : Int), .bool t] 28)).alloc (.cells #[.bool false, .bool false, .bool false, .bool false, .bool false, .bool false, .bool false, .bool false, .bool false, .bool false, .bool false, .bool false, .bool false, .bool false, .bool false, .bool false] 73)).alloc (.cells #[.bool false, .bool false, .bool false, .bool false, .bool false, .bool false, .bool false, .bool false, .bool false, .bool false, .bool false, .bool false, .bool false, .bool false, .bool false, .bool false] 73)).cell? ⟨w.heap.size + 1, 0, none⟩ = some (.int .i64 (p : Int)) := by rw [cell_row e1]; rfl
  have c1 : ((((w.alloc (.cells X 78)).alloc (.cells #[.int .i64 (p : Int), .bool t] 28)).alloc (.cells #[.bool false, .bool false, .bool false, .bool false, .bool false, .bool false, .bool false, .bool false, .bool false, .bool false, .bool false, .bool false, .bool false, .bool false, .bool false, .bool false] 73)).alloc (.cells #[.bool false, .bool false, .bool false, .bool false, .bool false, .bool false, .bool false, .bool false, .bool false, .bool false, .bool false, .bool false, .bool false, .bool false, .bool false, .bool false] 73)).cell? ⟨w.heap.size + 1, 1, none⟩ = some (.bool t) := by rw [cell_row e1]; rfl
  obtain ⟨W4, hW4⟩ : ∃ W4, (((w.alloc (.cells X 78)).alloc (.cells #[.int .i64 (p : Int), .bool t] 28)).alloc (.cells #[.bool false, .bool false, .bool false, .bool false, .bool false, .bool false, .bool false, .bool false, .bool false, .bool false, .bool false, .bool false, .bool false, .bool false, .bool false, .bool false] 73)).alloc (.cells #[.bool false, .bool false, .bool false, .bool false, .bool false, .bool false, .bool false, .bool false, .bool false, .bool false, .bool false, .bool false, .bool false, .bool false, .bool false, .bool false] 73) = W4 := ⟨_, rfl⟩
  rw [hW4] at e0 e1 e2 e3 k4 hs4 l78 c0 c1
  have E0 := Lib.hid e0
  have E1 := Lib.hid e1
  have E2 := Lib.hid e2
  have E3 := Lib.hid e3
  have K4 := Lib.hid k4
  clear e0 e1 e2 e3 k4
  have HX := Lib.hid hX
  have Hp := Lib.hid hp
  have Hm := Lib.hid hm
  have Hnn := Lib.hid hnn
  have Hx := Lib.hid hx
  clear hX hp hm hnn hx
  refine (callsIn_wide (n := 5)).1 ?_
  refine callsIn_of_wp_marks Try.func61 rfl trivial ?_ rfl
  simp only [Try.ntmps61, List.size_toArray, List.length_cons, List.length_nil, Nat.reduceAdd, Nat.reduceSub, Array.replicate_succ, Array.replicate_zero, List.push_toArray, List.append_toArray, List.nil_append, List.cons_append]
  gi_wp2_with fail
  clear l78 c0 c1 hW4
  refine ⟨trivial, (callsIn_wide.2 (reached60 _ _ _ _)).mono ?_⟩
  rintro e w5 ⟨rfl, rfl⟩
  gi_wp2_with fail
  have hk5 : Keeps (fun _ => False) W4 ((W4.alloc (.cells X 78)).alloc (.cells #[.int .i64 (p : Int), .bool t] 28)) := (keep_alloc _ _ _).trans (keep_alloc _ _ _)
  have e8 : ((W4.alloc (.cells X 78)).alloc (.cells #[.int .i64 (p : Int), .bool t] 28)).heap[W4.heap.size]? = some (.cells X 78 (0, 0)) := hal_old (heap_alloc_new_ _ _)
  have e9 : ((W4.alloc (.cells X 78)).alloc (.cells #[.int .i64 (p : Int), .bool t] 28)).heap[W4.heap.size + 1]? = some (.cells #[.int .i64 (p : Int), .bool t] 28 (0, 0)) := hal_new (by simp)
  have hs5 := eq_le (show ((W4.alloc (.cells X 78)).alloc (.cells #[.int .i64 (p : Int), .bool t] 28)).heap.size = W4.heap.size + 2 by simp)
  obtain ⟨W5, hW5⟩ : ∃ W5, (W4.alloc (.cells X 78)).alloc (.cells #[.int .i64 (p : Int), .bool t] 28) = W5 := ⟨_, rfl⟩
  rw [hW5] at hk5 e8 e9 hs5 ⊢
  clear hW5
  have hneed := pcs_lt Hp.out (by omega)
  have hco : Codes n (codesL ps) := by have h := codes_ok ps; rw [Hp.out.1] at h; exact h
  have Hco := Lib.hid hco
  have hrl := reachL_len (T := T) hco hn x
  have hcl : (codesL ps).length ≤ 16 := Nat.le_trans (codes_len_ ps ps.length) (by have := Hp.out.1; omega)
  have hp5 := (Hp.out.keep K4.out (fun _ _ e => e.elim)).keep hk5 (fun _ _ e => e.elim)
  have Hp5 := Lib.hid hp5
  have F0 := Lib.hid ((hk5.block _ (by omega) (fun e => e)).trans E0.out)
  have F2 := Lib.hid (E2.out.keep hk5 (fun e => e))
  have F3 := Lib.hid (E3.out.keep hk5 (fun e => e))
  have HK5 := Lib.hid hk5
  have hMn := fun o => pcs_not_map Hp.out (by omega) Hm.out o
  clear hco hk5
  refine wpIn_rangeL (gf := 73) (lb := #[.pointer (some ⟨W4.heap.size + 1, 0, none⟩), .pointer (some ⟨W4.heap.size, 0, none⟩)]) rfl (enters_of Try.func73 (by kernel_rfl) rfl) (reached_seq X A n cap off lo hi T M W4.heap.size (W4.heap.size + 1) p x t ps W5 e8 HX.out e9 hp5 hn1 hn Hx.out hx16)
    (by rintro k (rfl | rfl | h); omega; omega; have := hneed k h; omega) (fun _ => rfl) (fun j => j = w.heap.size + 1 + 1 + 1 ∨ j = M) (by
      rintro k hk
      refine ⟨by omega, ?_⟩
      rintro (h | h | ⟨o, h⟩)
      · omega
      · omega
      · have h1 := hneed k ⟨o, h⟩
        rcases hk with rfl | rfl
        · omega
        · exact hMn o h)
    (OI T (codesL ps) n M nn (w.heap.size + 1 + 1 + 1) W5) (fun _ _ _ => False) (fun pre => OI.abides (Nat.le_refl _) (by omega) (by omega)) (fun _ _ _ _ h _ => h) ?start ?round ?done ?stop
  case start => exact ⟨F3.out, by simpa using (Hm.out.keep K4.out (fun e => e)).keep HK5.out (fun e => e), Keeps.refl _ _⟩
  case stop => rintro D c pre b post W' _ _ _ h; exact h.elim
  case done =>
    rintro D W7 hD hDW ⟨h1, h2, h3⟩ hKd
    have l73 := run_ld73b h1 (row16_size _)
    have r2 := F2.out.keep h3 (by omega)
    have s73 := run_st73 r2 (row16_size _) (row16_size (fun j => (reachL T (codesL ps) x).any (hitA T (codesL ps) n j))) (row16_one _)
    have H1 := Lib.hid h1
    have R2 := Lib.hid r2
    have H3 := Lib.hid h3
    have HKd := Lib.hid hKd
    clear h1 h2 h3 hKd r2
    gi_wp2_with fail
    have q1 := keeps_setRow W7 (w.heap.size + 1 + 1) (row16 fun j => (reachL T (codesL ps) x).any (hitA T (codesL ps) n j))
    have q2 := setRow_same (row16 fun j => (reachL T (codesL ps) x).any (hitA T (codesL ps) n j)) R2.out
    obtain ⟨V, hV⟩ : ∃ V, W7.setRow (w.heap.size + 1 + 1) (row16 fun j => (reachL T (codesL ps) x).any (hitA T (codesL ps) n j)) = V := ⟨_, rfl⟩
    rw [hV] at q1 q2 ⊢
    have hd := (q1.block D hDW (by omega)).trans HKd.out
    refine ⟨by simp, .inl ⟨_, _, rfl, run_takeDeferred hd, ?_⟩⟩
    have q4 := Keeps.putObj (Mut := fun j => j = D) V D (.deferred none) rfl
    refine ⟨_, res61 rfl ((q4.block _ (lt_of_block q2) (by omega)).trans q2) (row16_size _), rfl, ?_⟩
    have h7 := ((((K4.out.none (Mut := fun j => j = M ∨ w.heap.size ≤ j)).trans HK5.out.none).trans (H3.out.mono (fun j _ e => by omega))).trans (q1.mono (fun j _ e => by omega))).trans (q4.mono (fun j _ e => by omega))
    exact h7.mono (fun j hj e => by omega)
  case round =>
    intro l pre a post W6 hxs hl1 hl2 hr hI m2
    obtain ⟨p2, t2, hE, hbl⟩ := staE_form a
    rw [hE]
    have ham : a ∈ reachL T (codesL ps) x := by rw [hxs]; simp
    obtain ⟨hsm, halt⟩ := reachL_small Hco.out hn ham
    have hpl : pre.length + 1 ≤ 4097 := by
      have h8 := congrArg List.length hxs
      rw [List.length_append, List.length_cons] at h8
      omega
    have Hby := Lib.hid (heap_alloc_new_ W6 (.cells #[.int .i64 (p2 : Int), .bool t2, .int .u64 (a.pcs : Int)] 91))
    have Hbl := Lib.hid hbl
    have Halt := Lib.hid halt
    have ha16 : a.last < 16 := hsm.1
    have ha256 : a.pcs < 256 := hsm.2
    have hs6 := hI.2.2.size
    clear hE hxs ham hsm halt hbl hr hI e8 e9 hp5
    gi_wp2_with fail
    refine ⟨keep_alloc _ _ _, ?_⟩
    intro W7 hB7 hI7
    obtain ⟨h1, h2, h3⟩ := hI7
    have hs7 := hB7.keeps.size
    simp only [World.size_alloc] at hs7
    have hn7 := (hB7.keeps.block _ (by simp) (by omega)).trans Hby.out
    obtain ⟨r0, hr0⟩ := hB7.rcd
    have hX7 := (h3.block _ (by omega) (by omega)).trans F0.out
    have l78 : runO Try.prog (ld 78) (.pointer (some ⟨w.heap.size, 0, none⟩)) W7 = .ok (.value (.agg X)) W7 := run_ld78 hX7 hsz
    have y0 : W7.cell? ⟨W6.heap.size, 0, none⟩ = some (.int .i64 (p2 : Int)) := by rw [cell_row hn7]; rfl
    have y1 : W7.cell? ⟨W6.heap.size, 1, none⟩ = some (.bool t2) := by rw [cell_row hn7]; rfl
    have y2 : W7.cell? ⟨W6.heap.size, 2, none⟩ = some (.int .u64 (a.pcs : Int)) := by rw [cell_row hn7]; rfl
    have H1 := Lib.hid h1
    have H2 := Lib.hid h2
    have H3 := Lib.hid h3
    have HX7 := Lib.hid hX7
    have HR0 := Lib.hid hr0
    have hp7 := Hp5.out.keep h3 (fun j o e h => by
      rcases e with rfl | rfl
      · have := hneed _ ⟨o, h⟩; omega
      · exact hMn o h)
    have Hp7 := Lib.hid hp7
    clear hB7 h1 h2 h3 hn7 hp7 hX7 hr0
    gi_wp2_with fail
    clear l78 y0 y1 y2
    refine ⟨trivial, wide_d, CallsIn.inRound l ((callsIn_wide.2 (behind70 _ _ _)).mono ?_)⟩
    rintro e w8 ⟨rfl, rfl⟩
    gi_wp2_with fail
    have hk8 : Keeps (fun _ => False) W7 ((W7.alloc (.cells X 78)).alloc (.cells #[.int .i64 (p2 : Int), .bool t2, .int .u64 (a.pcs : Int)] 91)) := (keep_alloc _ _ _).trans (keep_alloc _ _ _)
    have e8 : ((W7.alloc (.cells X 78)).alloc (.cells #[.int .i64 (p2 : Int), .bool t2, .int .u64 (a.pcs : Int)] 91)).heap[W7.heap.size]? = some (.cells X 78 (0, 0)) := hal_old (heap_alloc_new_ _ _)
    have e9 : ((W7.alloc (.cells X 78)).alloc (.cells #[.int .i64 (p2 : Int), .bool t2, .int .u64 (a.pcs : Int)] 91)).heap[W7.heap.size + 1]? = some (.cells (staV p2 t2 a.pcs) 91 (0, 0)) := hal_new (by simp)
    have hs8 := eq_le (show ((W7.alloc (.cells X 78)).alloc (.cells #[.int .i64 (p2 : Int), .bool t2, .int .u64 (a.pcs : Int)] 91)).heap.size = W7.heap.size + 2 by simp)
    obtain ⟨W8, hW8⟩ : ∃ W8, (W7.alloc (.cells X 78)).alloc (.cells #[.int .i64 (p2 : Int), .bool t2, .int .u64 (a.pcs : Int)] 91) = W8 := ⟨_, rfl⟩
    rw [hW8] at hk8 e8 e9 hs8 ⊢
    clear hW8
    have hp8 := Hp7.out.keep hk8 (fun _ _ e => e.elim)
    have hr8 := (hk8.block _ (lt_of_block HR0.out) (fun e => e)).trans HR0.out
    have HK8 := Lib.hid hk8
    have HX8 := Lib.hid ((hk8.block _ (lt_of_block HX7.out) (fun e => e)).trans HX7.out)
    have Hp8 := Lib.hid hp8
    have h3s := H3.out.size
    obtain ⟨mm, hmm⟩ : ∃ mm, nn + pre.length * (16 * 17 ^ 9) = mm := ⟨_, rfl⟩
    have hmb : mm + 16 * 17 ^ 9 ≤ 1000000000000000000 := by
      have h1 := Hnn.out
      have h2 : (pre.length + 1) * (16 * 17 ^ 9) ≤ 4097 * (16 * 17 ^ 9) := Nat.mul_le_mul_right _ hpl
      rw [Nat.add_mul] at h2
      omega
    have Hmm := Lib.hid hmm
    have Hmb := Lib.hid hmb
    have Hm8 := Lib.hid (show Memo W8 M mm T (codesL ps) n by rw [← hmm]; exact H2.out.keep hk8 (fun e => e))
    clear hk8 hmm hmb
    refine wpIn_rangeN (hl₀ := hr8) (gf := 77) (lb := #[.pointer (some ⟨W7.heap.size + 1, 0, none⟩), .pointer (some ⟨W7.heap.size, 0, none⟩)]) rfl (enters_of Try.func77 (by kernel_rfl) rfl) (behind_seq X A n cap off lo hi T M W7.heap.size (W7.heap.size + 1) p2 a.pcs a.last t2 ps W8 e8 HX.out e9 hp8 hn1 hn ha256 Hbl.out ha16)
      (by rintro k (rfl | rfl | h); omega; omega; have := hneed k h; omega) (fun _ => rfl) (fun j => j = w.heap.size + 1 + 1 + 1 ∨ j = M) (by
        rintro k hk
        refine ⟨by omega, ?_⟩
        rintro (h | h | ⟨o, h⟩)
        · omega
        · omega
        · have h1 := hneed k ⟨o, h⟩
          rcases hk with rfl | rfl
          · omega
          · exact hMn o h)
      (NI T (codesL ps) n M mm (w.heap.size + 1 + 1 + 1) (fun j => pre.any (hitA T (codesL ps) n j)) W8) (fun _ _ _ => False) (fun pre => NI.abides (Nat.le_refl _) (by omega) (by omega)) (fun _ _ _ _ h _ => h) ?start2 ?round2 ?done2 ?stop2
    case start2 =>
      refine ⟨?_, by simpa using Hm8.out, Keeps.refl _ _⟩
      have h1 := H1.out.keep HK8.out (fun e => e)
      simpa using h1
    case stop2 => rintro c pre2 b post2 W' _ h; exact h.elim
    case done2 =>
      rintro W9 hs9 ⟨h1, h2, h3⟩
      have G1 := Lib.hid h1
      have G2 := Lib.hid h2
      have G3 := Lib.hid h3
      clear h1 h2 h3
      gi_wp2_with fail
      have kk : Keeps (fun j => j = w.heap.size + 1 + 1 + 1 ∨ j = M) W7 W9 := HK8.out.none.trans G3.out
      refine ⟨kk, ?_, ?_, H3.out.trans kk⟩
      · have h1 := G1.out
        have h2 : (fun j => (pre ++ [a]).any (hitA T (codesL ps) n j)) = fun j => pre.any (hitA T (codesL ps) n j) || (nexts T (codesL ps) ⟨a.last, a.pcs⟩).any (hitB T (codesL ps) n j) := by
          funext j
          rw [List.any_append]
          simp [hitA]
        rw [h2]; exact h1
      · refine G2.out.mono ?_
        rw [← Hmm.out, List.length_append, List.length_singleton, Nat.add_mul]
        have h3 := nexts_len (T := T) (a := ⟨a.last, a.pcs⟩) hcl
        have h4 := Nat.mul_le_mul_right (17 ^ 9) h3
        omega
    case round2 =>
      intro l2 pre2 b post2 W9 hbs hl12 hl22 hr2 hI2 m3
      obtain ⟨p3, t3, hE, hbl⟩ := staE_form b
      rw [hE]
      have hbm : b ∈ nexts T (codesL ps) ⟨a.last, a.pcs⟩ := by rw [hbs]; simp
      obtain ⟨hb1, hb2, hb3⟩ := next_last hbm
      have hb16 : b.last < 16 := by have := Hco.out _ hb2; omega
      have hbq : b.pcs < 2 ^ n := by rw [hb1]; exact go_lt Halt.out (Hco.out _ hb2)
      have hpl2 : pre2.length + 1 ≤ 16 := by
        have h1 := congrArg List.length hbs
        have h2 := nexts_len (T := T) (a := ⟨a.last, a.pcs⟩) hcl
        rw [List.length_append, List.length_cons] at h1
        omega
      have Hbl3 := Lib.hid hbl
      have Hbq := Lib.hid hbq
      have Hby2 := Lib.hid (heap_alloc_new_ W9 (.cells #[.int .i64 (p3 : Int), .bool t3, .int .u64 (b.pcs : Int)] 91))
      have hp38 : p3 < 8 := by cases t3 <;> simp at hbl <;> omega
      clear hE hbs hbm hb1 hb2 hb3 hbl hbq hr2 hI2
      gi_wp2_with fail
      refine ⟨keep_alloc _ _ _, ?_⟩
      intro Wa hBa hIa
      obtain ⟨h1, h2, h3⟩ := hIa
      have hsa := hBa.keeps.size
      simp only [World.size_alloc] at hsa
      have hna := (hBa.keeps.block _ (by simp) (by omega)).trans Hby2.out
      have hXa := (h3.block _ (lt_of_block HX8.out) (by omega)).trans HX8.out
      have l78 : runO Try.prog (ld 78) (.pointer (some ⟨w.heap.size, 0, none⟩)) Wa = .ok (.value (.agg X)) Wa := run_ld78 hXa hsz
      have y0 : Wa.cell? ⟨W9.heap.size, 0, none⟩ = some (.int .i64 (p3 : Int)) := by rw [cell_row hna]; rfl
      have y1 : Wa.cell? ⟨W9.heap.size, 1, none⟩ = some (.bool t3) := by rw [cell_row hna]; rfl
      have y2 : Wa.cell? ⟨W9.heap.size, 2, none⟩ = some (.int .u64 (b.pcs : Int)) := by rw [cell_row hna]; rfl
      have G1 := Lib.hid h1
      have G2 := Lib.hid h2
      have G3 := Lib.hid h3
      have HNa := Lib.hid hna
      have hpa := Hp8.out.keep h3 (fun j o e h => by
        rcases e with rfl | rfl
        · have := hneed _ ⟨o, h⟩; omega
        · exact hMn o h)
      have Hpa := Lib.hid hpa
      clear hBa h1 h2 h3 hna hpa hXa
      gi_wp2_with fail
      clear l78 y0 y1 y2
      have hlb8 : left n b ≤ 8 := Nat.le_trans (left_le n b) hn
      have h17 : 17 ^ (left n b + 1) ≤ 17 ^ 9 := Nat.pow_le_pow_right (by omega) (by omega)
      have hbud : mm + pre2.length * 17 ^ 9 + 17 ^ (left n b + 1) ≤ 1000000000000000000 := by
        have h1 := Hmb.out
        have h2 : pre2.length * 17 ^ 9 ≤ 15 * 17 ^ 9 := Nat.mul_le_mul_right _ (by omega)
        omega
      refine ⟨trivial, wide_d, CallsIn.inRound l2 ((callsIn_wide.2 (leads55 X A n cap off lo hi T M ps HX.out hn1 hn (left n b) p3 b.pcs b.last _ t3 _ Hpa.out G2.out hbud Hbq.out hb16 Hbl3.out rfl)).mono ?_)⟩
      rintro e Wb ⟨rfl, hm10, hk10⟩
      have HM10 := Lib.hid (hm10.mono (nn' := mm + (pre2.length + 1) * 17 ^ 9) (bud_step _ _ h17))
      have HK10 := Lib.hid hk10
      have hn10 := (hk10.block _ (lt_of_block HNa.out) (by omega)).trans HNa.out
      have hF10 := G1.out.keep hk10 (by omega)
      have z0 : Wb.cell? ⟨W9.heap.size, 0, none⟩ = some (.int .i64 (p3 : Int)) := by rw [cell_row hn10]; rfl
      have z1 : Wb.cell? ⟨W9.heap.size, 1, none⟩ = some (.bool t3) := by rw [cell_row hn10]; rfl
      have HF10 := Lib.hid hF10
      clear hm10 hk10 hn10 hF10 hbud h17
      have hany : ∀ j, (pre2 ++ [b]).any (hitB T (codesL ps) n j) = (pre2.any (hitB T (codesL ps) n j) || hitB T (codesL ps) n j b) := fun j => by rw [List.any_append]; simp
      rw [show decide (0 < cntA T (codesL ps) n { last := b.last, pcs := b.pcs }) = goesB T (codesL ps) n b from rfl]
      cases hg : goesB T (codesL ps) n b with
      | false =>
        have Hg := Lib.hid hg
        clear hg
        gi_wp2_with fail
        refine ⟨HK10.out.mono (fun _ _ e => .inr e), ?_, by rw [List.length_append, List.length_singleton]; exact HM10.out, G3.out.trans (HK10.out.mono (fun _ _ e => .inr e))⟩
        have h2 : (fun j => pre.any (hitA T (codesL ps) n j) || (pre2 ++ [b]).any (hitB T (codesL ps) n j)) = fun j => pre.any (hitA T (codesL ps) n j) || pre2.any (hitB T (codesL ps) n j) := by
          funext j
          rw [hany]
          unfold hitB
          rw [Hg.out]; simp
        rw [h2]; exact HF10.out
      | true =>
        have Hg := Lib.hid hg
        have kC := keep_alloc (fun _ => False) Wb (.cells #[.int .i64 (p3 : Int), .bool t3] 28)
        obtain ⟨Wc, hWc⟩ : ∃ Wc, Wb.alloc (.cells #[.int .i64 (p3 : Int), .bool t3] 28) = Wc := ⟨_, rfl⟩
        have hbc := code_any Hbl3.out (show p3 ≤ 1000 by omega) Wb
        rw [hWc] at kC hbc
        clear hg hWc
        gi_wp2_with fail
        refine ⟨trivial, wide_d, CallsIn.inRound l2 ((callsIn_wide.2 hbc).mono ?_)⟩
        rintro e Wd ⟨rfl, rfl⟩
        have hFc := HF10.out.keep kC (fun e => e)
        have il0 : (0 : Int) ≤ (b.last : Int) := by omega
        have il1 : (b.last : Int) < 16 := by omega
        have cF : Wd.cell? ⟨w.heap.size + 1 + 1 + 1, b.last, none⟩ = some (.bool (pre.any (hitA T (codesL ps) n b.last) || pre2.any (hitB T (codesL ps) n b.last))) := by rw [cell_row hFc]; exact row16_at _ _ hb16
        have fF : Wd.frozen? ⟨w.heap.size + 1 + 1 + 1, b.last, none⟩ = false := frozen_row hFc
        have HFc := Lib.hid hFc
        have KC := Lib.hid kC
        clear hFc kC hbc z0 z1
        gi_wp2_with fail
        have hset := keeps_setCell Wd (w.heap.size + 1 + 1 + 1) b.last (.bool true)
        have kk : Keeps (fun j => j = w.heap.size + 1 + 1 + 1 ∨ j = M) Wa (Wd.setCell ⟨w.heap.size + 1 + 1 + 1, b.last, none⟩ (.bool true)) := ((HK10.out.mono (fun _ _ e => .inr e)).trans KC.out.none).trans (hset.mono (fun _ _ e => .inl e))
        refine ⟨kk, ?_, by rw [List.length_append, List.length_singleton]; exact (HM10.out.keep KC.out (fun e => e)).keep hset (by omega), G3.out.trans kk⟩
        have h2 : (fun j => pre.any (hitA T (codesL ps) n j) || (pre2 ++ [b]).any (hitB T (codesL ps) n j)) = fun j => (pre.any (hitA T (codesL ps) n j) || pre2.any (hitB T (codesL ps) n j)) || decide (j = b.last) := by
          funext j
          rw [hany]
          unfold hitB
          rw [Hg.out, Bool.and_true, Bool.or_assoc, show decide (b.last = j) = decide (j = b.last) by simp [eq_comm]]
        rw [h2]
        unfold RowAt
        rw [← row16_set _ _ hb16]
        exact set_same b.last (.bool true) HFc.out
end Go.Proofs.Ytfmcfalghbaanaa
