/- Stage 2: sets of pairs in a map, and ranging over them. -/
import Derived.Test.YtfmcfalghbaanaaCnt
import Derived.Maps.RangeWalk
namespace Go.Proofs.Ytfmcfalghbaanaa
set_option linter.unusedSimpArgs false
set_option linter.unusedVariables false
open Go.RowKit Go.Shelf Go.WideMaps Go.MapKept
open Go.Maps (Keyed)

theorem key57 : Keyed Try.prog 57 := Keyed.of_law (deep_law_laid Try.laid_ (m := 3) (by omega) (of_decide_eq_true (by kernel_rfl)) (by kernel_rfl) (by kernel_rfl))
/-- A pair's value. -/
def prV (p : Nat) (t : Bool) (q : Nat) (u : Bool) : Array Value := #[.int .i64 (p : Int), .bool t, .int .i64 (q : Int), .bool u]
def klQ (P : Program) (p : Nat) (t : Bool) (q : Nat) (u : Bool) : Lit := (keyOf P 57 (.agg (prV p t q u))).getD (.bool false)
theorem keyQ_some_ : ∀ p : Fin 8, ∀ t : Bool, ∀ q : Fin 8, ∀ u : Bool, (keyOf Try.prog 57 (.agg (prV p t q u))).isSome = true := by decide +kernel
theorem keyQ_some {p q : Nat} (hp : p < 8) (hq : q < 8) (t u : Bool) : keyOf Try.prog 57 (.agg (prV p t q u)) = some (klQ Try.prog p t q u) := by
  have h := keyQ_some_ ⟨p, hp⟩ t ⟨q, hq⟩ u
  unfold klQ
  obtain ⟨l, hl⟩ := Option.isSome_iff_exists.1 h
  simp only at hl
  rw [hl]; rfl
/-- The key of a pair, by its codes. -/
def klP (P : Program) (x y : Nat) : Lit := klQ P (x / 2) (decide (x % 2 = 1)) (y / 2) (decide (y % 2 = 1))
theorem klP_form {p q x y : Nat} {t u : Bool} (hx : x = if t then 2 * p + 1 else 2 * p) (hy : y = if u then 2 * q + 1 else 2 * q) : klP Try.prog x y = klQ Try.prog p t q u := by
  have key : ∀ {p x : Nat} {t : Bool}, (x = if t then 2 * p + 1 else 2 * p) → x / 2 = p ∧ decide (x % 2 = 1) = t := by
    intro p x t h
    subst h
    cases t
    · rw [if_neg (by simp)]; exact ⟨by omega, decide_eq_false (by omega)⟩
    · rw [if_pos rfl]; exact ⟨by omega, decide_eq_true (by omega)⟩
  obtain ⟨h1, h2⟩ := key hx
  obtain ⟨h3, h4⟩ := key hy
  unfold klP
  rw [h1, h2, h3, h4]
theorem klP_key {x y : Nat} (hx : x < 16) (hy : y < 16) : keyOf Try.prog 57 (.agg (prV (x / 2) (decide (x % 2 = 1)) (y / 2) (decide (y % 2 = 1)))) = some (klP Try.prog x y) := keyQ_some (by omega) (by omega) _ _
set_option maxRecDepth 100000 in
theorem klP_lit {x y : Nat} (hx : x < 16) (hy : y < 16) : WideAt.IsKeyLit (klP Try.prog x y) := by
  have h := klP_key hx hy
  obtain ⟨kl, hkl⟩ : ∃ kl, klP Try.prog x y = kl := ⟨_, rfl⟩
  obtain ⟨v, hv⟩ : ∃ v, Value.agg (prV (x / 2) (decide (x % 2 = 1)) (y / 2) (decide (y % 2 = 1))) = v := ⟨_, rfl⟩
  rw [hkl, hv] at h
  rw [hkl]
  exact key57.key h
theorem klP_inj {x y x' y' : Nat} (hx : x < 16) (hy : y < 16) (hx' : x' < 16) (hy' : y' < 16) (h : klP Try.prog x y = klP Try.prog x' y') : x = x' ∧ y = y' := by
  have h1 := klP_key hx hy
  have h2 := klP_key hx' hy'
  rw [← h] at h2
  have h3 := key57.inj h1 h2
  unfold prV at h3
  injection h3 with h3
  simp only [Array.mk.injEq, List.cons.injEq, Value.int.injEq, Value.bool.injEq, and_true, true_and, decide_eq_decide] at h3
  obtain ⟨a, b, c, d⟩ := h3
  constructor <;> omega
/-- What a map of pairs holds. -/
def PD (D : DataW Unit) (b : Nat → Nat → Bool) : Prop :=
  (∀ x y, x < 16 → y < 16 → Maps.has D (klP Try.prog x y) = b x y ∧ D.atKey (klP Try.prog x y) (.lit (.bool false)) = .lit (.bool (b x y))) ∧ ∀ kl, Maps.has D kl = true → ∃ x y, x < 16 ∧ y < 16 ∧ kl = klP Try.prog x y
theorem PD.new : PD (.map []) (fun _ _ => false) := ⟨fun x y _ _ => ⟨by simp [Maps.has], by simp [DataW.atKey]⟩, fun kl h => by simp [Maps.has] at h⟩
set_option maxRecDepth 100000 in
theorem PD.put {D : DataW Unit} {b : Nat → Nat → Bool} (hD : Maps.IsMap D) (h : PD D b) {x y : Nat} (hx : x < 16) (hy : y < 16) : PD (D.put (klP Try.prog x y) (.lit (.bool true))) (fun i j => b i j || (decide (i = x) && decide (j = y))) := by
  have hk := klP_lit hx hy
  refine ⟨fun i j hi hj => ?_, fun kl hkl => ?_⟩
  · by_cases e : i = x ∧ j = y
    · obtain ⟨rfl, rfl⟩ := e
      rw [Maps.has_put_same hD hk, Maps.atKey_put_same hD hk]
      simp
    · have hne : klP Try.prog i j ≠ klP Try.prog x y := fun h => e (klP_inj hi hj hx hy h)
      rw [Maps.has_put_other hne, Maps.atKey_put_other hne]
      have h2 : (decide (i = x) && decide (j = y)) = false := by
        rw [Bool.and_eq_false_iff, decide_eq_false_iff_not, decide_eq_false_iff_not]
        by_cases h3 : i = x
        · exact .inr (fun h4 => e ⟨h3, h4⟩)
        · exact .inl h3
      simp only [h2, Bool.or_false]
      exact h.1 i j hi hj
  · by_cases e : kl = klP Try.prog x y
    · exact ⟨x, y, hx, hy, e⟩
    · rw [Maps.has_put_other e] at hkl
      exact h.2 kl hkl
set_option maxRecDepth 100000 in
theorem PD.del {D : DataW Unit} {b : Nat → Nat → Bool} (h : PD D b) {x y : Nat} (hx : x < 16) (hy : y < 16) : PD (D.del (klP Try.prog x y)) (fun i j => b i j && !(decide (i = x) && decide (j = y))) := by
  refine ⟨fun i j hi hj => ?_, fun kl hkl => ?_⟩
  · by_cases e : i = x ∧ j = y
    · obtain ⟨rfl, rfl⟩ := e
      rw [Maps.has_del_same, Maps.atKey_del_same]
      simp
    · have hne : klP Try.prog i j ≠ klP Try.prog x y := fun h => e (klP_inj hi hj hx hy h)
      rw [Maps.has_del_other hne, Maps.atKey_del_other hne]
      have h2 : (decide (i = x) && decide (j = y)) = false := by
        rw [Bool.and_eq_false_iff, decide_eq_false_iff_not, decide_eq_false_iff_not]
        by_cases h3 : i = x
        · exact .inr (fun h4 => e ⟨h3, h4⟩)
        · exact .inl h3
      simp only [h2, Bool.not_false, Bool.and_true]
      exact h.1 i j hi hj
  · by_cases e : kl = klP Try.prog x y
    · exact ⟨x, y, hx, hy, e⟩
    · rw [Maps.has_del_other e] at hkl
      exact h.2 kl hkl
theorem PD.congr {D : DataW Unit} {b c : Nat → Nat → Bool} (h : PD D b) (e : ∀ i j, i < 16 → j < 16 → b i j = c i j) : PD D c :=
  ⟨fun i j hi hj => by rw [← e i j hi hj]; exact h.1 i j hi hj, h.2⟩
/-- A map of pairs. -/
def PSet (W : World) (M nn : Nat) (b : Nat → Nat → Bool) : Prop := ∃ D : DataW Unit, W.ownsMap Try.prog 57 (plainElem Try.prog 4) M nn D ∧ PD D b
theorem PSet.new {W : World} {M : Nat} (h : W.heap[M]? = some (.map #[] 0)) : PSet W M 0 (fun _ _ => false) :=
  ⟨.map [], ⟨#[], 0, h, ⟨by simp, stamped_empty 0, by simp⟩, Nat.le_refl _, rfl⟩, PD.new⟩
theorem PSet.mono {W : World} {M nn nn' : Nat} {b : Nat → Nat → Bool} (h : PSet W M nn b) (hn : nn ≤ nn') : PSet W M nn' b := by
  obtain ⟨D, h1, h2⟩ := h
  exact ⟨D, h1.mono hn, h2⟩
theorem PSet.congr {W : World} {M nn : Nat} {b c : Nat → Nat → Bool} (h : PSet W M nn b) (e : ∀ i j, i < 16 → j < 16 → b i j = c i j) : PSet W M nn c := by
  obtain ⟨D, h1, h2⟩ := h
  exact ⟨D, h1, h2.congr e⟩
theorem PSet.keep {W W' : World} {M nn : Nat} {b : Nat → Nat → Bool} {Mut : Nat → Prop} (h : PSet W M nn b) (hK : Keeps Mut W W') (hm : ¬ Mut M) : PSet W' M nn b := by
  obtain ⟨D, h1, h2⟩ := h
  have hlt := h1.lt
  obtain ⟨es, clock, hb, F, hs, hD⟩ := h1
  exact ⟨D, ⟨es, clock, (hK.block M hlt hm).trans hb, F, hs, hD⟩, h2⟩
theorem PSet.lt {W : World} {M nn : Nat} {b : Nat → Nat → Bool} (h : PSet W M nn b) : M < W.heap.size := by
  obtain ⟨D, h1, _⟩ := h
  exact h1.lt
theorem PSet.isMap {W : World} {M nn : Nat} {b : Nat → Nat → Bool} (h : PSet W M nn b) : ∃ es clock, W.heap[M]? = some (.map es clock) := by
  obtain ⟨D, ⟨es, clock, hb, _⟩, _⟩ := h
  exact ⟨es, clock, hb⟩
set_option maxRecDepth 100000 in
/-- One pair more. -/
theorem PSet.update {W : World} {M nn : Nat} {b : Nat → Nat → Bool} (h : PSet W M nn b) (hn : nn < 1000) {p q x y : Nat} {t u : Bool} (hx : x = if t then 2 * p + 1 else 2 * p) (hy : y = if u then 2 * q + 1 else 2 * q) (hx16 : x < 16) (hy16 : y < 16) :
    ∃ W', (Instr.mapUpdate 97 (.map (some M)) (.agg #[.int .i64 (p : Int), .bool t, .int .i64 (q : Int), .bool u]) (.bool true)).run Try.prog W = .ok () W' ∧ PSet W' M (nn + 1) (fun i j => b i j || (decide (i = x) && decide (j = y))) ∧ Keeps (fun j => j = M) W W' := by
  obtain ⟨D, hown, hD⟩ := h
  obtain ⟨W', h1, h2, h3⟩ := hown.update key57 Try.underlying97 (by unfold maxLen; omega) (keyQ_some (p := p) (q := q) (by cases t <;> simp at hx <;> omega) (by cases u <;> simp at hy <;> omega) t u) (plainElem_bool Try.underlying4 true)
  refine ⟨W', h1, ⟨_, h2, ?_⟩, Keeps.of_grown h3 (fun r e => by cases e; rfl)⟩
  have h4 := hD.put hown.isMap hx16 hy16
  rw [klP_form hx hy] at h4
  exact h4
set_option maxRecDepth 100000 in
theorem plainElem_bool_inv {v : Value} {z : DataW Unit × List MemPlace} (h : plainElem (H := Unit) Try.prog 4 v = some z) : ∃ x, v = .bool x ∧ z.1 = .lit (.bool x) := by
  unfold plainElem at h
  rw [Try.underlying4] at h
  cases v <;> simp at h
  rename_i x
  exact ⟨x, rfl, by rw [← h]⟩
set_option maxRecDepth 100000 in
/-- Is a pair there? -/
theorem PSet.look {W : World} {M nn : Nat} {b : Nat → Nat → Bool} (h : PSet W M nn b) {p q x y : Nat} {t u : Bool} (hx : x = if t then 2 * p + 1 else 2 * p) (hy : y = if u then 2 * q + 1 else 2 * q) (hx16 : x < 16) (hy16 : y < 16) :
    (Instr.lookup 97 (.map (some M)) (.agg #[.int .i64 (p : Int), .bool t, .int .i64 (q : Int), .bool u]) false).run Try.prog W = .ok (.bool (b x y)) W := by
  obtain ⟨D, hown, hD⟩ := h
  have hk := keyQ_some (p := p) (q := q) (by cases t <;> simp at hx <;> omega) (by cases u <;> simp at hy <;> omega) t u
  obtain ⟨v, vp, h1, h2⟩ := hown.lookup key57 Try.underlying97 (Try.zeroValue4 _) (plainElem_bool Try.underlying4 false) hk
  obtain ⟨c, rfl, hc⟩ := plainElem_bool_inv h2
  unfold prV at h1
  rw [h1]
  have h3 := (hD.1 x y hx16 hy16).2
  rw [klP_form hx hy] at h3
  simp only at hc
  rw [h3] at hc
  simp at hc
  rw [hc]
end Go.Proofs.Ytfmcfalghbaanaa
