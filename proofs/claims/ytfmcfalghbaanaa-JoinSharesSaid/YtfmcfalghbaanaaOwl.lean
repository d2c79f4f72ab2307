/- Stage 2: lists of lists of steps of the call's own; the document's steps. -/
import Derived.Test.YtfmcfalghbaanaaWid
import Derived.Test.YtfmcfalghbaanaaCpy
namespace Go.Proofs.Ytfmcfalghbaanaa
set_option linter.unusedSimpArgs false
set_option linter.unusedVariables false

/-- Can a step come behind a list of steps? -/
def goodL (T : Nat → Nat → Bool) (l : List Nat) (s : Nat) : Bool := (decide (l = []) || T (l.getLastD 0) s) && l.all fun m => decide (m / 2 ≠ s / 2)
/-- The lists of so many steps. -/
def prefs (T : Nat → Nat → Bool) (cs : List Nat) : Nat → List (List Nat)
  | 0 => [[]]
  | d + 1 => (prefs T cs d).flatMap fun l => (cs.filter (goodL T l)).map fun s => l ++ [s]
theorem run_bit (l : List Nat) (a : Sta) (i : Nat) : (runS a l).pcs.testBit i = (a.pcs.testBit i || l.any fun m => decide (m / 2 = i)) := by
  induction l generalizing a with
  | nil => simp [runS]
  | cons s l ih =>
    have := ih (goS a s)
    show (runS (goS a s) l).pcs.testBit i = _
    rw [this, go_bit, List.any_cons, Bool.or_assoc]
theorem run_last (l : List Nat) (a : Sta) : (runS a l).last = l.getLastD a.last := by
  induction l generalizing a with
  | nil => rfl
  | cons s l ih =>
    show (runS (goS a s) l).last = _
    rw [ih]
    cases l <;> rfl
theorem run_ne (l : List Nat) : decide ((runS ⟨0, 0⟩ l).pcs = 0) = decide (l = []) := by
  cases l with
  | nil => simp [runS]
  | cons s l =>
    rw [decide_eq_false, decide_eq_false (by simp)]
    intro h
    have h1 := run_bit (s :: l) ⟨0, 0⟩ (s / 2)
    rw [h] at h1
    simp at h1
theorem can_good (T : Nat → Nat → Bool) (l : List Nat) (s : Nat) : can T (runS ⟨0, 0⟩ l) s = goodL T l s := by
  unfold can goodL
  rw [run_bit, run_ne, run_last, Bool.and_comm]
  congr 1
  show (!(Nat.testBit 0 (s / 2) || l.any fun m => decide (m / 2 = s / 2))) = _
  rw [Nat.zero_testBit, Bool.false_or, List.not_any_eq_all_not]
  congr 1
  funext m
  by_cases h : m / 2 = s / 2 <;> simp [h]
theorem prefs_ways (T : Nat → Nat → Bool) (cs : List Nat) (k : Nat) : ∀ d, prefs T cs (d + k) = (prefs T cs d).flatMap fun l => (ways T cs k (runS ⟨0, 0⟩ l)).map (l ++ ·) := by
  induction k with
  | zero =>
    intro d
    simp [ways]
  | succ k ih =>
    intro d
    rw [show d + (k + 1) = d + 1 + k by omega, ih (d + 1)]
    show ((prefs T cs d).flatMap fun l => (cs.filter (goodL T l)).map fun s => l ++ [s]).flatMap _ = _
    rw [List.flatMap_assoc]
    congr 1
    funext l
    rw [List.flatMap_map]
    show _ = List.map (l ++ ·) ((cs.filter (can T (runS ⟨0, 0⟩ l))).flatMap fun s => (ways T cs k (goS (runS ⟨0, 0⟩ l) s)).map (s :: ·))
    rw [List.map_flatMap, show can T (runS ⟨0, 0⟩ l) = goodL T l from funext fun s => can_good T l s]
    congr 1
    funext s
    have h1 : runS ⟨0, 0⟩ (l ++ [s]) = goS (runS ⟨0, 0⟩ l) s := by simp [runS]
    rw [h1, List.map_map]
    congr 1
    funext x
    simp
theorem prefs_joins (T : Nat → Nat → Bool) (cs : List Nat) (n : Nat) : prefs T cs n = joins T cs n := by
  have := prefs_ways T cs n 0
  rw [Nat.zero_add] at this
  rw [this]
  simp [prefs, runS, joins]
theorem prefs_nil {T : Nat → Nat → Bool} {cs : List Nat} {d : Nat} (h : prefs T cs d = []) (k : Nat) : prefs T cs (d + k) = [] := by
  induction k with
  | zero => exact h
  | succ k ih =>
    show (prefs T cs (d + k)).flatMap _ = []
    rw [ih]
    rfl
theorem prefs_len {T : Nat → Nat → Bool} {cs : List Nat} {d : Nat} {l : List Nat} (h : l ∈ prefs T cs d) : l.length = d ∧ ∀ s ∈ l, s ∈ cs := by
  induction d generalizing l with
  | zero =>
    simp only [prefs, List.mem_singleton] at h
    subst h
    simp
  | succ d ih =>
    obtain ⟨m, hm, hx⟩ := List.mem_flatMap.1 h
    obtain ⟨s, hs, rfl⟩ := List.mem_map.1 hx
    obtain ⟨h1, h2⟩ := ih hm
    refine ⟨by simp [h1], fun t ht => ?_⟩
    rcases List.mem_append.1 ht with h3 | h3
    · exact h2 t h3
    · rw [List.mem_singleton] at h3
      rw [h3]
      exact (List.mem_filter.1 hs).1
theorem flat_le {α β : Type} (f : α → List β) (m : Nat) (l : List α) (h : ∀ x ∈ l, (f x).length ≤ m) : (l.flatMap f).length ≤ l.length * m := by
  induction l with
  | nil => simp
  | cons a l ih =>
    rw [List.flatMap_cons, List.length_append, List.length_cons, Nat.add_mul, Nat.one_mul]
    have h1 := h a (by simp)
    have h2 := ih (fun x hx => h x (List.mem_cons_of_mem _ hx))
    omega
theorem prefs_le {T : Nat → Nat → Bool} {cs : List Nat} {m : Nat} (h : cs.length ≤ m) (d : Nat) : (prefs T cs d).length ≤ m ^ d := by
  induction d with
  | zero => simp [prefs]
  | succ d ih =>
    have := flat_le (fun l => (cs.filter (goodL T l)).map fun s => l ++ [s]) m (prefs T cs d) (fun l _ => by
      rw [List.length_map]
      exact Nat.le_trans (List.length_filter_le _ _) h)
    show ((prefs T cs d).flatMap _).length ≤ _
    rw [Nat.pow_succ]
    exact Nat.le_trans this (Nat.mul_le_mul_right m ih)
end Go.Proofs.Ytfmcfalghbaanaa

namespace Go.Proofs.Ytfmcfalghbaanaa
set_option linter.unusedSimpArgs false
set_option linter.unusedVariables false
open Go.RowKit Go.Shelf

section
/-- A list of steps of the call's own. -/
def Own1 (W : World) (x : Value) (l : List Nat) : Prop := ∃ g cap, x = .slice (some ⟨g, 0, none⟩) l.length cap ∧ l.length ≤ cap ∧ W.ownsRow 0 28 2 x l.length (flatS l)
/-- A list of such lists, of the call's own. -/
def OwnL (W : World) (v : Value) (ls : List (List Nat)) : Prop := ∃ xs : List Value, W.ownsRow 0 29 1 v ls.length xs ∧ ∀ j (h : j < ls.length), ∃ x, xs[j]? = some x ∧ Own1 W x ls[j]
theorem own_type {W : World} {e : TypeId} {size n : Nat} {v : Value} {xs : List Value} (h : W.ownsRow 0 e size v n xs) {k : Nat} (hk : v.ownBlock = some k) : ∃ cur, W.heap[k]? = some (.cells cur e (0, 0)) := by
  rcases h.2 with ⟨rfl, _⟩ | ⟨g, cap, cur, rfl, hb, hg, rest⟩
  · cases hk
  · have : g = k := Option.some.inj hk
    subst this
    exact ⟨cur, hg⟩
theorem Own1.keep {W W' : World} {Mut : Nat → Prop} {x : Value} {l : List Nat} (h : Own1 W x l) (hK : Keeps Mut W W') (hm : ∀ k, x.ownBlock = some k → ¬ Mut k) : Own1 W' x l := by
  obtain ⟨g, cap, e, hc, ho⟩ := h
  exact ⟨g, cap, e, hc, own_keep ho hK hm⟩
theorem Own1.below {W W' : World} {x : Value} {l : List Nat} (h : Own1 W x l) (hb : Below W.heap.size W W') : Own1 W' x l := h.keep (Keeps.of_new (Mut := fun _ => False) hb) (fun _ _ e => e)
theorem Own1.lt {W : World} {x : Value} {l : List Nat} (h : Own1 W x l) : ∀ k, x.ownBlock = some k → k < W.heap.size := by
  obtain ⟨g, cap, e, hc, ho⟩ := h
  exact own_lt ho
theorem Own1.ne {W : World} {x v : Value} {l : List Nat} {n : Nat} {xs : List Value} (h : Own1 W x l) (hv : W.ownsRow 0 29 1 v n xs) {k : Nat} (hx : x.ownBlock = some k) : ¬ v.ownBlock = some k := by
  intro hk
  obtain ⟨g, cap, e, hc, ho⟩ := h
  obtain ⟨c1, h1⟩ := own_type ho hx
  obtain ⟨c2, h2⟩ := own_type hv hk
  rw [h1] at h2
  cases h2
theorem Own1.sts {W : World} {x : Value} {l : List Nat} (h : Own1 W x l) : ∃ g cap, x = .slice (some ⟨g, 0, none⟩) l.length cap ∧ l.length ≤ cap ∧ Sts W (some ⟨g, 0, none⟩) l.length (l.map stC) := by
  obtain ⟨g, cap, e, hc, ho⟩ := h
  obtain ⟨C, cp, e2, hc2, hS⟩ := sts_own ho
  rw [e] at e2
  injection e2 with e3 e4 e5
  subst e3
  exact ⟨g, cap, e, hc, hS⟩
theorem OwnL.keep {W W' : World} {Mut : Nat → Prop} {v : Value} {ls : List (List Nat)} (h : OwnL W v ls) (hK : Keeps Mut W W') (hm : ∀ k, v.ownBlock = some k → ¬ Mut k) (hi : ∀ x l, Own1 W x l → ∀ k, x.ownBlock = some k → ¬ Mut k) : OwnL W' v ls := by
  obtain ⟨xs, h1, h2⟩ := h
  refine ⟨xs, own_keep h1 hK hm, fun j hj => ?_⟩
  obtain ⟨x, hx, ho⟩ := h2 j hj
  exact ⟨x, hx, ho.keep hK (hi x _ ho)⟩
theorem OwnL.below {W W' : World} {v : Value} {ls : List (List Nat)} (h : OwnL W v ls) (hb : Below W.heap.size W W') : OwnL W' v ls :=
  h.keep (Keeps.of_new (Mut := fun _ => False) hb) (fun _ _ e => e) (fun _ _ _ _ _ e => e)
theorem OwnL.nil (W : World) : OwnL W (.slice none 0 0) [] := ⟨[], own_nil W _ _, fun j h => by simp at h⟩
theorem info29_ : (Try.prog.info? 29).map (fun i => (i.zero, i.size, i.bytes)) = some (some (.slice none 0 0), 1, 24) := by kernel_rfl
/-- What a list of lists reads. -/
theorem OwnL.read {W : World} {v : Value} {ls : List (List Nat)} (h : OwnL W v ls) : ∃ C cap, v = .slice C ls.length cap ∧ ls.length ≤ cap ∧ (0 < ls.length → ∃ g, C = some ⟨g, 0, none⟩) ∧ ∀ j (hj : j < ls.length), ∃ g x, C = some ⟨g, 0, none⟩ ∧ W.cell? ⟨g, j, none⟩ = some x ∧ Own1 W x ls[j] := by
  obtain ⟨xs, ⟨hl, h1⟩, h2⟩ := h
  rcases h1 with ⟨rfl, h0⟩ | ⟨g, cap, cur, rfl, hb, hg, hc, hm, hsz, htake⟩
  · obtain rfl : ls = [] := List.eq_nil_of_length_eq_zero h0
    exact ⟨none, 0, rfl, Nat.le_refl _, fun h => absurd h (Nat.lt_irrefl _), fun j hj => absurd hj (Nat.not_lt_zero _)⟩
  · refine ⟨_, cap, rfl, hc, fun _ => ⟨g, rfl⟩, fun j hj => ?_⟩
    obtain ⟨x, hx, ho⟩ := h2 j hj
    refine ⟨g, x, rfl, ?_, ho⟩
    rw [cell_row hg, ← hx, ← htake, List.getElem?_take_of_lt (by omega), Array.getElem?_toList]
/-- A list more. -/
theorem OwnL.app {W : World} {v x : Value} {ls : List (List Nat)} {l : List Nat} (h : OwnL W v ls) (hx : Own1 W x l) {Z : Nat} (hZ : W.heap[Z]? = some (.cells #[x] 29 (0, 0))) (hn : ls.length ≤ 100000) :
    ∃ v' W', runA Try.prog 92 v (.slice (some ⟨Z, 0, none⟩) 1 1) W = .ok (.value v') W' ∧ OwnL W' v' (ls ++ [l]) ∧ Keeps (fun k => v.ownBlock = some k) W W' ∧ (v'.ownBlock = v.ownBlock ∨ (v'.ownBlock = some W.heap.size ∧ W.heap.size < W'.heap.size)) := by
  obtain ⟨xs, h1, h2⟩ := h
  obtain ⟨v', W', hap, hown, hK, hv⟩ := app_one Try.underlying92 info29_ rfl (by omega) (by omega) h1 (vals := [x]) rfl hZ (by
    obtain ⟨g, cap, e, _⟩ := hx
    intro u hu
    rw [List.mem_singleton] at hu
    rw [hu, e]
    rfl) hn
  refine ⟨v', W', run_app hap, ⟨xs ++ [x], by rw [List.length_append, List.length_singleton]; exact hown, fun j hj => ?_⟩, hK, hv⟩
  have hxl : xs.length = ls.length := by rw [h1.1, Nat.mul_one]
  by_cases hj2 : j < ls.length
  · obtain ⟨y, hy, ho⟩ := h2 j hj2
    refine ⟨y, by rw [List.getElem?_append_left (by omega)]; exact hy, ?_⟩
    rw [List.getElem_append_left hj2]
    exact ho.keep hK (fun k hk => ho.ne h1 hk)
  · have : j = ls.length := by
      rw [List.length_append, List.length_singleton] at hj
      omega
    subst this
    refine ⟨x, by rw [← hxl]; simp, ?_⟩
    rw [List.getElem_append_right (Nat.le_refl _)]
    simp only [Nat.sub_self, List.getElem_singleton]
    exact hx.keep hK (fun k hk => hx.ne h1 hk)
/-- An empty list grows by all of another one. -/
theorem app_cp {W : World} {Z : Nat} (hZ : W.heap[Z]? = some (.cells #[] 28 (0, 0))) {x : Value} {l : List Nat} (h : Own1 W x l) (hn : l.length ≤ 1000) :
    ∃ y W', runA Try.prog 29 (.slice (some ⟨Z, 0, none⟩) 0 0) x W = .ok (.value y) W' ∧ Own1 W' y l ∧ Keeps (fun j => j = Z) W W' ∧ (y.ownBlock = some Z ∨ (y.ownBlock = some W.heap.size ∧ W.heap.size < W'.heap.size)) := by
  obtain ⟨i, hi, hz, hs, hb⟩ := info_parts info28_
  obtain ⟨g, cap, rfl, hc, hS⟩ := h.sts
  have hown : W.ownsRow 0 28 2 (.slice (some ⟨Z, 0, none⟩) 0 0) 0 [] := ⟨rfl, .inr ⟨Z, 0, #[], rfl, Nat.zero_le _, hZ, Nat.le_refl _, Nat.zero_le _, rfl, rfl⟩⟩
  obtain ⟨v', W', h2, h3, h4, hni, h5⟩ := run_append_own_at (P := Try.prog) W 0 29 29 28 i _ 2 16 Try.underlying29 hi hz hs hb rfl (by omega) _ 0 [] hown ⟨g, 0, none⟩ l.length cap (flatS l) (by rw [flatS_len]) (fun j u hj => by
      have hjl : j < l.length * 2 := by
        have := (List.getElem?_eq_some_iff.1 hj).1
        rw [flatS_len] at this
        exact this
      rw [Addr.add_lit]
      obtain ⟨b', o', e', hc'⟩ := hS.2 (by omega)
      obtain ⟨rfl, rfl⟩ : g = b' ∧ 0 = o' := by cases e'; exact ⟨rfl, rfl⟩
      obtain ⟨hd0, hd1⟩ := hc' (j / 2) (by omega)
      rw [sAt_map (by omega)] at hd0 hd1
      obtain ⟨hf0, hf1⟩ := flatS_at l (j / 2) (by omega)
      rcases (by omega : j = j / 2 * 2 ∨ j = j / 2 * 2 + 1) with e | e
      · rw [e, hf0] at hj; rw [e, ← hj]; exact hd0
      · rw [e, hf1] at hj; rw [e, ← hj]; exact hd1) (by
      intro u hu
      unfold flatS at hu
      obtain ⟨p, _, hp⟩ := List.mem_flatMap.1 hu
      simp only [cellS, List.mem_cons, List.mem_nil_iff, or_false] at hp
      rcases hp with rfl | rfl <;> rfl) (by unfold maxLen; omega) (by omega) (Nat.zero_le _)
  rw [Nat.zero_add, List.nil_append] at h3
  have hne : ¬ v' = .slice none 0 0 := fun e => by cases (hni.1 e).1
  obtain ⟨C, cp, rfl, hcp⟩ := own_slice h3
  have hg2 : ∃ g2, C = some ⟨g2, 0, none⟩ := by
    rcases h3.2 with ⟨e, _⟩ | ⟨g2, cap2, cur, e, _⟩
    · exact absurd e hne
    · cases e
      exact ⟨g2, rfl⟩
  obtain ⟨g2, rfl⟩ := hg2
  refine ⟨_, W', run_app h2, ⟨g2, cp, rfl, hcp, h3⟩, ⟨h4.os, h4.tape, h4.output, h4.size, fun k hk hm => h4.block k hk (fun e => hm (Option.some.inj e))⟩, ?_⟩
  rcases h5 with h5 | h5
  · exact .inl h5
  · exact .inr ⟨h5, own_lt h3 _ h5⟩
/-- A list grows by one step. -/
theorem app_st {W : World} {x : Value} {l : List Nat} (h : Own1 W x l) {Z s : Nat} (hZ : W.heap[Z]? = some (.cells (cellS s).toArray 28 (0, 0))) (hn : l.length ≤ 1000) :
    ∃ y W', runA Try.prog 29 x (.slice (some ⟨Z, 0, none⟩) 1 1) W = .ok (.value y) W' ∧ Own1 W' y (l ++ [s]) ∧ Keeps (fun j => x.ownBlock = some j) W W' ∧ (y.ownBlock = x.ownBlock ∨ (y.ownBlock = some W.heap.size ∧ W.heap.size < W'.heap.size)) := by
  obtain ⟨g, cap, e, hc, ho⟩ := h
  obtain ⟨v', W', hap, hown, hK, hv⟩ := app_one Try.underlying29 info28_ rfl (by omega) (by omega) ho (vals := cellS s) rfl hZ (by simp [cellS, Value.oneCell']) (by omega)
  have hfl : flatS l ++ cellS s = flatS (l ++ [s]) := by simp [flatS]
  rw [hfl] at hown
  rcases hown.2 with ⟨_, e0⟩ | ⟨g2, cap2, cur, e2, _, _, hc2, _⟩
  · omega
  · refine ⟨v', W', run_app hap, ⟨g2, cap2, by rw [e2, List.length_append, List.length_singleton], by rw [List.length_append, List.length_singleton]; exact hc2, by rw [List.length_append, List.length_singleton]; exact hown⟩, hK, hv⟩
end

section
attribute [local go_sem] Oper.semAt_some
attribute [local go_sem ↓] exec_app
attribute [local go_sem ↓] at_app
theorem codesK_len (ps : List Pc) (k : Nat) : (codesK ps k).length ≤ 2 * k := codes_len_ ps k
set_option maxRecDepth 100000 in
set_option maxHeartbeats 4000000 in
theorem steps58 (A : Option Addr) (n cap : Nat) (off lo hi : Int) (ps : List Pc) (w : World) (h : Pcs w A n ps) (hn : n ≤ 8) :
    Calls Try.prog 58 #[cyl A n cap off lo hi] w fun e w' => ∃ C cp, e = .returned (.slice C (codesL ps).length cp) ∧ (codesL ps).length ≤ cp ∧ Sts w' C (codesL ps).length ((codesL ps).map stC) ∧ Below w.heap.size w w' := by
  have hk : Kz w w.heap.size A n cap off lo hi ps none 0 [] _ := Kz.new (cap := cap) (off := off) (lo := lo) (hi := hi) h ⟨rfl, by omega⟩
  have K := Lib.hid hk
  have hpl := h.1
  have Hp := Lib.hid h
  clear hk h
  unfold cyl
  go_enter Try.func58, Try.ntmps58
  go_wp2_with fail
  generalize (w.alloc (.cells #[.slice A n cap, .int .i64 off, .int .i64 lo, .int .i64 hi] 26)) = W0 at K ⊢
  obtain ⟨B, hB⟩ : ∃ B, w.heap.size = B := ⟨_, rfl⟩
  replace K := Lib.hid (show Kz w B A n cap off lo hi ps none 0 [] W0 from by rw [← hB]; exact K.out)
  rw [hB]
  have HB0 := Lib.hid hB
  clear hB
  have Hpl := Lib.hid hpl
  clear hpl
  go_loopw [3, 4] (fun v i wr => ∃ k : Nat, i = .int .i64 (k : Int) ∧ k ≤ n ∧ wr.ownsRow 0 28 2 v (codesK ps k).length (flatS (codesK ps k)) ∧ (∀ b, v.ownBlock = some b → W0.heap.size ≤ b) ∧ Below W0.heap.size W0 wr) (fun _ i _ => n - (intOf i).toNat)
  case atStart => exact ⟨0, by rfl, Nat.zero_le _, own_nil _ _ _, (fun b hb => by cases hb), Below.refl _ _⟩
  case round =>
    obtain ⟨k, rfl, hk, hown, hob, hB⟩ := hrel
    have HB := Lib.hid hB
    have K1 := K.out.next hB
    obtain ⟨c0, -, -, -⟩ := K1.c
    by_cases hlt : k < n
    · have hcl := codesK_len ps k
      have hlen9 : (codesK ps k).length ≤ 16 := by omega
      -- the step that is not turned
      have hX1 := below_alloc_ wr (.cells #[.int .i64 (k : Int), .bool false] 28)
      have hce : cellS (2 * k) = [.int .i64 (k : Int), .bool false] := by
        unfold cellS
        rw [show 2 * k / 2 = k by omega, decide_eq_false (by omega)]
      obtain ⟨v', W', hap, hown', hK, hv'⟩ := app_one Try.underlying29 info28_ rfl (by omega) (by omega) (own_keep hown (Keeps.of_new (Mut := fun _ => False) hX1) (fun _ _ e => e)) (vals := [.int .i64 (k : Int), .bool false]) rfl (heap_alloc_new_ wr _) (by simp [Value.oneCell']) (by omega)
      have hrun := run_app hap
      have hBW : Below W0.heap.size W0 W' := hB.trans ((hX1.mono hB.size).trans (hK.below (by have := hB.size; simp; omega) (fun j hj e => by have := hob _ e; omega)))
      have hob' : ∀ b, v'.ownBlock = some b → W0.heap.size ≤ b := fun b hb => by
        rcases hv' with hv' | ⟨hv', _⟩
        · exact hob _ (hv' ▸ hb)
        · rw [hv'] at hb
          have := hB.size
          cases hb
          simp
          omega
      have K2 := K.out.next hBW
      obtain ⟨d0, -, -, -⟩ := K2.c
      obtain ⟨b, o, rfl, -⟩ := K2.pcs.2 (by omega)
      obtain ⟨-, -, -, -, -, -, e6⟩ := pcs_cells K2.pcs hlt
      have hcs := codesK_succ ps k
      have i0 : (0 : Int) ≤ (k : Int) := by omega
      have i1 : (k : Int) < (n : Int) := by omega
      obtain ⟨lz, hlz⟩ : ∃ lz, (pAt ps k).loose = lz := ⟨_, rfl⟩
      rw [hlz] at e6 hcs
      cases lz with
      | false =>
        simp only [Bool.false_eq_true, if_false] at hcs
        have Hown := Lib.hid (show W'.ownsRow 0 28 2 v' (codesK ps (k + 1)).length (flatS (codesK ps (k + 1))) from by
          rw [hcs, List.length_append]
          have : flatS (codesK ps k ++ [2 * k]) = flatS (codesK ps k) ++ [.int .i64 (k : Int), .bool false] := by simp [flatS, hce]
          rw [this]
          exact hown')
        have Hob := Lib.hid hob'
        have HBW := Lib.hid hBW
        clear hown hob hB hK hv' hap hown' hob' hBW hX1 hcs hce hlz K1 K2
        go_wp2_with fail
        go_roundw
        case rel => exact ⟨k + 1, by go_num, by omega, Hown.out, Hob.out, HBW.out⟩
        case measure => simp [intOf]; omega
      | true =>
        simp only [if_true] at hcs
        have hX2 := below_alloc_ W' (.cells #[.int .i64 (k : Int), .bool true] 28)
        have hce2 : cellS (2 * k + 1) = [.int .i64 (k : Int), .bool true] := by
          unfold cellS
          rw [show (2 * k + 1) / 2 = k by omega, decide_eq_true (by omega)]
        obtain ⟨v2, W2, hap2, hown2, hK2, hv2⟩ := app_one Try.underlying29 info28_ rfl (by omega) (by omega) (own_keep hown' (Keeps.of_new (Mut := fun _ => False) hX2) (fun _ _ e => e)) (vals := [.int .i64 (k : Int), .bool true]) rfl (heap_alloc_new_ W' _) (by simp [Value.oneCell']) (by omega)
        have hrun2 := run_app hap2
        have HBW := Lib.hid (show Below W0.heap.size W0 W2 from hBW.trans ((hX2.mono hBW.size).trans (hK2.below (by have := hBW.size; simp; omega) (fun j hj e => by have := hob' _ e; omega))))
        have Hob := Lib.hid (show ∀ b, v2.ownBlock = some b → W0.heap.size ≤ b from fun b hb => by
          rcases hv2 with hv2 | ⟨hv2, _⟩
          · exact hob' _ (hv2 ▸ hb)
          · rw [hv2] at hb
            have := hBW.size
            cases hb
            simp
            omega)
        have Hown := Lib.hid (show W2.ownsRow 0 28 2 v2 (codesK ps (k + 1)).length (flatS (codesK ps (k + 1))) from by
          rw [hcs, List.length_append]
          have : flatS (codesK ps k ++ [2 * k, 2 * k + 1]) = flatS (codesK ps k) ++ [.int .i64 (k : Int), .bool false] ++ [.int .i64 (k : Int), .bool true] := by simp [flatS, hce, hce2]
          rw [this]
          exact hown2)
        clear hown hob hB hK hv' hap hown' hob' hBW hX1 hcs hce hlz hX2 hce2 hap2 hown2 hK2 hv2 K1 K2
        go_wp2_with fail
        go_roundw
        case rel => exact ⟨k + 1, by go_num, by omega, Hown.out, Hob.out, HBW.out⟩
        case measure => simp [intOf]; omega
    · obtain rfl : n = k := by omega
      have hcn : codesK ps n = codesL ps := by unfold codesL; rw [Hpl.out]
      rw [hcn] at hown
      obtain ⟨C, cp, hv, hcp, hS⟩ := sts_own hown
      rw [hv]
      have HS := Lib.hid hS
      have Hcp := Lib.hid hcp
      have HF := Lib.hid (K.out.next hB).below
      have i1 : ¬ (n : Int) < (n : Int) := by omega
      clear hown hv hS hob hB hlt hcp hcn K1
      go_wp2_with fail
      refine bodyPost_ret (v := .slice C (codesL ps).length cp) (by simp [results, Try.results58, go_sem]) rfl ⟨C, cp, rfl, Hcp.out, HS.out, HF.out⟩
end
end Go.Proofs.Ytfmcfalghbaanaa
