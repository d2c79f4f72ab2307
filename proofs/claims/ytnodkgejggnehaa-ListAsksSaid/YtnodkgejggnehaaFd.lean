/- Stage 5: a search for a partner. -/
import Derived.Test.YtnodkgejggnehaaKn
import Derived.Test.YtnodkgejggnehaaFg
import Derived.Test.YtnodkgejggnehaaSc
import Derived.Laws.EntriesVeiled
namespace Go.Proofs.Ytnodkgejggnehaa
set_option linter.unusedSimpArgs false
set_option linter.unusedVariables false
/-- Items at which nothing has looked, of the other list, are joined as their partners say. -/
def Pre (n : Nat) (f g : Nat → Nat) (lk : Nat → Bool) (m p : Nat → Int) : Prop := ∀ j, j < 12 → lk j = false → m j = -1 ∨ ∃ k, k < n ∧ m j = (k : Int) ∧ g k = j ∧ p (f k) = (k : Int)
/-- An item is joined with one at which nothing has looked. -/
def Img (n : Nat) (f : Nat → Nat) (lk : Nat → Bool) (m : Nat → Int) (i : Nat) : Prop := ∃ j, j < 12 ∧ lk j = false ∧ ∃ k, k < n ∧ m j = (k : Int) ∧ f k = i
def upd (m : Nat → Int) (j : Nat) (v : Int) : Nat → Int := fun x => if x = j then v else m x
/-- A search from i has found a partner. -/
structure Aug (n : Nat) (f g : Nat → Nat) (op : Nat → Bool) (lk : Nat → Bool) (i : Nat) (m p m' p' : Nat → Int) : Prop where
  a : ∀ j, j < 12 → lk j = true → m' j = m j
  b : Pre n f g lk m' p'
  c : ∀ j, j < 12 → m j ≠ -1 → m' j ≠ -1
  d : ∀ x, x < 12 → ¬ Img n f lk m' x → p' x = p x
  e1 : Img n f lk m' i
  e2 : ∀ x, Img n f lk m x → Img n f lk m' x
  e3 : ∀ x, Img n f lk m' x → x = i ∨ Img n f lk m x
  fm : ∀ j, j < 12 → m' j = m j ∨ ∃ k, k < n ∧ m' j = (k : Int) ∧ op k = true
  fp : ∀ j, j < 12 → p' j = p j ∨ ∃ k, k < n ∧ p' j = (k : Int) ∧ op k = true
theorem Pre.mono {n : Nat} {f g : Nat → Nat} {lk lk1 : Nat → Bool} {m p : Nat → Int} (h : Pre n f g lk m p) (hl : ∀ j, lk1 j = false → lk j = false) : Pre n f g lk1 m p := fun j hj h1 => h j hj (hl j h1)
theorem Img.mono {n : Nat} {f : Nat → Nat} {lk lk1 : Nat → Bool} {m : Nat → Int} {i : Nat} (h : Img n f lk1 m i) (hl : ∀ j, lk1 j = false → lk j = false) : Img n f lk m i := by
  obtain ⟨j, h1, h2, h3⟩ := h
  exact ⟨j, h1, hl j h2, h3⟩
theorem Pre.inj {n : Nat} {f g : Nat → Nat} {lk : Nat → Bool} {m p : Nat → Int} (h : Pre n f g lk m p) {j j2 k k2 : Nat} (hj : j < 12) (hj2 : j2 < 12) (l1 : lk j = false) (l2 : lk j2 = false) (e1 : m j = (k : Int)) (e2 : m j2 = (k2 : Int)) (hf : f k = f k2) : j = j2 ∧ k = k2 := by
  have a1 : ∃ k', k' < n ∧ m j = (k' : Int) ∧ g k' = j ∧ p (f k') = (k' : Int) := (h j hj l1).resolve_left (by omega)
  have a2 : ∃ k', k' < n ∧ m j2 = (k' : Int) ∧ g k' = j2 ∧ p (f k') = (k' : Int) := (h j2 hj2 l2).resolve_left (by omega)
  obtain ⟨x, _, x1, x2, x3⟩ := a1
  obtain ⟨y, _, y1, y2, y3⟩ := a2
  obtain rfl : x = k := by omega
  obtain rfl : y = k2 := by omega
  rw [hf] at x3
  have : x = y := by omega
  subst this
  exact ⟨by omega, rfl⟩
theorem Aug.base {n : Nat} {f g : Nat → Nat} {op : Nat → Bool} {lk : Nat → Bool} {i : Nat} {m p : Nat → Int} (hf : ∀ k, k < n → f k < 12) (hp : Pre n f g lk m p) (hi : ¬ Img n f lk m i) {k j : Nat} (hk : k < n) (ho : op k = true) (hfk : f k = i) (hgk : g k = j) (hj : j < 12) (hlj : lk j = false) (hm : m j = -1) :
    Aug n f g op lk i m p (upd m j (k : Int)) (upd p i (k : Int)) := by
  have mj : upd m j (k : Int) j = (k : Int) := by simp [upd]
  have mo : ∀ x, x ≠ j → upd m j (k : Int) x = m x := fun x hx => by simp [upd, hx]
  have pj : upd p i (k : Int) i = (k : Int) := by simp [upd]
  have po : ∀ x, x ≠ i → upd p i (k : Int) x = p x := fun x hx => by simp [upd, hx]
  have img : ∀ x, Img n f lk (upd m j (k : Int)) x ↔ (x = i ∨ Img n f lk m x) := fun x => by
    constructor
    · rintro ⟨y, h1, h2, q, h3, h4, h5⟩
      by_cases e : y = j
      · subst e; rw [mj] at h4
        obtain rfl : k = q := by omega
        exact .inl (by omega)
      · rw [mo y e] at h4; exact .inr ⟨y, h1, h2, q, h3, h4, h5⟩
    · rintro (rfl | ⟨y, h1, h2, q, h3, h4, h5⟩)
      · exact ⟨j, hj, hlj, k, hk, mj, hfk⟩
      · have : y ≠ j := fun e => by subst e; omega
        exact ⟨y, h1, h2, q, h3, by rw [mo y this]; exact h4, h5⟩
  refine ⟨fun x hx hl => mo x (fun e => by subst e; rw [hlj] at hl; cases hl), fun x hx hl => ?_, fun x hx h => ?_, fun x hx h => po x (fun e => h ((img x).2 (.inl e))), (img i).2 (.inl rfl), fun x h => (img x).2 (.inr h), fun x h => (img x).1 h, fun x hx => ?_, fun x hx => ?_⟩
  · by_cases e : x = j
    · subst e; exact .inr ⟨k, hk, mj, hgk, by rw [hfk]; exact pj⟩
    · rw [mo x e]
      rcases hp x hx hl with h | ⟨q, h1, h2, h3, h4⟩
      · exact .inl h
      · refine .inr ⟨q, h1, h2, h3, ?_⟩
        rw [po (f q) (fun e2 => hi ⟨x, hx, hl, q, h1, h2, e2⟩)]
        exact h4
  · by_cases e : x = j
    · subst e; rw [mj]; omega
    · rw [mo x e]; exact h
  · by_cases e : x = j
    · subst e; exact .inr ⟨k, hk, mj, ho⟩
    · exact .inl (mo x e)
  · by_cases e : x = i
    · subst e; exact .inr ⟨k, hk, pj, ho⟩
    · exact .inl (po x e)
theorem Aug.step {n : Nat} {f g : Nat → Nat} {op : Nat → Bool} {lk lk1 : Nat → Bool} {i : Nat} {m p m1 p1 : Nat → Int} (hp : Pre n f g lk m p) (hi : ¬ Img n f lk m i) {k j q : Nat} (hk : k < n) (ho : op k = true) (hfk : f k = i) (hgk : g k = j) (hj : j < 12) (hi12 : i < 12) (hlj : lk j = false) (hq : q < n) (hm : m j = (q : Int))
    (hl1 : ∀ x, lk x = true → lk1 x = true) (hl1j : lk1 j = true) (hA : Aug n f g op lk1 (f q) m p m1 p1) (hf : ∀ k, k < n → f k < 12) :
    Aug n f g op lk i m p (upd m1 j (k : Int)) (upd p1 i (k : Int)) := by
  have hl0 : ∀ x, lk1 x = false → lk x = false := fun x h => by
    cases e : lk x
    · rfl
    · rw [hl1 x e] at h; cases h
  have mj : upd m1 j (k : Int) j = (k : Int) := by simp [upd]
  have mo : ∀ x, x ≠ j → upd m1 j (k : Int) x = m1 x := fun x hx => by simp [upd, hx]
  have pj : upd p1 i (k : Int) i = (k : Int) := by simp [upd]
  have po : ∀ x, x ≠ i → upd p1 i (k : Int) x = p1 x := fun x hx => by simp [upd, hx]
  -- images over what nothing has looked at
  have img1 : ∀ x, Img n f lk1 m1 x → x = f q ∨ Img n f lk1 m x := hA.e3
  have sub : ∀ x, Img n f lk1 m x → Img n f lk m x := fun x h => h.mono hl0
  have himq : Img n f lk m (f q) := ⟨j, hj, hlj, q, hq, hm, rfl⟩
  -- an item in between: looked at by now, not at first
  have mid : ∀ y, y < 12 → lk y = false → lk1 y = true → y ≠ j → ∀ r, r < n → m y = (r : Int) → ¬ Img n f lk1 m1 (f r) := fun y hy h1 h2 hne r hr hmr him => by
    rcases hA.e3 _ him with e | ⟨z, hz, hz1, s, hs, hms, hfs⟩
    · have := (hp.inj hy hj h1 hlj hmr hm e).1
      exact hne this
    · have := (hp.inj hy hz h1 (hl0 z hz1) hmr hms hfs.symm).1
      subst this
      rw [h2] at hz1; cases hz1
  have img : ∀ x, Img n f lk (upd m1 j (k : Int)) x ↔ (x = i ∨ Img n f lk m x) := fun x => by
    constructor
    · rintro ⟨y, h1, h2, r, h3, h4, h5⟩
      by_cases e : y = j
      · subst e; rw [mj] at h4
        obtain rfl : k = r := by omega
        exact .inl (by omega)
      · rw [mo y e] at h4
        cases hy : lk1 y with
        | true =>
          rw [hA.a y h1 hy] at h4
          exact .inr ⟨y, h1, h2, r, h3, h4, h5⟩
        | false =>
          rcases hA.e3 x ⟨y, h1, hy, r, h3, h4, h5⟩ with e2 | e2
          · rw [e2]; exact .inr himq
          · exact .inr (sub x e2)
    · rintro (rfl | ⟨y, h1, h2, r, h3, h4, h5⟩)
      · exact ⟨j, hj, hlj, k, hk, mj, hfk⟩
      · by_cases e : y = j
        · subst e
          obtain rfl : q = r := by omega
          obtain ⟨z, hz, hz1, s, hs, hms, hfs⟩ := hA.e1
          have hzj : z ≠ y := fun e => by subst e; rw [hl1j] at hz1; cases hz1
          exact ⟨z, hz, hl0 z hz1, s, hs, by rw [mo z hzj]; exact hms, by omega⟩
        · cases hy : lk1 y with
          | true => exact ⟨y, h1, h2, r, h3, by rw [mo y e, hA.a y h1 hy]; exact h4, h5⟩
          | false =>
            obtain ⟨z, hz, hz1, s, hs, hms, hfs⟩ := hA.e2 x ⟨y, h1, hy, r, h3, h4, h5⟩
            have hzj : z ≠ j := fun e => by subst e; rw [hl1j] at hz1; cases hz1
            exact ⟨z, hz, hl0 z hz1, s, hs, by rw [mo z hzj]; exact hms, hfs⟩
  refine ⟨fun x hx hl => ?_, fun x hx hl => ?_, fun x hx h => ?_, fun x hx h => ?_, (img i).2 (.inl rfl), fun x h => (img x).2 (.inr h), fun x h => (img x).1 h, fun x hx => ?_, fun x hx => ?_⟩
  · rw [mo x (fun e => by subst e; rw [hlj] at hl; cases hl)]
    exact hA.a x hx (hl1 x hl)
  · by_cases e : x = j
    · subst e; exact .inr ⟨k, hk, mj, hgk, by rw [hfk]; exact pj⟩
    · rw [mo x e]
      cases hy : lk1 x with
      | true =>
        rw [hA.a x hx hy]
        rcases hp x hx hl with h | ⟨r, h1, h2, h3, h4⟩
        · exact .inl h
        · refine .inr ⟨r, h1, h2, h3, ?_⟩
          rw [po (f r) (fun e2 => hi ⟨x, hx, hl, r, h1, h2, e2⟩), hA.d (f r) (hf r h1) (mid x hx hl hy e r h1 h2)]
          exact h4
      | false =>
        rcases hA.b x hx hy with h | ⟨r, h1, h2, h3, h4⟩
        · exact .inl h
        · refine .inr ⟨r, h1, h2, h3, ?_⟩
          rw [po (f r) (fun e2 => ?_)]
          · exact h4
          · rcases hA.e3 (f r) ⟨x, hx, hy, r, h1, h2, rfl⟩ with e3 | e3
            · exact hi (by rw [← e2, e3]; exact himq)
            · exact hi (by rw [← e2]; exact sub _ e3)
  · by_cases e : x = j
    · subst e; rw [mj]; omega
    · rw [mo x e]; exact hA.c x hx h
  · have hxi : x ≠ i := fun e => h ((img x).2 (.inl e))
    rw [po x hxi]
    refine hA.d x hx (fun him => h ((img x).2 (.inr ?_)))
    rcases hA.e3 x him with e | e
    · rw [e]; exact himq
    · exact sub x e
  · by_cases e : x = j
    · subst e; exact .inr ⟨k, hk, mj, ho⟩
    · rw [mo x e]; exact hA.fm x hx
  · by_cases e : x = i
    · subst e; exact .inr ⟨k, hk, pj, ho⟩
    · rw [po x e]; exact hA.fp x hx
/-- What a search that finds nothing has looked at: of s's list, and of the other one. -/
structure Clo (n : Nat) (f g : Nat → Nat) (op : Nat → Bool) (m : Nat → Int) (ls lt ls' lt' : Nat → Bool) : Prop where
  ms : ∀ x, ls x = true → ls' x = true
  mt : ∀ x, lt x = true → lt' x = true
  cs : ∀ x, x < 12 → ls' x = true → ls x = true ∨ ∀ k, k < n → op k = true → f k = x → lt' (g k) = true
  ct : ∀ y, y < 12 → lt' y = true → lt y = true ∨ ∃ k, k < n ∧ m y = (k : Int) ∧ ls' (f k) = true
theorem Clo.refl {n : Nat} {f g : Nat → Nat} {op : Nat → Bool} {m : Nat → Int} (ls lt : Nat → Bool) : Clo n f g op m ls lt ls lt := ⟨fun _ h => h, fun _ h => h, fun _ _ h => .inl h, fun _ _ h => .inl h⟩
theorem Clo.trans {n : Nat} {f g : Nat → Nat} {op : Nat → Bool} {m : Nat → Int} {a b a1 b1 a2 b2 : Nat → Bool} (h : Clo n f g op m a b a1 b1) (k : Clo n f g op m a1 b1 a2 b2) : Clo n f g op m a b a2 b2 :=
  ⟨fun x e => k.ms x (h.ms x e), fun x e => k.mt x (h.mt x e), fun x hx e => by
    rcases k.cs x hx e with e1 | e1
    · rcases h.cs x hx e1 with e2 | e2
      · exact .inl e2
      · exact .inr fun q h1 h2 h3 => k.mt _ (e2 q h1 h2 h3)
    · exact .inr e1, fun y hy e => by
    rcases k.ct y hy e with e1 | e1
    · rcases h.ct y hy e1 with e2 | ⟨q, h1, h2, h3⟩
      · exact .inl e2
      · exact .inr ⟨q, h1, h2, k.ms _ h3⟩
    · exact .inr e1⟩
theorem Clo.link {n : Nat} {f g : Nat → Nat} {op : Nat → Bool} {m : Nat → Int} {ls ls1 lt lt1 ls' lt' : Nat → Bool} {j q : Nat} (h : Clo n f g op m ls1 lt1 ls' lt') (hs1 : ∀ x, x < 12 → ls1 x = true → ls x = true) (hs2 : ∀ x, ls x = true → ls1 x = true) (h1 : ∀ y, lt1 y = true → lt y = true ∨ y = j) (h2 : ∀ y, lt y = true → lt1 y = true) (hq : q < n) (hm : m j = (q : Int)) (hs : ls' (f q) = true) : Clo n f g op m ls lt ls' lt' :=
  ⟨fun x e => h.ms x (hs2 x e), fun y e => h.mt y (h2 y e), fun x hx e => (h.cs x hx e).imp (hs1 x hx) (fun e => e), fun y hy e => by
    rcases h.ct y hy e with e1 | e1
    · rcases h1 y e1 with e2 | e2
      · exact .inl e2
      · subst e2; exact .inr ⟨q, hq, hm, hs⟩
    · exact .inr e1⟩
theorem Clo.close {n : Nat} {f g : Nat → Nat} {op : Nat → Bool} {m : Nat → Int} {ls ls1 lt lt1 ls' lt' : Nat → Bool} {i : Nat} (h : Clo n f g op m ls1 lt1 ls' lt') (ht1 : ∀ y, y < 12 → lt1 y = true → lt y = true) (ht2 : ∀ y, lt y = true → lt1 y = true) (h1 : ∀ x, ls1 x = true → ls x = true ∨ x = i) (h2 : ∀ x, ls x = true → ls1 x = true) (hi : ∀ k, k < n → op k = true → f k = i → lt' (g k) = true) : Clo n f g op m ls lt ls' lt' :=
  ⟨fun x e => h.ms x (h2 x e), fun y e => h.mt y (ht2 y e), fun x hx e => by
    rcases h.cs x hx e with e1 | e1
    · rcases h1 x e1 with e2 | e2
      · exact .inl e2
      · subst e2; exact .inr hi
    · exact .inr e1, fun y hy e => (h.ct y hy e).imp (ht1 y hy) (fun e => e)⟩
theorem Aug.congr {n : Nat} {f g : Nat → Nat} {op lk : Nat → Bool} {i : Nat} {m p m' p' m2 p2 : Nat → Int} (h : Aug n f g op lk i m p m' p') (hf : ∀ k, k < n → f k < 12) (hm : ∀ j, j < 12 → m2 j = m' j) (hp : ∀ j, j < 12 → p2 j = p' j) : Aug n f g op lk i m p m2 p2 := by
  have img : ∀ x, Img n f lk m2 x ↔ Img n f lk m' x := fun x => by
    constructor
    · rintro ⟨j, h1, h2, q, h3, h4, h5⟩; exact ⟨j, h1, h2, q, h3, by rw [← hm j h1]; exact h4, h5⟩
    · rintro ⟨j, h1, h2, q, h3, h4, h5⟩; exact ⟨j, h1, h2, q, h3, by rw [hm j h1]; exact h4, h5⟩
  refine ⟨fun j hj hl => by rw [hm j hj]; exact h.a j hj hl, fun j hj hl => ?_, fun j hj e => by rw [hm j hj]; exact h.c j hj e, fun x hx hn => by rw [hp x hx]; exact h.d x hx (fun e => hn ((img x).2 e)), (img i).2 h.e1, fun x e => (img x).2 (h.e2 x e), fun x e => h.e3 x ((img x).1 e), fun j hj => by rw [hm j hj]; exact h.fm j hj, fun j hj => by rw [hp j hj]; exact h.fp j hj⟩
  rw [hm j hj]
  rcases h.b j hj hl with e | ⟨k, h1, h2, h3, h4⟩
  · exact .inl e
  · exact .inr ⟨k, h1, h2, h3, by rw [hp _ (hf k h1)]; exact h4⟩
end Go.Proofs.Ytnodkgejggnehaa

namespace Go.Proofs.Ytnodkgejggnehaa
set_option linter.unusedSimpArgs false
set_option linter.unusedVariables false
open Go.RowKit Go.Shelf
attribute [local go_sem ↓] exec_app at_app
attribute [local go_sem] Oper.semAt_some
/-- Partners of one list, and of the other one. -/
def pS (pt : Nat → Int) (l : Nat) : Nat → Int := fun j => pt (l * 12 + j)
def mT (pt : Nat → Int) (l : Nat) : Nat → Int := fun j => pt ((1 - l) * 12 + j)
def kS (lk : Nat → Bool) (l : Nat) : Nat → Bool := fun j => lk (l * 12 + j)
def kT (lk : Nat → Bool) (l : Nat) : Nat → Bool := fun j => lk ((1 - l) * 12 + j)
/-- How many items of the other list no search has looked at. -/
def unl (l : Nat) (lk : Nat → Bool) : Nat := (List.range 12).countP fun j => !kT lk l j
theorem ite_mono (a b : Bool) (h : b = true → a = true) : (if (!a) = true then 1 else 0) ≤ (if (!b) = true then 1 else 0) := by
  cases a <;> cases b <;> simp_all
theorem unl_lt {l : Nat} {lk lk2 : Nat → Bool} (h : ∀ x, lk x = true → lk2 x = true) {j : Nat} (hj : j < 12) (h0 : kT lk l j = false) (h1 : kT lk2 l j = true) : unl l lk2 < unl l lk := by
  unfold unl
  have : ∀ (L : List Nat), j ∈ L → L.countP (fun j => !kT lk2 l j) < L.countP (fun j => !kT lk l j) := by
    have hle : ∀ L : List Nat, L.countP (fun j => !kT lk2 l j) ≤ L.countP (fun j => !kT lk l j) := fun L => by
      refine List.countP_mono_left (fun x _ hx => ?_)
      simp only [Bool.not_eq_true', kT] at hx ⊢
      cases e : lk ((1 - l) * 12 + x)
      · rfl
      · rw [h _ e] at hx; cases hx
    intro L hL
    induction L with
    | nil => simp at hL
    | cons x L ih =>
      rw [List.countP_cons, List.countP_cons]
      rcases List.mem_cons.1 hL with rfl | hL
      · rw [h0, h1]
        have := hle L
        simp; omega
      · have h2 := ih hL
        have h3 : (if (!kT lk2 l x) = true then 1 else 0) ≤ (if (!kT lk l x) = true then 1 else 0) := ite_mono _ _ (h _)
        omega
  exact this _ (List.mem_range.2 hj)
/-- What a search that has found a partner leaves. -/
def AugP (n : Nat) (zs : List Rg) (op : Nat → Bool) (l i : Nat) (lk : Nat → Bool) (pt pt' : Nat → Int) : Prop := Aug n (eN zs l) (eN zs (1 - l)) op (kT lk l) i (mT pt l) (pS pt l) (mT pt' l) (pS pt' l)
/-- What one that has found none has looked at. -/
def CloP (n : Nat) (zs : List Rg) (op : Nat → Bool) (l : Nat) (pt : Nat → Int) (lk lk' : Nat → Bool) : Prop := Clo n (eN zs l) (eN zs (1 - l)) op (mT pt l) (kS lk l) (kT lk l) (kS lk' l) (kT lk' l)
theorem prP_m {n : Nat} {zs : List Rg} (hz : ZOk n zs) {x l : Nat} (hx : x < n) (hl : l < 2) (pt : Nat → Int) : (∀ j, j < 12 → mT (prP pt (eN zs 0 x) (eN zs 1 x) x 2) l j = upd (mT pt l) (eN zs (1 - l) x) (x : Int) j) ∧ ∀ j, j < 12 → pS (prP pt (eN zs 0 x) (eN zs 1 x) x 2) l j = upd (pS pt l) (eN zs l x) (x : Int) j := by
  have h0 := hz.lt (l := 0) hx
  have h1 := hz.lt (l := 1) hx
  rcases (by omega : l = 0 ∨ l = 1) with rfl | rfl
  · refine ⟨fun j hj => ?_, fun j hj => ?_⟩
    · simp only [mT, prP, upd]
      by_cases e : j = eN zs 1 x
      · subst e; simp
      · rw [if_neg (by omega), if_neg (by omega), if_neg (by simpa using e)]
    · simp only [pS, prP, upd]
      by_cases e : j = eN zs 0 x
      · subst e; rw [if_neg (by omega), if_pos (by omega), if_pos rfl]
      · rw [if_neg (by omega), if_neg (by omega), if_neg e]
  · refine ⟨fun j hj => ?_, fun j hj => ?_⟩
    · simp only [mT, prP, upd]
      by_cases e : j = eN zs 0 x
      · subst e; rw [if_neg (by omega), if_pos (by omega), if_pos (by simp)]
      · rw [if_neg (by omega), if_neg (by omega), if_neg (by simpa using e)]
    · simp only [pS, prP, upd]
      by_cases e : j = eN zs 1 x
      · subst e; simp
      · rw [if_neg (by omega), if_neg (by omega), if_neg e]
theorem aug_new {n : Nat} {zs : List Rg} (hz : ZOk n zs) {op : Nat → Bool} {x l i : Nat} {lk : Nat → Bool} {pt pt1 : Nat → Int} (hx : x < n) (hl : l < 2) (h : Aug n (eN zs l) (eN zs (1 - l)) op (kT lk l) i (mT pt l) (pS pt l) (upd (mT pt1 l) (eN zs (1 - l) x) (x : Int)) (upd (pS pt1 l) (eN zs l x) (x : Int))) : AugP n zs op l i lk pt (prP pt1 (eN zs 0 x) (eN zs 1 x) x 2) :=
  h.congr (fun k hk => hz.lt hk) (prP_m hz hx hl pt1).1 (prP_m hz hx hl pt1).2
/-- A search under way: its links before x are looked through. -/
def FdI (B : Nat) (sl sr : Int) (A : Option Addr) (n cap : Nat) (zs : List Rg) (A2 : Option Addr) (kn kc : Nat) (ks : List Int) (pt : Nat → Int) (op : Nat → Bool) (M l i b5 : Nat) (lk1 : Nat → Bool) (W4 : World) (x : Nat) (U : World) : Prop :=
  ∃ lkx, Brd U B sl sr A n cap zs A2 kn kc ks pt op (.map (some M)) ∧ LM U M lkx ∧ CloP n zs op l pt lk1 lkx ∧ (∀ y, y < x → op y = true → eN zs l y = i → kT lkx l (eN zs (1 - l) y) = true) ∧ (∀ z, lk1 z = true → lkx z = true) ∧
    U.heap[b5]? = some (.cells #[.bool false] 4 (0, 0)) ∧ Keeps (fun j => j = B ∨ j = M ∨ j = b5) W4 U
/-- A search that has found a partner. -/
def FdX (B : Nat) (sl sr : Int) (A : Option Addr) (n cap : Nat) (zs : List Rg) (A2 : Option Addr) (kn kc : Nat) (ks : List Int) (pt : Nat → Int) (op : Nat → Bool) (M l i b5 : Nat) (lk : Nat → Bool) (W4 : World) (U : World) : Prop :=
  ∃ pt' lk', Brd U B sl sr A n cap zs A2 kn kc ks pt' op (.map (some M)) ∧ LM U M lk' ∧ (∀ z, lk z = true → lk' z = true) ∧ AugP n zs op l i lk pt pt' ∧
    U.heap[b5]? = some (.cells #[.bool true] 4 (0, 0)) ∧ Keeps (fun j => j = B ∨ j = M ∨ j = b5) W4 U
theorem FdI.ab {B : Nat} {sl sr : Int} {A : Option Addr} {n cap : Nat} {zs : List Rg} {A2 : Option Addr} {kn kc : Nat} {ks : List Int} {pt : Nat → Int} {op : Nat → Bool} {M l i b5 : Nat} {lk1 : Nat → Bool} {W4 : World} {x : Nat} {U U' : World} {Mut : Nat → Prop} (h4 : Brd W4 B sl sr A n cap zs A2 kn kc ks pt op (.map (some M))) (hM : M < W4.heap.size) (h5 : b5 < W4.heap.size) (h : FdI B sl sr A n cap zs A2 kn kc ks pt op M l i b5 lk1 W4 x U) (hK : Keeps Mut U U') (hm : ∀ k, Mut k → W4.heap.size ≤ k) : FdI B sl sr A n cap zs A2 kn kc ks pt op M l i b5 lk1 W4 x U' := by
  obtain ⟨lkx, a, b, c, d, e, f, g⟩ := h
  exact ⟨lkx, Brd.abide h4 a hK hm, b.keep hK (fun e => by have := hm M e; omega), c, d, e, (hK.block _ (lt_of_block f) (fun e => by have := hm b5 e; omega)).trans f, keeps_old3 g (hK.mono (fun j _ e => .inl (hm j e)))⟩
theorem FdX.ab {B : Nat} {sl sr : Int} {A : Option Addr} {n cap : Nat} {zs : List Rg} {A2 : Option Addr} {kn kc : Nat} {ks : List Int} {pt : Nat → Int} {op : Nat → Bool} {M l i b5 : Nat} {lk : Nat → Bool} {W4 : World} {U U' : World} {Mut : Nat → Prop} (h4 : Brd W4 B sl sr A n cap zs A2 kn kc ks pt op (.map (some M))) (hM : M < W4.heap.size) (h5 : b5 < W4.heap.size) (h : FdX B sl sr A n cap zs A2 kn kc ks pt op M l i b5 lk W4 U) (hK : Keeps Mut U U') (hm : ∀ k, Mut k → W4.heap.size ≤ k) : FdX B sl sr A n cap zs A2 kn kc ks pt op M l i b5 lk W4 U' := by
  obtain ⟨pt', lk', a, b, c, d, f, g⟩ := h
  exact ⟨pt', lk', Brd.abide h4 a hK hm, b.keep hK (fun e => by have := hm M e; omega), c, d, (hK.block _ (lt_of_block f) (fun e => by have := hm b5 e; omega)).trans f, keeps_old3 g (hK.mono (fun j _ e => .inl (hm j e)))⟩
set_option maxRecDepth 100000 in
set_option maxHeartbeats 16000000 in
theorem find71 (B : Nat) (sl sr : Int) (A : Option Addr) (n cap : Nat) (zs : List Rg) (A2 : Option Addr) (kn kc : Nat) (ks : List Int) (pt : Nat → Int) (op : Nat → Bool) (M l : Nat) (hl : l < 2) (hn : n ≤ 40) (hz : ZOk n zs) : ∀ (u : Nat) (lk : Nat → Bool) (i : Nat) (w : World), unl l lk ≤ u → i < 12 → Brd w B sl sr A n cap zs A2 kn kc ks pt op (.map (some M)) → LM w M lk → Pre n (eN zs l) (eN zs (1 - l)) (kT lk l) (mT pt l) (pS pt l) → ¬ Img n (eN zs l) (kT lk l) (mT pt l) i →
    Calls Try.prog 71 #[.pointer (some ⟨B, 0, none⟩), .agg #[.int .i64 (l : Int), .int .i64 (i : Int)]] w fun e w' => ∃ r pt' lk', e = .returned (.bool r) ∧ Brd w' B sl sr A n cap zs A2 kn kc ks pt' op (.map (some M)) ∧ LM w' M lk' ∧ Keeps (fun j => j = B ∨ j = M) w w' ∧ (∀ z, lk z = true → lk' z = true) ∧ (r = true → AugP n zs op l i lk pt pt') ∧ (r = false → pt' = pt ∧ CloP n zs op l pt lk lk' ∧ lk' (l * 12 + i) = true) := by
  intro u
  induction u using Nat.strongRecOn with
  | _ u ih =>
  intro lk i w hu hi hbd hlm hpre himg
  have HI := Lib.hid ih
  have Hu := Lib.hid hu
  have Hz := Lib.hid hz
  have Hpre := Lib.hid hpre
  have Himg := Lib.hid himg
  have Hbd := Lib.hid hbd
  have Hlm := Lib.hid hlm
  have hBM := hbd.ne_map hlm
  have hMw := hlm.lt
  have hBw : B < w.heap.size := by obtain ⟨X, hX, -⟩ := hbd.row; exact lt_of_block hX
  have hk0 : Keeps (fun _ => False) w ((w.alloc (.cells #[.pointer (some ⟨B, 0, none⟩)] 61)).alloc (.cells #[.int .i64 (l : Int), .int .i64 (i : Int)] 100)) := (keep_alloc _ _ _).trans (keep_alloc _ _ _)
  have hr2 : ((w.alloc (.cells #[.pointer (some ⟨B, 0, none⟩)] 61)).alloc (.cells #[.int .i64 (l : Int), .int .i64 (i : Int)] 100)).heap[w.heap.size]? = some (.cells #[.pointer (some ⟨B, 0, none⟩)] 61 (0, 0)) := hal_old (heap_alloc_new_ _ _)
  have hr3 : ((w.alloc (.cells #[.pointer (some ⟨B, 0, none⟩)] 61)).alloc (.cells #[.int .i64 (l : Int), .int .i64 (i : Int)] 100)).heap[w.heap.size + 1]? = some (.cells #[.int .i64 (l : Int), .int .i64 (i : Int)] 100 (0, 0)) := hal_new (by simp)
  obtain ⟨w0, hw0⟩ : ∃ w0, ((w.alloc (.cells #[.pointer (some ⟨B, 0, none⟩)] 61)).alloc (.cells #[.int .i64 (l : Int), .int .i64 (i : Int)] 100)) = w0 := ⟨_, rfl⟩
  rw [hw0] at hk0 hr2 hr3
  have hb0 := hbd.keep hk0 (fun e => e) (fun _ _ e => e) (fun _ _ e => e)
  have hm0 := hlm.keep hk0 (fun e => e)
  obtain ⟨w1, hput, hm1, hk1⟩ := (show LM w0.drew M lk from hm0.keep (Mut := fun _ => False) (Keeps.of_new (drew_b _ 1)) (fun e => e)).put hl hi
  have hk1' : Keeps (fun j => j = M) w0 w1 := (Keeps.of_new (drew_b w0 1)).trans hk1
  have hb1 := hb0.keepM hm0 hk1'
  have c2 : w0.cell? ⟨w.heap.size, 0, none⟩ = some (.pointer (some ⟨B, 0, none⟩)) := by rw [cell_row hr2]; rfl
  have c30 : w0.cell? ⟨w.heap.size + 1, 0, none⟩ = some (.int .i64 (l : Int)) := by rw [cell_row hr3]; rfl
  have c31 : w0.cell? ⟨w.heap.size + 1, 1, none⟩ = some (.int .i64 (i : Int)) := by rw [cell_row hr3]; rfl
  have cm := hb0.cm
  have Hw0 := Lib.hid hw0
  have Hb1 := Lib.hid hb1
  have Hm1 := Lib.hid hm1
  have Hput := Lib.hid hput
  have HK1 := Lib.hid (hk0.none.trans hk1')
  have Hk1 := Lib.hid hk1'
  have hr2' := Lib.hid ((hk1'.block _ (lt_of_block hr2) (by omega)).trans hr2)
  have hr3' := Lib.hid ((hk1'.block _ (lt_of_block hr3) (by omega)).trans hr3)
  have hs0 : w.heap.size + 2 ≤ w1.heap.size := by have := lt_of_block hr3; have := hk1'.size; omega
  have Hs0 := Lib.hid hs0
  have HBM := Lib.hid hBM
  have HMw := Lib.hid hMw
  have HBw := Lib.hid hBw
  clear ih hu hz hpre himg hbd hlm hk0 hr2 hr3 hw0 hb0 hm0 hput hm1 hk1 hk1' hb1 hs0 hMw hBw hBM
  refine (callsIn_wide (n := 5)).1 ?_
  refine callsIn_of_wp_marks Try.func71 rfl trivial ?_ rfl
  simp only [Try.ntmps71, List.size_toArray, List.length_cons, List.length_nil, Nat.reduceAdd, Nat.reduceSub, Array.replicate_succ, Array.replicate_zero, List.push_toArray, List.append_toArray, List.nil_append, List.cons_append]
  gi_wp2_with fail
  refine wpIn_scope_ ?_
  gi_wp2_with fail
  rw [Hw0.out]
  rename_i Q0 K0 hK0
  have HK0 := Lib.hid hK0
  clear hK0
  refine Code.wpIn_mono (Q := Exit.then K0 (fun _ _ _ => False)) (fun e a w h => by
    cases e with
    | normal => exact h
    | ret => exact h.elim
    | exit id => exact h.elim
    | goto l => exact h.elim
    | panic c => exact h.elim
    | outgrown => exact h.elim) ?_
  have hS0 : Keeps (fun _ => False) w0 w0.drew := Keeps.of_new (drew_b _ _)
  refine Out.region_R (z := 5) (S := fun W' => Keeps (fun _ => False) w0 W') (by kernel_rfl) ?_
  refine Out.anyR_take (i := 0) (oi := { dst := some 9, op := Go.Op.load 61 (Go.Operand.tmp 2), type := 61, pos := "board.go:212", after := #[], guard := none }) (v := .pointer (some ⟨B, 0, none⟩)) rfl (by decide) (by kernel_rfl) (by kernel_rfl) (by kernel_rfl) (by kernel_rfl) (fun _ _ _ h => h) (Or.inl ⟨by rfl, by intro W' hSw; (try dsimp only at hSw); have y0 := (keep_cells hSw (lt_of_cell c2) (fun e => e) _).trans c2; go_simp⟩) hS0 ?_
  try simp only [Act.put, List.setIfInBounds_toArray, List.set_cons_zero, List.set_cons_succ]
  refine Out.anyR_take (i := 1) (oi := { dst := some 10, op := Go.Op.nilCheck (Go.Operand.tmp 9), type := 0, pos := "board.go:212", after := #[{ on := 0, ground := Go.Ground.data }], guard := none }) (v := .pointer (some ⟨B, 0, none⟩)) rfl (by decide) (by kernel_rfl) (by kernel_rfl) (by kernel_rfl) (by kernel_rfl) (fun _ _ _ h => h) (Or.inl ⟨by rfl, by intro W' hSw; (try dsimp only at hSw); go_simp⟩) hS0 ?_
  try simp only [Act.put, List.setIfInBounds_toArray, List.set_cons_zero, List.set_cons_succ]
  refine Out.anyR_take (i := 2) (oi := { dst := some 11, op := Go.Op.fieldAddr 91 (Go.Operand.tmp 10) 3, type := 0, pos := "board.go:212", after := #[{ on := 1, ground := Go.Ground.data }], guard := none }) (v := .pointer (some ⟨B, 68, none⟩)) rfl (by decide) (by kernel_rfl) (by kernel_rfl) (by kernel_rfl) (by kernel_rfl) (fun _ _ _ h => h) (Or.inl ⟨by rfl, by intro W' hSw; (try dsimp only at hSw); go_simp⟩) hS0 ?_
  try simp only [Act.put, List.setIfInBounds_toArray, List.set_cons_zero, List.set_cons_succ]
  refine Out.anyR_take (i := 3) (oi := { dst := some 12, op := Go.Op.load 85 (Go.Operand.tmp 11), type := 85, pos := "board.go:212", after := #[{ on := 2, ground := Go.Ground.data }], guard := none }) (v := .map (some M)) rfl (by decide) (by kernel_rfl) (by kernel_rfl) (by kernel_rfl) (by kernel_rfl) (fun _ _ _ h => h) (Or.inl ⟨by rfl, by intro W' hSw; (try dsimp only at hSw); have y0 := (keep_cells hSw (lt_of_cell cm) (fun e => e) _).trans cm; go_simp⟩) hS0 ?_
  try simp only [Act.put, List.setIfInBounds_toArray, List.set_cons_zero, List.set_cons_succ]
  refine Out.anyR_take (i := 4) (oi := { dst := some 13, op := Go.Op.load 100 (Go.Operand.tmp 3), type := 100, pos := "board.go:212", after := #[], guard := none }) (v := .agg #[.int .i64 (l : Int), .int .i64 (i : Int)]) rfl (by decide) (by kernel_rfl) (by kernel_rfl) (by kernel_rfl) (by kernel_rfl) (fun _ _ _ h => h) (Or.inl ⟨by rfl, by intro W' hSw; (try dsimp only at hSw); have y0 := (keep_cells hSw (lt_of_cell c30) (fun e => e) _).trans c30; have y1 := (keep_cells hSw (lt_of_cell c31) (fun e => e) _).trans c31; go_simp⟩) hS0 ?_
  try simp only [Act.put, List.setIfInBounds_toArray, List.set_cons_zero, List.set_cons_succ]
  refine Out.anyR_one (i := 5) (by kernel_rfl) rfl (by rfl) ?_
  intro K hK
  have HKK := Lib.hid hK
  clear hK
  have hput := Hput.out
  go_simp
  refine HKK.out _ _ (fun h => absurd rfl h) ?_
  clear HKK K hput
  refine Out.anyR_done (by kernel_rfl) ?_ _
  refine HK0.out _ _ ?_
  clear HK0 hS0 c2 c30 c31 cm
  have hk5 := keep_alloc (fun _ => False) w1 (.cells #[.bool false] 4)
  have hr5 := heap_alloc_new_ w1 (.cells #[.bool false] 4)
  have hr2 := (hk5.block _ (lt_of_block hr2'.out) (fun e => e)).trans hr2'.out
  have hr3 := (hk5.block _ (lt_of_block hr3'.out) (fun e => e)).trans hr3'.out
  gi_wp2_with fail
  refine wpIn_label ?_
  obtain ⟨b5, hb5⟩ : ∃ b5, w1.heap.size = b5 := ⟨_, rfl⟩
  obtain ⟨w3, hw3⟩ : ∃ w3, w1.alloc (.cells #[.bool false] 4) = w3 := ⟨_, rfl⟩
  rw [hw3] at hk5 hr5 hr2 hr3 ⊢
  rw [hb5] at hr5 ⊢
  have hb3 := Hb1.out.keep hk5 (fun e => e) (fun _ _ e => e) (fun _ _ e => e)
  have kl := links77 B sl sr A n cap zs A2 kn kc ks pt op (.map (some M)) l i 84 #[.pointer (some ⟨B, 0, none⟩)] #[] (enters_of Try.func84 (by kernel_rfl) rfl) w3 hb3 hl hi hn
  have c2 : w3.cell? ⟨w.heap.size, 0, none⟩ = some (.pointer (some ⟨B, 0, none⟩)) := by rw [cell_row hr2]; rfl
  have c30 : w3.cell? ⟨w.heap.size + 1, 0, none⟩ = some (.int .i64 (l : Int)) := by rw [cell_row hr3]; rfl
  have c31 : w3.cell? ⟨w.heap.size + 1, 1, none⟩ = some (.int .i64 (i : Int)) := by rw [cell_row hr3]; rfl
  have Hb3 := Lib.hid hb3
  have Hm3 := Lib.hid (Hm1.out.keep hk5 (fun e => e))
  have HK3 := Lib.hid (HK1.out.trans hk5.none)
  have Hr5 := Lib.hid hr5
  have Hr2 := Lib.hid hr2
  have Hr3 := Lib.hid hr3
  have hb5w : w.heap.size + 2 ≤ b5 := by have := Hs0.out; omega
  have Hkl := Lib.hid kl
  clear kl hb3 hr5 hr2 hr3 hk5 hw3 hb5
  gi_wp2_with fail
  refine ⟨trivial, (callsIn_wide.2 Hkl.out).mono ?_⟩
  rintro e W4 ⟨b1, rfl, rfl, hsz4, hb4, hseq⟩
  obtain ⟨lk1, hlk1⟩ : ∃ lk1 : Nat → Bool, (fun x => if x = l * 12 + i then true else lk x) = lk1 := ⟨_, rfl⟩
  rw [hlk1] at Hm3
  have Hlk1 := Lib.hid hlk1
  have HB4 := Lib.hid (Hb3.out.below hb4 (Nat.le_refl _))
  have HM4 := Lib.hid (Hm3.out.below hb4)
  have HK4 := Lib.hid (HK3.out.trans (Keeps.of_new hb4))
  have Hr54 := Lib.hid ((hb4.block _ (lt_of_block Hr5.out)).trans Hr5.out)
  have Hr24 := Lib.hid ((hb4.block _ (lt_of_block Hr2.out)).trans Hr2.out)
  have Hr34 := Lib.hid ((hb4.block _ (lt_of_block Hr3.out)).trans Hr3.out)
  have Hsq := Lib.hid hseq
  have h53 : b5 < w3.heap.size := lt_of_block Hr5.out
  have hw3w := HK3.out.size
  have hM4 : M < W4.heap.size := HM4.out.lt
  have hBw := HBw.out
  have hMw := HMw.out
  clear Hkl hseq c2 c30 c31 hlk1 hb4
  gi_wp2_with fail
  refine wpIn_rangeB (gf := 91) rfl (enters_of Try.func91 (by kernel_rfl) rfl) Hsq.out (fun j e => by omega) rfl (fun j => j = B ∨ j = M ∨ j = b5) (fun j e => ⟨by omega, by omega⟩)
    (fun x O U => FdI B sl sr A n cap zs A2 kn kc ks pt op M l i b5 lk1 W4 x U) (fun c x O U => c = .exit 0 ∧ FdX B sl sr A n cap zs A2 kn kc ks pt op M l i b5 lk W4 U) (fun x O U U' hI hK => hI.ab HB4.out hM4 (by omega) hK (fun j e => e.1)) (fun c x O U U' hI hK => ⟨hI.1, hI.2.ab HB4.out hM4 (by omega) hK (fun j e => e.1)⟩) ?start ?round ?done ?stop
  case start => exact ⟨lk1, HB4.out, HM4.out, Clo.refl _ _, fun y hy => by omega, fun _ h => h, Hr54.out, Keeps.refl _ _⟩
  case stop =>
    rintro D c x U O hD hDU hDO hOs hx ⟨rfl, pt', lk', hbU, hmU, hmono, haug, h5U, hkU⟩ hKd
    have c5 : U.cell? ⟨b5, 0, none⟩ = some (.bool true) := by rw [cell_row h5U]; rfl
    have HbU := Lib.hid hbU
    have HmU := Lib.hid hmU
    have HkU := Lib.hid hkU
    have HKd := Lib.hid hKd
    have Hmo := Lib.hid hmono
    have Hau := Lib.hid haug
    clear hmono haug
    clear hbU hmU hkU h5U
    gi_wp2_with fail
    refine ⟨by simp, .inl ⟨_, _, rfl, run_takeDeferred hKd, ?_⟩⟩
    have hp : Keeps (fun j => j = D) U (U.putObj D (.deferred none)) := Keeps.putObj _ _ _ rfl
    refine ⟨_, results_tmp rfl _ _ _, true, pt', lk', rfl, Brd.abide HB4.out HbU.out hp (fun j e => by omega), HmU.out.keep hp (fun e => by omega), keeps_old3 (keeps_old3 (HK4.out.mono (fun j _ e => .inr e)) (HkU.out.mono (fun j _ e => by rcases e with e | e | e; exact .inr (.inl e); exact .inr (.inr e); exact .inl (by omega)))) (hp.mono (fun j _ e => .inl (by omega))), Hmo.out, fun _ => Hau.out, fun h => by cases h⟩
  case done =>
    rintro D U O hD hDU hDO hOs ⟨lkx, hbU, hmU, hclo, hcl2, hmono, h5U, hkU⟩ hKd
    have c5 : U.cell? ⟨b5, 0, none⟩ = some (.bool false) := by rw [cell_row h5U]; rfl
    have HbU := Lib.hid hbU
    have HmU := Lib.hid hmU
    have HkU := Lib.hid hkU
    have HKd := Lib.hid hKd
    have Hmo := Lib.hid hmono
    have Hcl := Lib.hid hclo
    have Hc2 := Lib.hid hcl2
    clear hmono hclo hcl2
    clear hbU hmU hkU h5U
    gi_wp2_with fail
    refine ⟨by simp, .inl ⟨_, _, rfl, run_takeDeferred hKd, ?_⟩⟩
    have hp : Keeps (fun j => j = D) U (U.putObj D (.deferred none)) := Keeps.putObj _ _ _ rfl
    refine ⟨_, results_tmp rfl _ _ _, false, pt, lkx, rfl, Brd.abide HB4.out HbU.out hp (fun j e => by omega), HmU.out.keep hp (fun e => by omega), keeps_old3 (keeps_old3 (HK4.out.mono (fun j _ e => .inr e)) (HkU.out.mono (fun j _ e => by rcases e with e | e | e; exact .inr (.inl e); exact .inr (.inr e); exact .inl (by omega)))) (hp.mono (fun j _ e => .inl (by omega))), fun z hz => Hmo.out z (by rw [← Hlk1.out]; show (if _ then _ else _) = true; split; rfl; exact hz), fun h => (by cases h), fun _ => ⟨rfl, ?_, Hmo.out _ (by rw [← Hlk1.out]; show (if l * 12 + i = l * 12 + i then true else lk _) = true; rw [if_pos rfl])⟩⟩
    refine Clo.close Hcl.out (fun y hy e => ?_) (fun y e => ?_) (fun y e => ?_) (fun y e => ?_) (fun k hk h1 h2 => Hc2.out k hk h1 h2)
    · rw [← Hlk1.out] at e; simp only [kT] at e ⊢; rwa [if_neg (by omega)] at e
    · rw [← Hlk1.out]; simp only [kT] at e ⊢; split; rfl; exact e
    · rw [← Hlk1.out] at e; simp only [kS] at e ⊢
      by_cases h : y = i
      · exact .inr h
      · rw [if_neg (by omega)] at e; exact .inl e
    · rw [← Hlk1.out]; simp only [kS] at e ⊢; split; rfl; exact e
  case round =>
    intro lp x U O hx hl1 hl2 hr hO hI
    obtain ⟨lkx, hbU, hmU, hclo, hcl2, hmono, h5U, hkU⟩ := hI
    refine ⟨decide (eN zs l x = i) && op x, ⟨pt, op, hbU, fun he W2 hK => ?_, fun hne => ?_⟩, fun hq => ⟨lkx, hbU, hmU, hclo, fun y hy h1 h2 => ?_, hmono, h5U, hkU⟩, fun hq W2 hK2 => ?_⟩
    · rw [Hz.out.end_eq hx] at he
      have he2 : decide (eN zs l x = i) = true := decide_eq_true (by omega)
      refine (isOpen84 B sl sr A n cap zs A2 kn kc ks pt op (.map (some M)) x W2 (hbU.keep hK (fun e => e) (fun _ _ e => e) (fun _ _ e => e)) (by omega)).mono ?_
      rintro e V ⟨rfl, rfl⟩
      exact ⟨by rw [he2]; rfl, Below.refl _ _⟩
    · rw [Hz.out.end_eq hx] at hne
      rw [decide_eq_false (fun e => hne (by rw [e]))]; rfl
    · rcases (by omega : y < x ∨ y = x) with h3 | rfl
      · exact hcl2 y h3 h1 h2
      · rw [h1, decide_eq_true h2] at hq; cases hq
    · have hop : op x = true := by cases h : op x; rw [h] at hq; simp at hq; rfl
      have hei : eN zs l x = i := by rw [hop] at hq; simpa using hq
      have hlpW : lp < W2.heap.size := Nat.lt_of_lt_of_le hl2 hK2.size
      clear hbU hmU hclo hcl2 hmono h5U hkU hK2 hr hO hq
      obtain ⟨et, het⟩ : ∃ et, eN zs (1 - l) x = et := ⟨_, rfl⟩
      have het12 : et < 12 := by rw [← het]; exact Hz.out.lt hx
      obtain ⟨r, hr⟩ : ∃ r, 1 - l = r := ⟨_, rfl⟩
      have hrI : (1 : Int) - (l : Int) = (r : Int) := by omega
      have hr2 : r < 2 := by omega
      have hw1 : IntKind.i64.wrap (r : Int) = (r : Int) := IntWalk.i64_in _ (by omega)
      obtain ⟨hg, ha, hb⟩ := Hz.out.at hx
      have ixt : ∀ (W : World), (Instr.index 103 (.agg #[.int .i64 0, .int .i64 (eN zs 0 x : Int), .int .i64 1, .int .i64 (eN zs 1 x : Int)]) (.int .i64 (r : Int))).run Try.prog W = .ok (.agg #[.int .i64 (r : Int), .int .i64 (et : Int)]) W := by
        intro W
        rw [← het]
        rcases (by omega : l = 0 ∧ r = 1 ∨ l = 1 ∧ r = 0) with ⟨rfl, rfl⟩ | ⟨rfl, rfl⟩ <;> kernel_rfl
      intro mm
      simp only [nmE]
      gi_wp2_with fail
      refine ⟨Keeps.refl _ _, ?_⟩
      rintro w5 ⟨hk5, hs5, hr5⟩ ⟨lkx, hbU, hmU, hclo, hcl2, hmono, h5U, hkU⟩
      have z2 := (hkU.block _ (lt_of_block Hr24.out) (by omega)).trans Hr24.out
      have z3 := (hkU.block _ (lt_of_block Hr34.out) (by omega)).trans Hr34.out
      have c2 : w5.cell? ⟨w.heap.size, 0, none⟩ = some (.pointer (some ⟨B, 0, none⟩)) := by rw [cell_row z2]; rfl
      have c30 : w5.cell? ⟨w.heap.size + 1, 0, none⟩ = some (.int .i64 (l : Int)) := by rw [cell_row z3]; rfl
      have c31 : w5.cell? ⟨w.heap.size + 1, 1, none⟩ = some (.int .i64 (i : Int)) := by rw [cell_row z3]; rfl
      have ke := fun X hX => ends72 B sl sr A n cap zs A2 kn kc ks pt op (.map (some M)) x X hX hx
      rw [hg] at ke
      simp only at ke
      have HKe := Lib.hid ke
      have HbU := Lib.hid hbU
      have HmU := Lib.hid hmU
      have Hcl := Lib.hid hclo
      have Hc2 := Lib.hid hcl2
      have Hmo := Lib.hid hmono
      have H5U := Lib.hid h5U
      have HkU := Lib.hid hkU
      have Het := Lib.hid het
      have Hr := Lib.hid hr
      have Hei := Lib.hid hei
      have Hop := Lib.hid hop
      have Hg := Lib.hid hg
      have Hz2 := Lib.hid z2
      have Hz3 := Lib.hid z3
      clear ke hbU hmU hclo hcl2 hmono h5U hkU het hr hei hop hg hk5 hs5 hr5 z2 z3
      gi_wp2_with fail
      rename_i Q1 K1 hK1
      have HK1 := Lib.hid hK1
      clear hK1
      have REST : ∀ (V : World) (P : Nat), Keeps (fun _ => False) w5 V → w5.heap.size ≤ P → V.heap[P]? = some (.cells #[.int .i64 (r : Int), .int .i64 (et : Int)] 100 (0, 0)) → K1 { tmps := #[.pointer (some ⟨B, 0, none⟩), .agg #[.int .i64 (l : Int), .int .i64 (i : Int)], .pointer (some ⟨w.heap.size, 0, none⟩), .pointer (some ⟨w.heap.size + 1, 0, none⟩), .bool false, .pointer (some ⟨b5, 0, none⟩), .int .i64 (x : Int), .pointer (some ⟨P, 0, none⟩), undef, .pointer (some ⟨B, 0, none⟩), .pointer (some ⟨B, 0, none⟩), .pointer (some ⟨B, 68, none⟩), .map (some M), .agg #[.int .i64 (l : Int), .int .i64 (i : Int)], .pointer (some ⟨B, 0, none⟩), .agg #[.int .i64 (l : Int), .int .i64 (i : Int)], .pointer (some ⟨B, 0, none⟩), .func (.func 84) #[.pointer (some ⟨B, 0, none⟩)] #[], .func (.func 91) #[] #[.pointer (some ⟨w3.heap.size, 0, none⟩), .pointer (some ⟨w3.heap.size + 1, 0, none⟩), .pointer (some ⟨w3.heap.size + 2, 0, none⟩)], .int .i64 (x : Int), .pointer (some ⟨B, 0, none⟩), .int .i64 (x : Int), .agg #[.int .i64 0, .int .i64 (eN zs 0 x : Int), .int .i64 1, .int .i64 (eN zs 1 x : Int)], .pointer (some ⟨w.heap.size + 1, 0, none⟩), .int .i64 (l : Int), .int .i64 (r : Int), .agg #[.int .i64 (r : Int), .int .i64 (et : Int)], undef, undef, undef, undef, undef, undef, undef, undef, undef, undef, undef, undef, undef, undef, undef, undef, undef, undef, undef, undef, undef, undef, undef, undef, undef, undef, undef, undef, undef, undef], defers := [] } V := by
        intro V P hkV hP hrP
        have p0 : V.cell? ⟨P, 0, none⟩ = some (.int .i64 (r : Int)) := by rw [cell_row hrP]; rfl
        have p1 : V.cell? ⟨P, 1, none⟩ = some (.int .i64 (et : Int)) := by rw [cell_row hrP]; rfl
        have hbV := HbU.out.keep hkV (fun e => e) (fun _ _ e => e) (fun _ _ e => e)
        have hmV := HmU.out.keep hkV (fun e => e)
        have z2 := (hkV.block _ (lt_of_block Hz2.out) (fun e => e)).trans Hz2.out
        have z3 := (hkV.block _ (lt_of_block Hz3.out) (fun e => e)).trans Hz3.out
        have q2 : V.cell? ⟨w.heap.size, 0, none⟩ = some (.pointer (some ⟨B, 0, none⟩)) := by rw [cell_row z2]; rfl
        have qm := hbV.cm
        have HbV := Lib.hid hbV
        have HmV := Lib.hid hmV
        have HkV := Lib.hid hkV
        have HrP := Lib.hid hrP
        have Hz2V := Lib.hid z2
        have Hz3V := Lib.hid z3
        obtain ⟨vb, hvb⟩ : ∃ vb, lkx (r * 12 + et) = vb := ⟨_, rfl⟩
        have hlook : ∀ W', Keeps (fun _ => False) V W' → (Instr.lookup 85 (.map (some M)) (.agg #[.int .i64 (r : Int), .int .i64 (et : Int)]) false).run Try.prog W' = .ok (.bool vb) W' := fun W' h => by
          rw [← hvb]; exact (HmV.out.keep h (fun e => e)).look hr2 het12
        have Hvb := Lib.hid hvb
        clear hbV hmV hkV hrP z2 z3 c2 c30 c31 hvb
        refine HK1.out _ _ ?_
        dsimp only
        gi_wp2_with fail
        rename_i Q2 K2 hK2
        have HK2 := Lib.hid hK2
        clear hK2
        refine Code.wpIn_mono (Q := Exit.then K2 (fun _ _ _ => False)) (fun e a w h => by
          cases e with
          | normal => exact h
          | ret => exact h.elim
          | exit id => exact h.elim
          | goto l => exact h.elim
          | panic c => exact h.elim
          | outgrown => exact h.elim) ?_
        have hS0 : Keeps (fun _ => False) V V.drew := Keeps.of_new (drew_b _ _)
        refine region_R (z := 100) (S := fun W' => Keeps (fun _ => False) V W') (by kernel_rfl) ?_
        refine anyR_take (i := 0) (oi := { dst := some 27, op := Go.Op.load 61 (Go.Operand.tmp 2), type := 61, pos := "board.go:217", after := #[], guard := none }) (v := .pointer (some ⟨B, 0, none⟩)) rfl (by decide) (by kernel_rfl) (by kernel_rfl) (by kernel_rfl) (by kernel_rfl) (fun _ _ _ h => h) (Or.inl ⟨by rfl, by intro W' hSw; (try dsimp only at hSw); have y0 := (keep_cells hSw (lt_of_cell q2) (fun e => e) _).trans q2; go_simp⟩) hS0 ?_
        try simp only [Act.put, List.setIfInBounds_toArray, List.set_cons_zero, List.set_cons_succ]
        refine anyR_take (i := 1) (oi := { dst := some 28, op := Go.Op.nilCheck (Go.Operand.tmp 27), type := 0, pos := "board.go:217", after := #[{ on := 0, ground := Go.Ground.data }], guard := none }) (v := .pointer (some ⟨B, 0, none⟩)) rfl (by decide) (by kernel_rfl) (by kernel_rfl) (by kernel_rfl) (by kernel_rfl) (fun _ _ _ h => h) (Or.inl ⟨by rfl, by intro W' hSw; (try dsimp only at hSw); go_simp⟩) hS0 ?_
        try simp only [Act.put, List.setIfInBounds_toArray, List.set_cons_zero, List.set_cons_succ]
        refine anyR_take (i := 2) (oi := { dst := some 29, op := Go.Op.fieldAddr 91 (Go.Operand.tmp 28) 3, type := 0, pos := "board.go:217", after := #[{ on := 1, ground := Go.Ground.data }], guard := none }) (v := .pointer (some ⟨B, 68, none⟩)) rfl (by decide) (by kernel_rfl) (by kernel_rfl) (by kernel_rfl) (by kernel_rfl) (fun _ _ _ h => h) (Or.inl ⟨by rfl, by intro W' hSw; (try dsimp only at hSw); go_simp⟩) hS0 ?_
        try simp only [Act.put, List.setIfInBounds_toArray, List.set_cons_zero, List.set_cons_succ]
        refine anyR_take (i := 3) (oi := { dst := some 30, op := Go.Op.load 85 (Go.Operand.tmp 29), type := 85, pos := "board.go:217", after := #[{ on := 2, ground := Go.Ground.data }], guard := none }) (v := .map (some M)) rfl (by decide) (by kernel_rfl) (by kernel_rfl) (by kernel_rfl) (by kernel_rfl) (fun _ _ _ h => h) (Or.inl ⟨by rfl, by intro W' hSw; (try dsimp only at hSw); have y0 := (keep_cells hSw (lt_of_cell qm) (fun e => e) _).trans qm; go_simp⟩) hS0 ?_
        try simp only [Act.put, List.setIfInBounds_toArray, List.set_cons_zero, List.set_cons_succ]
        refine anyR_take (i := 4) (oi := { dst := some 31, op := Go.Op.load 100 (Go.Operand.tmp 7), type := 100, pos := "board.go:217", after := #[], guard := none }) (v := .agg #[.int .i64 (r : Int), .int .i64 (et : Int)]) rfl (by decide) (by kernel_rfl) (by kernel_rfl) (by kernel_rfl) (by kernel_rfl) (fun _ _ _ h => h) (Or.inl ⟨by rfl, by intro W' hSw; (try dsimp only at hSw); have y0 := (keep_cells hSw (lt_of_cell p0) (fun e => e) _).trans p0; have y1 := (keep_cells hSw (lt_of_cell p1) (fun e => e) _).trans p1; go_simp⟩) hS0 ?_
        try simp only [Act.put, List.setIfInBounds_toArray, List.set_cons_zero, List.set_cons_succ]
        refine anyR_take (i := 5) (oi := { dst := some 32, op := Go.Op.lookup 85 (Go.Operand.tmp 30) (Go.Operand.tmp 31) false, type := 4, pos := "board.go:217", after := #[{ on := 3, ground := Go.Ground.data }, { on := 4, ground := Go.Ground.data }], guard := none }) (v := .bool vb) rfl (by decide) (by kernel_rfl) (by kernel_rfl) (by kernel_rfl) (by kernel_rfl) (fun _ _ _ h => h) (Or.inl ⟨by rfl, by intro W' hSw; (try dsimp only at hSw); have y0 := hlook W' hSw; go_simp⟩) hS0 ?_
        try simp only [Act.put, List.setIfInBounds_toArray, List.set_cons_zero, List.set_cons_succ]
        refine anyR_done (by kernel_rfl) ?_ _
        obtain ⟨V2, hV2⟩ : ∃ V2, V.drew = V2 := ⟨_, rfl⟩
        rw [hV2] at hS0 ⊢
        have HkV2 := Lib.hid hS0
        refine HK2.out _ _ ?_
        clear HK2 hV2 hS0 hlook p0 p1 q2 qm
        rcases vb with _ | _
        · have hbm2 := HBM.out
          have hb2 := HbV.out.keep HkV2.out (fun e => e) (fun _ _ e => e) (fun _ _ e => e)
          have hm2 := HmV.out.keep HkV2.out (fun e => e)
          have z2 := (HkV2.out.block _ (lt_of_block Hz2V.out) (fun e => e)).trans Hz2V.out
          have z3 := (HkV2.out.block _ (lt_of_block Hz3V.out) (fun e => e)).trans Hz3V.out
          have zP := (HkV2.out.block _ (lt_of_block HrP.out) (fun e => e)).trans HrP.out
          have p0 : V2.cell? ⟨P, 0, none⟩ = some (.int .i64 (r : Int)) := by rw [cell_row zP]; rfl
          have p1 : V2.cell? ⟨P, 1, none⟩ = some (.int .i64 (et : Int)) := by rw [cell_row zP]; rfl
          have q2 : V2.cell? ⟨w.heap.size, 0, none⟩ = some (.pointer (some ⟨B, 0, none⟩)) := by rw [cell_row z2]; rfl
          have qm := hb2.cm
          obtain ⟨V3, hput, hm3, hk3⟩ := (show LM V2.drew M lkx from hm2.keep (Mut := fun _ => False) (Keeps.of_new (drew_b _ 1)) (fun e => e)).put hr2 het12
          have hk3' : Keeps (fun j => j = M) V2 V3 := (Keeps.of_new (drew_b V2 1)).trans hk3
          have hb3 := hb2.keepM hm2 hk3'
          have hs52 := (HkV.out.trans HkV2.out).size
          have hU5 := HkU.out.size
          have y2 := (hk3'.block _ (lt_of_block z2) (by omega)).trans z2
          have y3 := (hk3'.block _ (lt_of_block z3) (by omega)).trans z3
          have yP := (hk3'.block _ (lt_of_block zP) (by omega)).trans zP
          have Hb3 := Lib.hid hb3
          have Hm3 := Lib.hid hm3
          have Hk3 := Lib.hid ((HkV.out.trans HkV2.out).none.trans hk3')
          have Hy2 := Lib.hid y2
          have Hy3 := Lib.hid y3
          have HyP := Lib.hid yP
          have Hput := Lib.hid hput
          clear hb2 hm2 z2 z3 zP hput hm3 hk3 hk3' hb3 y2 y3 yP hs52
          gi_wp2_with fail
          rename_i Q3 K3 hK3
          have HK3 := Lib.hid hK3
          clear hK3
          refine Code.wpIn_mono (Q := Exit.then K3 (fun _ _ _ => False)) (fun e a w h => by
            cases e with
            | normal => exact h
            | ret => exact h.elim
            | exit id => exact h.elim
            | goto l => exact h.elim
            | panic c => exact h.elim
            | outgrown => exact h.elim) ?_
          have hS0 : Keeps (fun _ => False) V2 V2.drew := Keeps.of_new (drew_b _ _)
          refine region_R (z := 5) (S := fun W' => Keeps (fun _ => False) V2 W') (by kernel_rfl) ?_
          refine anyR_take (i := 0) (oi := { dst := some 33, op := Go.Op.load 61 (Go.Operand.tmp 2), type := 61, pos := "board.go:220", after := #[], guard := none }) (v := .pointer (some ⟨B, 0, none⟩)) rfl (by decide) (by kernel_rfl) (by kernel_rfl) (by kernel_rfl) (by kernel_rfl) (fun _ _ _ h => h) (Or.inl ⟨by rfl, by intro W' hSw; (try dsimp only at hSw); have y0 := (keep_cells hSw (lt_of_cell q2) (fun e => e) _).trans q2; go_simp⟩) hS0 ?_
          try simp only [Act.put, List.setIfInBounds_toArray, List.set_cons_zero, List.set_cons_succ]
          refine anyR_take (i := 1) (oi := { dst := some 34, op := Go.Op.nilCheck (Go.Operand.tmp 33), type := 0, pos := "board.go:220", after := #[{ on := 0, ground := Go.Ground.data }], guard := none }) (v := .pointer (some ⟨B, 0, none⟩)) rfl (by decide) (by kernel_rfl) (by kernel_rfl) (by kernel_rfl) (by kernel_rfl) (fun _ _ _ h => h) (Or.inl ⟨by rfl, by intro W' hSw; (try dsimp only at hSw); go_simp⟩) hS0 ?_
          try simp only [Act.put, List.setIfInBounds_toArray, List.set_cons_zero, List.set_cons_succ]
          refine anyR_take (i := 2) (oi := { dst := some 35, op := Go.Op.fieldAddr 91 (Go.Operand.tmp 34) 3, type := 0, pos := "board.go:220", after := #[{ on := 1, ground := Go.Ground.data }], guard := none }) (v := .pointer (some ⟨B, 68, none⟩)) rfl (by decide) (by kernel_rfl) (by kernel_rfl) (by kernel_rfl) (by kernel_rfl) (fun _ _ _ h => h) (Or.inl ⟨by rfl, by intro W' hSw; (try dsimp only at hSw); go_simp⟩) hS0 ?_
          try simp only [Act.put, List.setIfInBounds_toArray, List.set_cons_zero, List.set_cons_succ]
          refine anyR_take (i := 3) (oi := { dst := some 36, op := Go.Op.load 85 (Go.Operand.tmp 35), type := 85, pos := "board.go:220", after := #[{ on := 2, ground := Go.Ground.data }], guard := none }) (v := .map (some M)) rfl (by decide) (by kernel_rfl) (by kernel_rfl) (by kernel_rfl) (by kernel_rfl) (fun _ _ _ h => h) (Or.inl ⟨by rfl, by intro W' hSw; (try dsimp only at hSw); have y0 := (keep_cells hSw (lt_of_cell qm) (fun e => e) _).trans qm; go_simp⟩) hS0 ?_
          try simp only [Act.put, List.setIfInBounds_toArray, List.set_cons_zero, List.set_cons_succ]
          refine anyR_take (i := 4) (oi := { dst := some 37, op := Go.Op.load 100 (Go.Operand.tmp 7), type := 100, pos := "board.go:220", after := #[], guard := none }) (v := .agg #[.int .i64 (r : Int), .int .i64 (et : Int)]) rfl (by decide) (by kernel_rfl) (by kernel_rfl) (by kernel_rfl) (by kernel_rfl) (fun _ _ _ h => h) (Or.inl ⟨by rfl, by intro W' hSw; (try dsimp only at hSw); have y0 := (keep_cells hSw (lt_of_cell p0) (fun e => e) _).trans p0; have y1 := (keep_cells hSw (lt_of_cell p1) (fun e => e) _).trans p1; go_simp⟩) hS0 ?_
          try simp only [Act.put, List.setIfInBounds_toArray, List.set_cons_zero, List.set_cons_succ]
          refine anyR_one (i := 5) (by kernel_rfl) rfl (by rfl) ?_
          intro K hK
          have HKK := Lib.hid hK
          clear hK
          have hput := Hput.out
          go_simp
          refine HKK.out _ _ (fun h => absurd rfl h) ?_
          clear HKK K hput
          refine anyR_done (by kernel_rfl) ?_ _
          refine HK3.out _ _ ?_
          clear HK3 hS0 p0 p1 q2 qm Hput
          have p0 : V3.cell? ⟨P, 0, none⟩ = some (.int .i64 (r : Int)) := by rw [cell_row HyP.out]; rfl
          have p1 : V3.cell? ⟨P, 1, none⟩ = some (.int .i64 (et : Int)) := by rw [cell_row HyP.out]; rfl
          have q2 : V3.cell? ⟨w.heap.size, 0, none⟩ = some (.pointer (some ⟨B, 0, none⟩)) := by rw [cell_row Hy2.out]; rfl
          have kp := partner70 B sl sr A n cap zs A2 kn kc ks pt op (.map (some M)) r et V3 Hb3.out hr2 het12
          have hlj : kT lk l et = false := by
            unfold kT; rw [Hr.out]
            cases e : lk (r * 12 + et)
            · rfl
            · have h1 := Hmo.out (r * 12 + et) (by rw [← Hlk1.out]; show (if _ then _ else _) = true; split; rfl; exact e)
              rw [Hvb.out] at h1; cases h1
          have hmt : mT pt l et = pt (r * 12 + et) := by unfold mT; rw [Hr.out]
          obtain ⟨lk2, hlk2⟩ : ∃ lk2 : Nat → Bool, (fun x => if x = r * 12 + et then true else lkx x) = lk2 := ⟨_, rfl⟩
          rw [hlk2] at Hm3
          have Hlk2 := Lib.hid hlk2
          have HKp := Lib.hid kp
          have Hlj := Lib.hid hlj
          clear kp hlj hlk2
          gi_wp2_with fail
          refine ⟨trivial, wide_d, CallsIn.inRound lp ((callsIn_wide.2 HKp.out).mono ?_)⟩
          rintro e V4 ⟨rfl, hb4⟩
          have hB4 := Hb3.out.below hb4 (Nat.le_refl _)
          have hM4 := Hm3.out.below hb4
          have hK4 := Hk3.out.trans (Keeps.of_new hb4)
          have hy2 := (hb4.block _ (lt_of_block Hy2.out)).trans Hy2.out
          have hy3 := (hb4.block _ (lt_of_block Hy3.out)).trans Hy3.out
          have HB4' := Lib.hid hB4
          have HM4' := Lib.hid hM4
          have HK4' := Lib.hid hK4
          have q2 : V4.cell? ⟨w.heap.size, 0, none⟩ = some (.pointer (some ⟨B, 0, none⟩)) := by rw [cell_row hy2]; rfl
          have q3 : V4.cell? ⟨w.heap.size + 1, 0, none⟩ = some (.int .i64 (l : Int)) := by rw [cell_row hy3]; rfl
          clear hB4 hM4 hK4 hy2 hy3 hb4 HKp p0 p1
          rcases Hpre.out et het12 Hlj.out with hm1 | ⟨q, hq, hmq, hgq, hpq⟩
          · rw [hmt] at hm1
            rw [hm1]
            have Hm1 := Lib.hid hm1
            clear hm1
            gi_wp2_with fail
            rename_i Q4 K4 hK4
            have HK4 := Lib.hid hK4
            clear hK4
            refine Code.wpIn_mono (Q := Exit.then K4 (fun _ _ _ => False)) (fun e a w h => by
              cases e with
              | normal => exact h
              | ret => exact h.elim
              | exit id => exact h.elim
              | goto l => exact h.elim
              | panic c => exact h.elim
              | outgrown => exact h.elim) ?_
            have hS0 : Keeps (fun _ => False) V4 V4.drew := Keeps.of_new (drew_b _ _)
            refine region_R (z := 100) (S := fun W' => Keeps (fun _ => False) V4 W') (by kernel_rfl) ?_
            refine anyR_take (i := 0) (oi := { dst := some 41, op := Go.Op.move (Go.Operand.tmp 8), type := 3, pos := "board.go:222", after := #[], guard := none }) (v := .int .i64 (-1)) rfl (by decide) (by kernel_rfl) (by kernel_rfl) (by kernel_rfl) (by kernel_rfl) (fun _ _ _ h => h) (Or.inl ⟨by rfl, by intro W' hSw; (try dsimp only at hSw); go_simp⟩) hS0 ?_
            try simp only [Act.put, List.setIfInBounds_toArray, List.set_cons_zero, List.set_cons_succ]
            refine anyR_take (i := 1) (oi := { dst := some 42, op := Go.Op.binOp Go.BinOp.eql 3 (Go.Operand.tmp 41) (Go.Operand.const (Go.Value.int Go.IntKind.i64 (-1))) 3, type := 4, pos := "board.go:222", after := #[{ on := 0, ground := Go.Ground.data }], guard := none }) (v := .bool true) rfl (by decide) (by kernel_rfl) (by kernel_rfl) (by kernel_rfl) (by kernel_rfl) (fun _ _ _ h => h) (Or.inl ⟨by rfl, by intro W' hSw; (try dsimp only at hSw); go_simp⟩) hS0 ?_
            try simp only [Act.put, List.setIfInBounds_toArray, List.set_cons_zero, List.set_cons_succ]
            refine anyR_take (i := 2) (oi := { dst := some 43, op := Go.Op.move (Go.Operand.tmp 42), type := 4, pos := "board.go:222", after := #[{ on := 1, ground := Go.Ground.data }], guard := none }) (v := .bool true) rfl (by decide) (by kernel_rfl) (by kernel_rfl) (by kernel_rfl) (by kernel_rfl) (fun _ _ _ h => h) (Or.inl ⟨by rfl, by intro W' hSw; (try dsimp only at hSw); go_simp⟩) hS0 ?_
            try simp only [Act.put, List.setIfInBounds_toArray, List.set_cons_zero, List.set_cons_succ]
            refine anyR_take (i := 3) (oi := { dst := some 44, op := Go.Op.load 61 (Go.Operand.tmp 2), type := 61, pos := "board.go:222", after := #[{ on := 2, ground := Go.Ground.guard }], guard := some (2, false) }) (v := undef) rfl (by decide) (by kernel_rfl) (by kernel_rfl) (by kernel_rfl) (by kernel_rfl) (fun _ _ _ h => h) (Or.inr ⟨by rfl, rfl⟩) hS0 ?_
            try simp only [Act.put, List.setIfInBounds_toArray, List.set_cons_zero, List.set_cons_succ]
            refine anyR_take (i := 4) (oi := { dst := some 45, op := Go.Op.load 61 (Go.Operand.tmp 2), type := 61, pos := "board.go:222", after := #[{ on := 2, ground := Go.Ground.guard }], guard := some (2, false) }) (v := undef) rfl (by decide) (by kernel_rfl) (by kernel_rfl) (by kernel_rfl) (by kernel_rfl) (fun _ _ _ h => h) (Or.inr ⟨by rfl, rfl⟩) hS0 ?_
            try simp only [Act.put, List.setIfInBounds_toArray, List.set_cons_zero, List.set_cons_succ]
            refine anyR_take (i := 5) (oi := { dst := some 46, op := Go.Op.move (Go.Operand.tmp 8), type := 3, pos := "board.go:222", after := #[{ on := 2, ground := Go.Ground.guard }], guard := some (2, false) }) (v := undef) rfl (by decide) (by kernel_rfl) (by kernel_rfl) (by kernel_rfl) (by kernel_rfl) (fun _ _ _ h => h) (Or.inr ⟨by rfl, rfl⟩) hS0 ?_
            try simp only [Act.put, List.setIfInBounds_toArray, List.set_cons_zero, List.set_cons_succ]
            refine anyR_take (i := 6) (oi := { dst := some 47, op := Go.Op.call { callee := Go.Callee.value (Go.Operand.func 72), args := #[Go.Operand.tmp 45, Go.Operand.tmp 46], argTypes := #[61, 3] }, type := 103, pos := "board.go:222", after := #[{ on := 4, ground := Go.Ground.data }, { on := 5, ground := Go.Ground.data }, { on := 2, ground := Go.Ground.chain }, { on := 2, ground := Go.Ground.guard }], guard := some (2, false) }) (v := undef) rfl (by decide) (by kernel_rfl) (by kernel_rfl) (by kernel_rfl) (by kernel_rfl) (fun _ _ _ h => h) (Or.inr ⟨by rfl, rfl⟩) hS0 ?_
            try simp only [Act.put, List.setIfInBounds_toArray, List.set_cons_zero, List.set_cons_succ]
            refine anyR_take (i := 7) (oi := { dst := some 48, op := Go.Op.fieldAddr 100 (Go.Operand.tmp 3) 0, type := 0, pos := "board.go:222", after := #[{ on := 2, ground := Go.Ground.guard }], guard := some (2, false) }) (v := undef) rfl (by decide) (by kernel_rfl) (by kernel_rfl) (by kernel_rfl) (by kernel_rfl) (fun _ _ _ h => h) (Or.inr ⟨by rfl, rfl⟩) hS0 ?_
            try simp only [Act.put, List.setIfInBounds_toArray, List.set_cons_zero, List.set_cons_succ]
            refine anyR_take (i := 8) (oi := { dst := some 49, op := Go.Op.load 3 (Go.Operand.tmp 48), type := 3, pos := "board.go:222", after := #[{ on := 7, ground := Go.Ground.data }, { on := 2, ground := Go.Ground.guard }], guard := some (2, false) }) (v := undef) rfl (by decide) (by kernel_rfl) (by kernel_rfl) (by kernel_rfl) (by kernel_rfl) (fun _ _ _ h => h) (Or.inr ⟨by rfl, rfl⟩) hS0 ?_
            try simp only [Act.put, List.setIfInBounds_toArray, List.set_cons_zero, List.set_cons_succ]
            refine anyR_take (i := 9) (oi := { dst := some 50, op := Go.Op.index 103 (Go.Operand.tmp 47) (Go.Operand.tmp 49), type := 100, pos := "board.go:222", after := #[{ on := 6, ground := Go.Ground.data }, { on := 8, ground := Go.Ground.data }, { on := 2, ground := Go.Ground.guard }], guard := some (2, false) }) (v := undef) rfl (by decide) (by kernel_rfl) (by kernel_rfl) (by kernel_rfl) (by kernel_rfl) (fun _ _ _ h => h) (Or.inr ⟨by rfl, rfl⟩) hS0 ?_
            try simp only [Act.put, List.setIfInBounds_toArray, List.set_cons_zero, List.set_cons_succ]
            refine anyR_take (i := 10) (oi := { dst := some 51, op := Go.Op.call { callee := Go.Callee.value (Go.Operand.func 71), args := #[Go.Operand.tmp 44, Go.Operand.tmp 50], argTypes := #[61, 100] }, type := 4, pos := "board.go:222", after := #[{ on := 3, ground := Go.Ground.data }, { on := 9, ground := Go.Ground.data }, { on := 6, ground := Go.Ground.chain }, { on := 2, ground := Go.Ground.guard }], guard := some (2, false) }) (v := undef) rfl (by decide) (by kernel_rfl) (by kernel_rfl) (by kernel_rfl) (by kernel_rfl) (fun _ _ _ h => h) (Or.inr ⟨by rfl, rfl⟩) hS0 ?_
            try simp only [Act.put, List.setIfInBounds_toArray, List.set_cons_zero, List.set_cons_succ]
            refine anyR_take (i := 11) (oi := { dst := some 52, op := Go.Op.pick (Go.Operand.tmp 43) (Go.Operand.const (Go.Value.bool true)) (Go.Operand.tmp 51), type := 4, pos := "board.go:222", after := #[{ on := 2, ground := Go.Ground.data }, { on := 10, ground := Go.Ground.data }], guard := none }) (v := .bool true) rfl (by decide) (by kernel_rfl) (by kernel_rfl) (by kernel_rfl) (by kernel_rfl) (fun _ _ _ h => h) (Or.inl ⟨by rfl, by intro W' hSw; (try dsimp only at hSw); go_simp⟩) hS0 ?_
            try simp only [Act.put, List.setIfInBounds_toArray, List.set_cons_zero, List.set_cons_succ]
            refine anyR_done (by kernel_rfl) ?_ _
            obtain ⟨VX, hVX⟩ : ∃ VX, V4.drew = VX := ⟨_, rfl⟩
            rw [hVX] at hS0 ⊢
            refine HK4.out _ _ ?_
            have KX : Keeps (fun j => j = B ∨ j = M ∨ j = b5) w5 VX := (HK4'.out.mono (fun j _ e => .inr (.inl e))).trans hS0.none
            have HBX := HB4'.out.keep hS0 (fun e => e) (fun _ _ e => e) (fun _ _ e => e)
            have hmX := HM4'.out.keep hS0 (fun e => e)
            have h5X := (hS0.block _ (lt_of_block ((HK4'.out.block _ (lt_of_block H5U.out) (by omega)).trans H5U.out)) (fun e => e)).trans ((HK4'.out.block _ (lt_of_block H5U.out) (by omega)).trans H5U.out)
            have hmoX : ∀ z, lk z = true → lk2 z = true := fun z hz => by
              rw [← Hlk2.out]; show (if _ then _ else _) = true; split; rfl
              exact Hmo.out z (by rw [← Hlk1.out]; show (if _ then _ else _) = true; split; rfl; exact hz)
            have haug : AugP n zs op l i lk pt (prP pt (eN zs 0 x) (eN zs 1 x) x 2) := aug_new Hz.out hx hl (by
              rw [Hei.out, Het.out]
              exact Aug.base (fun k hk => Hz.out.lt hk) Hpre.out Himg.out hx Hop.out Hei.out Het.out het12 Hlj.out (by rw [hmt]; exact Hm1.out))
            clear HK4 hVX hS0 q2 q3
            have y5 := h5X
            have hp := pair85 B sl sr A n cap zs A2 kn kc ks pt op (.map (some M)) x (eN zs 0 x) (eN zs 1 x) VX HBX hx Hg.out ha hb
            have HHp := Lib.hid hp
            have HKX := Lib.hid KX
            have HMX := Lib.hid hmX
            have HAug := Lib.hid haug
            have HmoX := Lib.hid hmoX
            have HY5 := Lib.hid y5
            have yX2 := (KX.block _ (lt_of_block Hz2.out) (fun e => by omega)).trans Hz2.out
            have HyX2 := Lib.hid yX2
            have qX : VX.cell? ⟨w.heap.size, 0, none⟩ = some (.pointer (some ⟨B, 0, none⟩)) := by rw [cell_row yX2]; rfl
            clear hp KX HBX hmX haug y5 h5X hmoX yX2
            gi_wp2_with fail
            refine ⟨trivial, wide_d, CallsIn.inRound lp ((callsIn_wide.2 HHp.out).mono ?_)⟩
            rintro e V9 ⟨rfl, hb9, hk9⟩
            have hr59 := (hk9.block _ (lt_of_block HY5.out) (by omega)).trans HY5.out
            have s0 : V9.cell? ⟨b5, 0, none⟩ = some (.bool false) := by rw [cell_row hr59]; rfl
            have s1 : V9.frozen? ⟨b5, 0, none⟩ = false := frozen_row hr59
            have hrs := set_same 0 (.bool true) hr59
            have hks := keeps_setCell V9 b5 0 (.bool true)
            have hb10 := Brd.abide Hbd.out hb9 hks (fun j e => by omega)
            have HB10 := Lib.hid hb10
            have HRS := Lib.hid hrs
            have HK9 := Lib.hid ((HKX.out.trans (hk9.mono (fun j _ e => .inl e))).trans (hks.mono (fun j _ e => .inr (.inr e))))
            have HM10 := Lib.hid ((HMX.out.keep hk9 (fun e => by omega)).keep hks (fun e => by omega))
            clear HHp qX hb9 hk9 hr59 hrs hks hb10
            gi_wp2_with fail
            exact ⟨O, Grow.refl _ _ _, HK9.out.mono (fun j _ e => .inl e), rfl, _, _, HB10.out, HM10.out, HmoX.out, HAug.out, HRS.out, HkU.out.trans HK9.out⟩
          · rw [hmt] at hmq
            rw [hmq]
            have d0 : ((q : Int) == -1) = false := by rw [beq_eq_false_iff_ne]; omega
            have hq0 : (0 : Int) ≤ (q : Int) := by omega
            obtain ⟨hgq2, haq, hbq⟩ := Hz.out.at hq
            have ixl : ∀ (W : World), (Instr.index 103 (.agg #[.int .i64 0, .int .i64 (eN zs 0 q : Int), .int .i64 1, .int .i64 (eN zs 1 q : Int)]) (.int .i64 (l : Int))).run Try.prog W = .ok (.agg #[.int .i64 (l : Int), .int .i64 (eN zs l q : Int)]) W := by
              intro W
              rcases (by omega : l = 0 ∨ l = 1) with rfl | rfl <;> kernel_rfl
            have k72 := fun X hX => ends72 B sl sr A n cap zs A2 kn kc ks pt op (.map (some M)) q X hX hq
            rw [hgq2] at k72
            simp only at k72
            have HK72 := Lib.hid k72
            have hkT2 : kT lk2 l et = true := by unfold kT; rw [Hr.out, ← Hlk2.out]; show (if r * 12 + et = r * 12 + et then true else lkx _) = true; rw [if_pos rfl]
            have hmo2 : ∀ z, lk z = true → lk2 z = true := fun z hz => by
              rw [← Hlk2.out]; show (if _ then _ else _) = true; split; rfl
              exact Hmo.out z (by rw [← Hlk1.out]; show (if _ then _ else _) = true; split; rfl; exact hz)
            have hmoT : ∀ j, kT lk2 l j = false → kT lk l j = false := fun j h => by
              cases e : kT lk l j
              · rfl
              · have := hmo2 _ e; unfold kT at h; rw [this] at h; cases h
            have hnim : ¬ Img n (eN zs l) (kT lk2 l) (mT pt l) (eN zs l q) := by
              rintro ⟨j2, hj2, hlj2, k2, hk2, hm2, hf2⟩
              have := (Hpre.out.inj hj2 het12 (hmoT j2 hlj2) Hlj.out hm2 (by rw [hmt]; exact hmq) hf2).1
              subst this
              rw [hkT2] at hlj2; cases hlj2
            have kih := fun X hX hX2 => HI.out (unl l lk2) (Nat.lt_of_lt_of_le (unl_lt hmo2 het12 Hlj.out hkT2) Hu.out) lk2 (eN zs l q) X (Nat.le_refl _) (Hz.out.lt hq) hX hX2 (Hpre.out.mono hmoT) hnim
            have HKih := Lib.hid kih
            have Hmq := Lib.hid hmq
            have HkT2 := Lib.hid hkT2
            have Hmo2 := Lib.hid hmo2
            have HmoT := Lib.hid hmoT
            have Hgq := Lib.hid hgq
            have h54 := (HK4'.out.block _ (lt_of_block H5U.out) (by omega)).trans H5U.out
            have H54 := Lib.hid h54
            clear hmq k72 hkT2 hmo2 hmoT hnim kih hgq hgq2 hpq h54
            gi_wp2_with fail
            rename_i Q4 K4 hK4
            have HK4 := Lib.hid hK4
            clear hK4
            refine Code.wpIn_mono (Q := Exit.then K4 (fun _ _ _ => False)) (fun e a w h => by
              cases e with
              | normal => exact h
              | ret => exact h.elim
              | exit id => exact h.elim
              | goto l => exact h.elim
              | panic c => exact h.elim
              | outgrown => exact h.elim) ?_
            have hS0 : Keeps (fun j => j = B ∨ j = M) V4 V4.drew := Keeps.of_new (drew_b _ _)
            refine region_R (z := 100) (S := fun W' => Keeps (fun j => j = B ∨ j = M) V4 W') (by kernel_rfl) ?_
            refine anyR_take (i := 0) (oi := { dst := some 41, op := Go.Op.move (Go.Operand.tmp 8), type := 3, pos := "board.go:222", after := #[], guard := none }) (v := .int .i64 (q : Int)) rfl (by decide) (by kernel_rfl) (by kernel_rfl) (by kernel_rfl) (by kernel_rfl) (fun _ _ _ h => h) (Or.inl ⟨by rfl, by intro W' hSw; (try dsimp only at hSw); go_simp⟩) hS0 ?_
            try simp only [Act.put, List.setIfInBounds_toArray, List.set_cons_zero, List.set_cons_succ]
            refine anyR_take (i := 1) (oi := { dst := some 42, op := Go.Op.binOp Go.BinOp.eql 3 (Go.Operand.tmp 41) (Go.Operand.const (Go.Value.int Go.IntKind.i64 (-1))) 3, type := 4, pos := "board.go:222", after := #[{ on := 0, ground := Go.Ground.data }], guard := none }) (v := .bool false) rfl (by decide) (by kernel_rfl) (by kernel_rfl) (by kernel_rfl) (by kernel_rfl) (fun _ _ _ h => h) (Or.inl ⟨by rfl, by intro W' hSw; (try dsimp only at hSw); go_simp⟩) hS0 ?_
            try simp only [Act.put, List.setIfInBounds_toArray, List.set_cons_zero, List.set_cons_succ]
            refine anyR_take (i := 2) (oi := { dst := some 43, op := Go.Op.move (Go.Operand.tmp 42), type := 4, pos := "board.go:222", after := #[{ on := 1, ground := Go.Ground.data }], guard := none }) (v := .bool false) rfl (by decide) (by kernel_rfl) (by kernel_rfl) (by kernel_rfl) (by kernel_rfl) (fun _ _ _ h => h) (Or.inl ⟨by rfl, by intro W' hSw; (try dsimp only at hSw); go_simp⟩) hS0 ?_
            try simp only [Act.put, List.setIfInBounds_toArray, List.set_cons_zero, List.set_cons_succ]
            refine anyR_take (i := 3) (oi := { dst := some 44, op := Go.Op.load 61 (Go.Operand.tmp 2), type := 61, pos := "board.go:222", after := #[{ on := 2, ground := Go.Ground.guard }], guard := some (2, false) }) (v := .pointer (some ⟨B, 0, none⟩)) rfl (by decide) (by kernel_rfl) (by kernel_rfl) (by kernel_rfl) (by kernel_rfl) (fun _ _ _ h => h) (Or.inl ⟨by rfl, by intro W' hSw; (try dsimp only at hSw); have y0 := (keep_cells hSw (lt_of_cell q2) (by omega) _).trans q2; go_simp⟩) hS0 ?_
            try simp only [Act.put, List.setIfInBounds_toArray, List.set_cons_zero, List.set_cons_succ]
            refine anyR_take (i := 4) (oi := { dst := some 45, op := Go.Op.load 61 (Go.Operand.tmp 2), type := 61, pos := "board.go:222", after := #[{ on := 2, ground := Go.Ground.guard }], guard := some (2, false) }) (v := .pointer (some ⟨B, 0, none⟩)) rfl (by decide) (by kernel_rfl) (by kernel_rfl) (by kernel_rfl) (by kernel_rfl) (fun _ _ _ h => h) (Or.inl ⟨by rfl, by intro W' hSw; (try dsimp only at hSw); have y0 := (keep_cells hSw (lt_of_cell q2) (by omega) _).trans q2; go_simp⟩) hS0 ?_
            try simp only [Act.put, List.setIfInBounds_toArray, List.set_cons_zero, List.set_cons_succ]
            refine anyR_take (i := 5) (oi := { dst := some 46, op := Go.Op.move (Go.Operand.tmp 8), type := 3, pos := "board.go:222", after := #[{ on := 2, ground := Go.Ground.guard }], guard := some (2, false) }) (v := .int .i64 (q : Int)) rfl (by decide) (by kernel_rfl) (by kernel_rfl) (by kernel_rfl) (by kernel_rfl) (fun _ _ _ h => h) (Or.inl ⟨by rfl, by intro W' hSw; (try dsimp only at hSw); go_simp⟩) hS0 ?_
            try simp only [Act.put, List.setIfInBounds_toArray, List.set_cons_zero, List.set_cons_succ]
            refine anyR_take (i := 7) (oi := { dst := some 48, op := Go.Op.fieldAddr 100 (Go.Operand.tmp 3) 0, type := 0, pos := "board.go:222", after := #[{ on := 2, ground := Go.Ground.guard }], guard := some (2, false) }) (v := .pointer (some ⟨w.heap.size + 1, 0, none⟩)) rfl (by decide) (by kernel_rfl) (by kernel_rfl) (by kernel_rfl) (by kernel_rfl) (fun _ _ _ h => h) (Or.inl ⟨by rfl, by intro W' hSw; (try dsimp only at hSw); go_simp⟩) hS0 ?_
            try simp only [Act.put, List.setIfInBounds_toArray, List.set_cons_zero, List.set_cons_succ]
            refine anyR_take (i := 8) (oi := { dst := some 49, op := Go.Op.load 3 (Go.Operand.tmp 48), type := 3, pos := "board.go:222", after := #[{ on := 7, ground := Go.Ground.data }, { on := 2, ground := Go.Ground.guard }], guard := some (2, false) }) (v := .int .i64 (l : Int)) rfl (by decide) (by kernel_rfl) (by kernel_rfl) (by kernel_rfl) (by kernel_rfl) (fun _ _ _ h => h) (Or.inl ⟨by rfl, by intro W' hSw; (try dsimp only at hSw); have y0 := (keep_cells hSw (lt_of_cell q3) (by omega) _).trans q3; go_simp⟩) hS0 ?_
            try simp only [Act.put, List.setIfInBounds_toArray, List.set_cons_zero, List.set_cons_succ]
            obtain ⟨X4, hX4⟩ : ∃ X4, V4.drew = X4 := ⟨_, rfl⟩
            have hkX4 : Keeps (fun _ => False) V4 X4 := by rw [← hX4]; exact Keeps.of_new (drew_b _ _)
            rw [hX4]
            clear hX4 hS0
            refine anyR_one (i := 6) (by kernel_rfl) rfl (by rfl) ?_
            intro K hK
            have HKK := Lib.hid hK
            clear hK
            gi_wp2_with fail
            refine ⟨trivial, wide_d, CallsIn.inRound lp ((callsIn_wide.2 (HK72.out X4 (HB4'.out.keep hkX4 (fun e => e) (fun _ _ e => e) (fun _ _ e => e)))).mono ?_)⟩
            rintro e X5 ⟨rfl, hb5X⟩
            have hkX5 : Keeps (fun _ => False) V4 X5 := hkX4.trans (Keeps.of_new hb5X)
            have hS5 : Keeps (fun j => j = B ∨ j = M) V4 X5 := hkX5.none
            refine HKK.out _ _ (fun _ _ => hS5) ?_
            clear HKK K hb5X
            try simp only [Act.put, List.setIfInBounds_toArray, List.set_cons_zero, List.set_cons_succ]
            refine anyR_take (i := 9) (oi := { dst := some 50, op := Go.Op.index 103 (Go.Operand.tmp 47) (Go.Operand.tmp 49), type := 100, pos := "board.go:222", after := #[{ on := 6, ground := Go.Ground.data }, { on := 8, ground := Go.Ground.data }, { on := 2, ground := Go.Ground.guard }], guard := some (2, false) }) (v := .agg #[.int .i64 (l : Int), .int .i64 (eN zs l q : Int)]) rfl (by decide) (by kernel_rfl) (by kernel_rfl) (by kernel_rfl) (by kernel_rfl) (fun _ _ _ h => h) (Or.inl ⟨by rfl, by intro W' hSw; (try dsimp only at hSw); have y0 := ixl W'; go_simp⟩) hS5 ?_
            try simp only [Act.put, List.setIfInBounds_toArray, List.set_cons_zero, List.set_cons_succ]
            refine anyR_one (i := 10) (by kernel_rfl) rfl (by rfl) ?_
            intro K hK
            have HKK := Lib.hid hK
            clear hK
            gi_wp2_with fail
            refine ⟨trivial, wide_d, CallsIn.inRound lp ((callsIn_wide.2 (HKih.out X5 (HB4'.out.keep hkX5 (fun e => e) (fun _ _ e => e) (fun _ _ e => e)) (HM4'.out.keep hkX5 (fun e => e)))).mono ?_)⟩
            rintro e VX ⟨rr, pt1, lk3, rfl, HBX, hmX, hk6, hmo3, hsuc, hfail⟩
            have hS6 : Keeps (fun j => j = B ∨ j = M) V4 VX := hS5.trans hk6
            refine HKK.out _ _ (fun _ _ => hS6) ?_
            clear HKK K hk6 hS5 hkX5
            try simp only [Act.put, List.setIfInBounds_toArray, List.set_cons_zero, List.set_cons_succ]
            have KX : Keeps (fun j => j = B ∨ j = M ∨ j = b5) w5 VX := (HK4'.out.mono (fun j _ e => .inr (.inl e))).trans (hS6.mono (fun j _ e => by rcases e with e | e; exact .inl e; exact .inr (.inl e)))
            have h5X := (hS6.block _ (lt_of_block H54.out) (by omega)).trans H54.out
            have hmoX : ∀ z, lk z = true → lk3 z = true := fun z hz => hmo3 z (Hmo2.out z hz)
            rcases rr with _ | _
            · skip
              refine anyR_take (i := 11) (oi := { dst := some 52, op := Go.Op.pick (Go.Operand.tmp 43) (Go.Operand.const (Go.Value.bool true)) (Go.Operand.tmp 51), type := 4, pos := "board.go:222", after := #[{ on := 2, ground := Go.Ground.data }, { on := 10, ground := Go.Ground.data }], guard := none }) (v := .bool false) rfl (by decide) (by kernel_rfl) (by kernel_rfl) (by kernel_rfl) (by kernel_rfl) (fun _ _ _ h => h) (Or.inl ⟨by rfl, by intro W' hSw; (try dsimp only at hSw); go_simp⟩) hS6 ?_
              try simp only [Act.put, List.setIfInBounds_toArray, List.set_cons_zero, List.set_cons_succ]
              refine anyR_done (by kernel_rfl) ?_ _
              refine HK4.out _ _ ?_
              obtain ⟨rfl, hclf, hl3⟩ := hfail rfl
              have HclF := Lib.hid hclf
              have Hl3 := Lib.hid hl3
              have HBX' := Lib.hid HBX
              have HmX := Lib.hid hmX
              have HKX := Lib.hid KX
              have H5X := Lib.hid h5X
              have Hmo3 := Lib.hid hmo3
              clear HK4 hS6 q2 q3 hclf hl3 HBX hmX KX h5X hmo3 hmoX hsuc hfail
              gi_wp2_with fail
              refine ⟨O, Grow.refl _ _ _, HKX.out.mono (fun j _ e => .inl e), lk3, HBX'.out, HmX.out, Clo.trans Hcl.out (Clo.link HclF.out (j := et) (q := q) (fun y hy e => ?_) (fun y e => ?_) (fun y e => ?_) (fun y e => ?_) hq (by rw [hmt]; exact Hmq.out) Hl3.out), fun y hy h1 h2 => ?_, fun z hz => Hmo3.out z ?_, H5X.out, HkU.out.trans HKX.out⟩
              · rw [← Hlk2.out] at e; simp only [kS] at e ⊢; rwa [if_neg (by omega)] at e
              · rw [← Hlk2.out]; simp only [kS] at e ⊢; split; rfl; exact e
              · rw [← Hlk2.out] at e; simp only [kT] at e ⊢
                by_cases h : y = et
                · exact .inr h
                · rw [if_neg (by omega)] at e; exact .inl e
              · rw [← Hlk2.out]; simp only [kT] at e ⊢; split; rfl; exact e
              · rcases (by omega : y < x ∨ y = x) with h3 | rfl
                · have := Hc2.out y h3 h1 h2
                  refine Hmo3.out _ ?_
                  rw [← Hlk2.out]; show (if _ then _ else _) = true; split; rfl; exact this
                · rw [Het.out]; exact Hmo3.out _ HkT2.out
              · rw [← Hlk2.out]; show (if _ then _ else _) = true; split; rfl; exact Hmo.out z hz
            · skip
              refine anyR_take (i := 11) (oi := { dst := some 52, op := Go.Op.pick (Go.Operand.tmp 43) (Go.Operand.const (Go.Value.bool true)) (Go.Operand.tmp 51), type := 4, pos := "board.go:222", after := #[{ on := 2, ground := Go.Ground.data }, { on := 10, ground := Go.Ground.data }], guard := none }) (v := .bool true) rfl (by decide) (by kernel_rfl) (by kernel_rfl) (by kernel_rfl) (by kernel_rfl) (fun _ _ _ h => h) (Or.inl ⟨by rfl, by intro W' hSw; (try dsimp only at hSw); go_simp⟩) hS6 ?_
              try simp only [Act.put, List.setIfInBounds_toArray, List.set_cons_zero, List.set_cons_succ]
              refine anyR_done (by kernel_rfl) ?_ _
              refine HK4.out _ _ ?_
              have haug : AugP n zs op l i lk pt (prP pt1 (eN zs 0 x) (eN zs 1 x) x 2) := aug_new Hz.out hx hl (by
                rw [Hei.out, Het.out]
                exact Aug.step Hpre.out Himg.out hx Hop.out Hei.out Het.out het12 hi Hlj.out hq (by rw [hmt]; exact Hmq.out) (fun j h => Hmo2.out _ h) HkT2.out (hsuc rfl) (fun k hk => Hz.out.lt hk))
              clear HK4 hS6 q2 q3 hsuc hfail hmo3
              have y5 := h5X
              have hp := pair85 B sl sr A n cap zs A2 kn kc ks pt1 op (.map (some M)) x (eN zs 0 x) (eN zs 1 x) VX HBX hx Hg.out ha hb
              have HHp := Lib.hid hp
              have HKX := Lib.hid KX
              have HMX := Lib.hid hmX
              have HAug := Lib.hid haug
              have HmoX := Lib.hid hmoX
              have HY5 := Lib.hid y5
              have yX2 := (KX.block _ (lt_of_block Hz2.out) (fun e => by omega)).trans Hz2.out
              have HyX2 := Lib.hid yX2
              have qX : VX.cell? ⟨w.heap.size, 0, none⟩ = some (.pointer (some ⟨B, 0, none⟩)) := by rw [cell_row yX2]; rfl
              clear hp KX HBX hmX haug y5 h5X hmoX yX2
              gi_wp2_with fail
              refine ⟨trivial, wide_d, CallsIn.inRound lp ((callsIn_wide.2 HHp.out).mono ?_)⟩
              rintro e V9 ⟨rfl, hb9, hk9⟩
              have hr59 := (hk9.block _ (lt_of_block HY5.out) (by omega)).trans HY5.out
              have s0 : V9.cell? ⟨b5, 0, none⟩ = some (.bool false) := by rw [cell_row hr59]; rfl
              have s1 : V9.frozen? ⟨b5, 0, none⟩ = false := frozen_row hr59
              have hrs := set_same 0 (.bool true) hr59
              have hks := keeps_setCell V9 b5 0 (.bool true)
              have hb10 := Brd.abide Hbd.out hb9 hks (fun j e => by omega)
              have HB10 := Lib.hid hb10
              have HRS := Lib.hid hrs
              have HK9 := Lib.hid ((HKX.out.trans (hk9.mono (fun j _ e => .inl e))).trans (hks.mono (fun j _ e => .inr (.inr e))))
              have HM10 := Lib.hid ((HMX.out.keep hk9 (fun e => by omega)).keep hks (fun e => by omega))
              clear HHp qX hb9 hk9 hr59 hrs hks hb10
              gi_wp2_with fail
              exact ⟨O, Grow.refl _ _ _, HK9.out.mono (fun j _ e => .inl e), rfl, _, _, HB10.out, HM10.out, HmoX.out, HAug.out, HRS.out, HkU.out.trans HK9.out⟩
        · gi_wp2_with fail
          have kv := HkV.out.trans HkV2.out
          refine ⟨O, Grow.refl _ _ _, kv.none, lkx, HbU.out.keep kv (fun e => e) (fun _ _ e => e) (fun _ _ e => e), HmU.out.keep kv (fun e => e), Hcl.out, fun y hy h1 h2 => ?_, Hmo.out, (kv.block _ (lt_of_block H5U.out) (fun e => e)).trans H5U.out, HkU.out.trans kv.none⟩
          rcases (by omega : y < x ∨ y = x) with h3 | rfl
          · exact Hc2.out y h3 h1 h2
          · unfold kT
            rw [Het.out, Hr.out]
            exact Hvb.out
      have Hrest := Lib.hid REST
      clear REST
      refine Code.wpIn_mono (Q := Exit.then K1 (fun _ _ _ => False)) (fun e a w h => by
        cases e with
        | normal => exact h
        | ret => exact h.elim
        | exit id => exact h.elim
        | goto l => exact h.elim
        | panic c => exact h.elim
        | outgrown => exact h.elim) ?_
      have hS0 : Keeps (fun _ => False) w5 w5.drew := Keeps.of_new (drew_b _ _)
      refine region_R (z := 8) (S := fun W' => Keeps (fun _ => False) w5 W') (by kernel_rfl) ?_
      refine anyR_take (i := 0) (oi := { dst := some 20, op := Go.Op.load 61 (Go.Operand.tmp 2), type := 61, pos := "board.go:216", after := #[], guard := none }) (v := .pointer (some ⟨B, 0, none⟩)) rfl (by decide) (by kernel_rfl) (by kernel_rfl) (by kernel_rfl) (by kernel_rfl) (fun _ _ _ h => h) (Or.inl ⟨by rfl, by intro W' hSw; (try dsimp only at hSw); have y0 := (keep_cells hSw (lt_of_cell c2) (fun e => e) _).trans c2; go_simp⟩) hS0 ?_
      try simp only [Act.put, List.setIfInBounds_toArray, List.set_cons_zero, List.set_cons_succ]
      refine anyR_take (i := 1) (oi := { dst := some 21, op := Go.Op.move (Go.Operand.tmp 6), type := 3, pos := "board.go:216", after := #[], guard := none }) (v := .int .i64 (x : Int)) rfl (by decide) (by kernel_rfl) (by kernel_rfl) (by kernel_rfl) (by kernel_rfl) (fun _ _ _ h => h) (Or.inl ⟨by rfl, by intro W' hSw; (try dsimp only at hSw); go_simp⟩) hS0 ?_
      try simp only [Act.put, List.setIfInBounds_toArray, List.set_cons_zero, List.set_cons_succ]
      refine anyR_take (i := 3) (oi := { dst := some 23, op := Go.Op.fieldAddr 100 (Go.Operand.tmp 3) 0, type := 0, pos := "board.go:216", after := #[], guard := none }) (v := .pointer (some ⟨w.heap.size + 1, 0, none⟩)) rfl (by decide) (by kernel_rfl) (by kernel_rfl) (by kernel_rfl) (by kernel_rfl) (fun _ _ _ h => h) (Or.inl ⟨by rfl, by intro W' hSw; (try dsimp only at hSw); go_simp⟩) hS0 ?_
      try simp only [Act.put, List.setIfInBounds_toArray, List.set_cons_zero, List.set_cons_succ]
      refine anyR_take (i := 4) (oi := { dst := some 24, op := Go.Op.load 3 (Go.Operand.tmp 23), type := 3, pos := "board.go:216", after := #[{ on := 3, ground := Go.Ground.data }], guard := none }) (v := .int .i64 (l : Int)) rfl (by decide) (by kernel_rfl) (by kernel_rfl) (by kernel_rfl) (by kernel_rfl) (fun _ _ _ h => h) (Or.inl ⟨by rfl, by intro W' hSw; (try dsimp only at hSw); have y0 := (keep_cells hSw (lt_of_cell c30) (fun e => e) _).trans c30; go_simp⟩) hS0 ?_
      try simp only [Act.put, List.setIfInBounds_toArray, List.set_cons_zero, List.set_cons_succ]
      refine anyR_take (i := 5) (oi := { dst := some 25, op := Go.Op.binOp Go.BinOp.sub 3 (Go.Operand.const (Go.Value.int Go.IntKind.i64 1)) (Go.Operand.tmp 24) 3, type := 3, pos := "board.go:216", after := #[{ on := 4, ground := Go.Ground.data }], guard := none }) (v := .int .i64 (r : Int)) rfl (by decide) (by kernel_rfl) (by kernel_rfl) (by kernel_rfl) (by kernel_rfl) (fun _ _ _ h => h) (Or.inl ⟨by rfl, by intro W' hSw; (try dsimp only at hSw); go_simp⟩) hS0 ?_
      try simp only [Act.put, List.setIfInBounds_toArray, List.set_cons_zero, List.set_cons_succ]
      obtain ⟨X, hX⟩ : ∃ X, w5.drew = X := ⟨_, rfl⟩
      rw [hX] at hS0 ⊢
      clear hX
      refine anyR_two (i := 2) (j := 7) (by kernel_rfl) rfl rfl (by rfl) (by rfl) ?callFirst ?allocFirst
      case callFirst =>
        intro K hK
        have HKK := Lib.hid hK
        clear hK
        gi_wp2_with fail
        refine ⟨trivial, wide_d, CallsIn.inRound lp ((callsIn_wide.2 (HKe.out X (HbU.out.keep hS0 (fun e => e) (fun _ _ e => e) (fun _ _ e => e)))).mono ?_)⟩
        rintro e V1 ⟨rfl, hbV⟩
        have hS1 : Keeps (fun _ => False) w5 V1 := hS0.trans (Keeps.of_new hbV)
        refine HKK.out _ _ (fun _ _ => hS1) ?_
        clear HKK K hbV
        try simp only [Act.put, List.setIfInBounds_toArray, List.set_cons_zero, List.set_cons_succ]
        refine anyR_take (i := 6) (oi := { dst := some 26, op := Go.Op.index 103 (Go.Operand.tmp 22) (Go.Operand.tmp 25), type := 100, pos := "board.go:216", after := #[{ on := 2, ground := Go.Ground.data }, { on := 5, ground := Go.Ground.data }], guard := none }) (v := .agg #[.int .i64 (r : Int), .int .i64 (et : Int)]) rfl (by decide) (by kernel_rfl) (by kernel_rfl) (by kernel_rfl) (by kernel_rfl) (fun _ _ _ h => h) (Or.inl ⟨by rfl, by intro W' hSw; (try dsimp only at hSw); have y0 := ixt W'; go_simp⟩) hS1 ?_
        try simp only [Act.put, List.setIfInBounds_toArray, List.set_cons_zero, List.set_cons_succ]
        refine anyR_one (i := 7) (by kernel_rfl) rfl (by rfl) ?_
        intro K hK
        have HKK := Lib.hid hK
        clear hK
        go_simp
        have hrA := heap_alloc_new_ V1 (.cells #[.int .i64 0, .int .i64 0] 100)
        obtain ⟨VA, hVA⟩ : ∃ V, V1.alloc (.cells #[.int .i64 0, .int .i64 0] 100) = V := ⟨_, rfl⟩
        obtain ⟨P, hP⟩ : ∃ P, V1.heap.size = P := ⟨_, rfl⟩
        have hSA : Keeps (fun _ => False) w5 VA := by rw [← hVA]; exact hS1.trans (keep_alloc _ _ _)
        have hPw : w5.heap.size ≤ P := by have := hS1.size; omega
        rw [hVA] at hrA ⊢
        rw [hP] at hrA ⊢
        refine HKK.out _ _ (fun _ _ => hSA) ?_
        clear HKK K hVA hP
        try simp only [Act.put, List.setIfInBounds_toArray, List.set_cons_zero, List.set_cons_succ]
        refine anyR_one (i := 8) (by kernel_rfl) rfl (by rfl) ?_
        intro K hK
        have HKK := Lib.hid hK
        clear hK
        have f0 : VA.cell? ⟨P, 0, none⟩ = some (.int .i64 0) := by rw [cell_row hrA]; rfl
        have f1 : VA.cell? ⟨P, 1, none⟩ = some (.int .i64 0) := by rw [cell_row hrA]; rfl
        have g0 : VA.frozen? ⟨P, 0, none⟩ = false := frozen_row hrA
        have g1 : VA.frozen? ⟨P, 1, none⟩ = false := frozen_row hrA
        go_simp
        refine HKK.out _ _ (fun h => absurd rfl h) ?_
        refine anyR_done (by kernel_rfl) ?_ _
        have hset := set_same 1 (.int .i64 (et : Int)) (set_same 0 (.int .i64 (r : Int)) hrA)
        exact Hrest.out _ _ (keeps_old3 hSA (((keeps_setCell _ _ _ _).trans (keeps_setCell _ _ _ _)).mono (fun j _ e => .inl (by omega)))) (by omega) hset
      case allocFirst =>
        intro K hK
        have HKK := Lib.hid hK
        clear hK
        go_simp
        have hrA := heap_alloc_new_ X (.cells #[.int .i64 0, .int .i64 0] 100)
        obtain ⟨VA, hVA⟩ : ∃ V, X.alloc (.cells #[.int .i64 0, .int .i64 0] 100) = V := ⟨_, rfl⟩
        obtain ⟨P, hP⟩ : ∃ P, X.heap.size = P := ⟨_, rfl⟩
        have hSA : Keeps (fun _ => False) w5 VA := by rw [← hVA]; exact hS0.trans (keep_alloc _ _ _)
        have hPw : w5.heap.size ≤ P := by have := hS0.size; omega
        rw [hVA] at hrA ⊢
        rw [hP] at hrA ⊢
        refine HKK.out _ _ (fun _ _ => hSA) ?_
        clear HKK K hVA hP
        try simp only [Act.put, List.setIfInBounds_toArray, List.set_cons_zero, List.set_cons_succ]
        refine anyR_one (i := 2) (by kernel_rfl) rfl (by rfl) ?_
        intro K hK
        have HKK := Lib.hid hK
        clear hK
        gi_wp2_with fail
        refine ⟨trivial, wide_d, CallsIn.inRound lp ((callsIn_wide.2 (HKe.out VA (HbU.out.keep hSA (fun e => e) (fun _ _ e => e) (fun _ _ e => e)))).mono ?_)⟩
        rintro e V2 ⟨rfl, hbV⟩
        have hS2 : Keeps (fun _ => False) w5 V2 := hSA.trans (Keeps.of_new hbV)
        have hr2A := (hbV.block _ (lt_of_block hrA)).trans hrA
        refine HKK.out _ _ (fun _ _ => hS2) ?_
        clear HKK K hbV
        try simp only [Act.put, List.setIfInBounds_toArray, List.set_cons_zero, List.set_cons_succ]
        refine anyR_take (i := 6) (oi := { dst := some 26, op := Go.Op.index 103 (Go.Operand.tmp 22) (Go.Operand.tmp 25), type := 100, pos := "board.go:216", after := #[{ on := 2, ground := Go.Ground.data }, { on := 5, ground := Go.Ground.data }], guard := none }) (v := .agg #[.int .i64 (r : Int), .int .i64 (et : Int)]) rfl (by decide) (by kernel_rfl) (by kernel_rfl) (by kernel_rfl) (by kernel_rfl) (fun _ _ _ h => h) (Or.inl ⟨by rfl, by intro W' hSw; (try dsimp only at hSw); have y0 := ixt W'; go_simp⟩) hS2 ?_
        try simp only [Act.put, List.setIfInBounds_toArray, List.set_cons_zero, List.set_cons_succ]
        refine anyR_one (i := 8) (by kernel_rfl) rfl (by rfl) ?_
        intro K hK
        have HKK := Lib.hid hK
        clear hK
        have f0 : V2.cell? ⟨P, 0, none⟩ = some (.int .i64 0) := by rw [cell_row hr2A]; rfl
        have f1 : V2.cell? ⟨P, 1, none⟩ = some (.int .i64 0) := by rw [cell_row hr2A]; rfl
        have g0 : V2.frozen? ⟨P, 0, none⟩ = false := frozen_row hr2A
        have g1 : V2.frozen? ⟨P, 1, none⟩ = false := frozen_row hr2A
        go_simp
        refine HKK.out _ _ (fun h => absurd rfl h) ?_
        refine anyR_done (by kernel_rfl) ?_ _
        have hset := set_same 1 (.int .i64 (et : Int)) (set_same 0 (.int .i64 (r : Int)) hr2A)
        exact Hrest.out _ _ (keeps_old3 hS2 (((keeps_setCell _ _ _ _).trans (keeps_setCell _ _ _ _)).mono (fun j _ e => .inl (by omega)))) (by omega) hset
end Go.Proofs.Ytnodkgejggnehaa
