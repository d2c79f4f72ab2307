/- Stage 5: a sheet without some links: mathematics. -/
import Derived.Test.YtnodkgejggnehaaKx
import Derived.Test.YtnodkgejggnehaaIm
namespace Go.Proofs.Ytnodkgejggnehaa
set_option linter.unusedSimpArgs false
set_option linter.unusedVariables false
/-- The links of a sheet but some. -/
structure SubS (n : Nat) (zs : List Rg) (ks : List Int) (m : Nat) (zs' : List Rg) (ks' : List Int) (f : Nat → Nat) (rm : Nat → Bool) : Prop where
  lt : ∀ j, j < m → f j < n
  inj : ∀ i j, i < m → j < m → f i = f j → i = j
  mt : ∀ i j, i < m → j < m → mtB zs' i j = mtB zs (f i) (f j)
  kn : ∀ j : Nat, j < m → ((j : Int) ∈ ks' ↔ ((f j : Nat) : Int) ∈ ks)
  sur : ∀ k, k < n → rm k = false → ∃ j, j < m ∧ f j = k
  no : ∀ j, j < m → rm (f j) = false
  nk : ∀ k : Nat, k < n → rm k = true → (k : Int) ∉ ks
section
variable {n m : Nat} {zs zs' : List Rg} {ks ks' : List Int} {f : Nat → Nat} {rm : Nat → Bool}
theorem SubS.start (n : Nat) (zs : List Rg) (ks : List Int) : SubS n zs ks n zs ks id (fun _ => false) :=
  ⟨fun j h => h, fun i j _ _ h => h, fun i j _ _ => rfl, fun j _ => Iff.rfl, fun k h _ => ⟨k, h, rfl⟩, fun j _ => rfl, fun k _ h => (by cases h)⟩
theorem SubS.step (h : SubS n zs ks m zs' ks' f rm) (H' : ShN m zs' ks') {k : Nat} (hk : k < m) (hfk : f k = k) (hin : (k : Int) ∉ ks) :
    SubS n zs ks (m - 1) (wzP k zs' m) (wkP k ks' ks'.length) (fun j => f (oldN k j)) (fun x => rm x || decide (x = k)) := by
  have hin' : (k : Int) ∉ ks' := fun e => hin (by have := (h.kn k hk).1 e; rwa [hfk] at this)
  refine ⟨fun j hj => h.lt _ (oldN_lt hj), fun i j hi hj e => oldN_inj (h.inj _ _ (oldN_lt hi) (oldN_lt hj) e), fun i j hi hj => ?_, fun j hj => ?_, fun x hx hr => ?_, fun j hj => ?_, fun x hx hr => ?_⟩
  · rw [wz_mt hk hi hj]; exact h.mt _ _ (oldN_lt hi) (oldN_lt hj)
  · rw [mem_wk H'.nm hin' j]; exact h.kn _ (oldN_lt hj)
  · rw [Bool.or_eq_false_iff, decide_eq_false_iff_not] at hr
    obtain ⟨j, hj, e⟩ := h.sur x hx hr.1
    have hjk : j ≠ k := fun e2 => hr.2 (by rw [← e, e2, hfk])
    exact ⟨newN k j, newN_lt hk hj hjk, by rw [oldN_new hjk]; exact e⟩
  · rw [Bool.or_eq_false_iff, decide_eq_false_iff_not]
    refine ⟨h.no _ (oldN_lt hj), fun e => oldN_ne k j (h.inj _ _ (oldN_lt hj) hk (by rw [e, hfk]))⟩
  · rw [Bool.or_eq_true, decide_eq_true_eq] at hr
    rcases hr with hr | rfl
    · exact h.nk x hx hr
    · exact hin
/-- A joining of the smaller sheet, in the greater one. -/
def upP (m : Nat) (f : Nat → Nat) (p : Nat → Bool) : Nat → Bool := fun k => (List.range m).any fun j => decide (f j = k) && p j
theorem upP_iff {p : Nat → Bool} {k : Nat} : upP m f p k = true ↔ ∃ j, j < m ∧ f j = k ∧ p j = true := by
  unfold upP
  rw [List.any_eq_true]
  constructor
  · rintro ⟨j, h1, h2⟩
    rw [Bool.and_eq_true, decide_eq_true_eq] at h2
    exact ⟨j, List.mem_range.1 h1, h2.1, h2.2⟩
  · rintro ⟨j, h1, h2, h3⟩
    exact ⟨j, List.mem_range.2 h1, by rw [Bool.and_eq_true, decide_eq_true_eq]; exact ⟨h2, h3⟩⟩
theorem SubS.up (h : SubS n zs ks m zs' ks' f rm) (H : ShN n zs ks) {p : Nat → Bool} (hp : JoP m zs' ks' p) : JoP n zs ks (upP m f p) := by
  refine ⟨fun i j hi hj a b hne => ?_, fun k hk => ?_⟩
  · obtain ⟨x, hx, e1, h1⟩ := upP_iff.1 a
    obtain ⟨y, hy, e2, h2⟩ := upP_iff.1 b
    rw [← e1, ← e2, ← h.mt x y hx hy]
    exact hp.ap x y hx hy h1 h2 (fun e => hne (by rw [← e1, ← e2, e]))
  · obtain ⟨q, hq, e⟩ := H.nm _ hk
    obtain rfl : k = q := by omega
    have hr : rm k = false := by
      cases hr : rm k
      · rfl
      · exact absurd hk (h.nk k hq hr)
    obtain ⟨j, hj, e⟩ := h.sur k hq hr
    exact upP_iff.2 ⟨j, hj, e, hp.kn j ((h.kn j hj).2 (by rw [e]; exact hk))⟩
theorem SubS.down (h : SubS n zs ks m zs' ks' f rm) (H' : ShN m zs' ks') {p : Nat → Bool} (hp : JoP n zs ks p) : JoP m zs' ks' (fun j => p (f j)) := by
  refine ⟨fun i j hi hj a b hne => ?_, fun k hk => ?_⟩
  · rw [h.mt i j hi hj]
    exact hp.ap _ _ (h.lt i hi) (h.lt j hj) a b (fun e => hne (h.inj i j hi hj e))
  · obtain ⟨q, hq, e⟩ := H'.nm _ hk
    obtain rfl : k = q := by omega
    exact hp.kn _ ((h.kn k hq).1 hk)
theorem SubS.cnt_le (h : SubS n zs ks m zs' ks' f rm) (p : Nat → Bool) : cntP m (fun j => p (f j)) ≤ cntP n p := by
  unfold cntP
  have := nodup_le (((List.range m).filter fun j => p (f j)).map f) ((List.range n).filter p) (by
    rw [List.pairwise_map]
    refine List.Pairwise.imp_of_mem ?_ (nd_filter _)
    intro a b ha hb hne e
    exact hne (h.inj a b (List.mem_range.1 (List.mem_filter.1 ha).1) (List.mem_range.1 (List.mem_filter.1 hb).1) e)) (fun y hy => by
    obtain ⟨x, hx, rfl⟩ := List.mem_map.1 hy
    have hx := List.mem_filter.1 hx
    exact List.mem_filter.2 ⟨List.mem_range.2 (h.lt x (List.mem_range.1 hx.1)), hx.2⟩)
  rw [List.length_map] at this; exact this
theorem SubS.cnt_ge (h : SubS n zs ks m zs' ks' f rm) {p : Nat → Bool} (hp : ∀ k, k < n → rm k = true → p k = false) : cntP n p ≤ cntP m (fun j => p (f j)) := by
  unfold cntP
  have := nodup_le ((List.range n).filter p) (((List.range m).filter fun j => p (f j)).map f) (nd_filter _) (fun y hy => by
    obtain ⟨h1, h2⟩ := List.mem_filter.1 hy
    have h1 := List.mem_range.1 h1
    have hr : rm y = false := by
      cases hr : rm y
      · rfl
      · rw [hp y h1 hr] at h2; cases h2
    obtain ⟨j, hj, rfl⟩ := h.sur y h1 hr
    exact List.mem_map.2 ⟨j, List.mem_filter.2 ⟨List.mem_range.2 hj, h2⟩, rfl⟩)
  rw [List.length_map] at this; exact this
theorem upP_f (h : SubS n zs ks m zs' ks' f rm) {p : Nat → Bool} {j : Nat} (hj : j < m) : upP m f p (f j) = p j := by
  rw [Bool.eq_iff_iff, upP_iff]
  constructor
  · rintro ⟨x, hx, e, hp⟩; rw [← h.inj x j hx hj e]; exact hp
  · intro hp; exact ⟨j, hj, rfl, hp⟩
/-- Fewer links make a greatest joining smaller if every greatest joining has one of those that are gone. -/
theorem SubS.less (h : SubS n zs ks m zs' ks' f rm) (H : ShN n zs ks) (H' : ShN m zs' ks') : siz m zs' ks' < siz n zs ks ↔ ∀ p, Gre n zs ks p → ∃ k, k < n ∧ rm k = true ∧ p k = true := by
  constructor
  · intro hs p hp
    apply Classical.byContradiction
    intro hno
    have h1 := h.cnt_ge (p := p) (fun k hk hr => by
      cases e : p k
      · rfl
      · exact absurd ⟨k, hk, hr, e⟩ hno)
    have h2 := (h.down H' hp.1).le H'
    rw [hp.2] at h1
    omega
  · intro hall
    apply Classical.byContradiction
    intro hno
    obtain ⟨p, hp⟩ := gre_ex H'
    have hj := h.up H hp.1
    have h1 := h.cnt_le (upP m f p)
    rw [cntP_congr (fun j hj => upP_f h hj), hp.2] at h1
    have h2 := hj.le H
    obtain ⟨k, hk, hr, e⟩ := hall _ ⟨hj, by omega⟩
    obtain ⟨j, hj, e2, _⟩ := upP_iff.1 e
    rw [← e2, h.no j hj] at hr
    cases hr
end
/-! The kind of an item, as the document says it. -/
def smB (n : Nat) (zs : List Rg) (ks : List Int) (l a q : Nat) : Prop := ∃ k, q ≤ k ∧ k < n ∧ eN zs l k = a ∧ kindS n zs (opnL n zs ks) (kNt ks) k ≠ 0
def knB (n : Nat) (zs : List Rg) (ks : List Int) (l a q : Nat) : Prop := ∃ k : Nat, q ≤ k ∧ k < n ∧ eN zs l k = a ∧ (k : Int) ∈ ks
section
variable {n m l a : Nat} {zs zs' : List Rg} {ks ks' : List Int} {f : Nat → Nat} {rm : Nat → Bool}
theorem it_known (H : ShN n zs ks) (hk : knB n zs ks l a 0) : ikS n zs (opnL n zs ks) (kNt ks) l a = 2 := by
  obtain ⟨k, _, h1, h2, h3⟩ := hk
  exact (ik_always H).2 (fun p hp => ⟨k, h1, h2, hp.1.kn k h3⟩)
theorem it_none (H : ShN n zs ks) (hs : ¬ smB n zs ks l a 0) : ikS n zs (opnL n zs ks) (kNt ks) l a = 0 :=
  (ik_never H).2 (fun k hk hka => Classical.byContradiction fun e => hs ⟨k, Nat.zero_le _, hk, hka, e⟩)
theorem it_less (h : SubS n zs ks m zs' ks' f rm) (H : ShN n zs ks) (H' : ShN m zs' ks') (hr : ∀ k, k < n → rm k = true → eN zs l k = a) (hl : siz m zs' ks' < siz n zs ks) : ikS n zs (opnL n zs ks) (kNt ks) l a = 2 :=
  (ik_always H).2 (fun p hp => by
    obtain ⟨k, h1, h2, h3⟩ := (h.less H H').1 hl p hp
    exact ⟨k, h1, hr k h1 h2, h3⟩)
theorem it_some (h : SubS n zs ks m zs' ks' f rm) (H : ShN n zs ks) (H' : ShN m zs' ks') (hr : ∀ k, k < n → eN zs l k = a → rm k = true) (hs : smB n zs ks l a 0) (hl : ¬ siz m zs' ks' < siz n zs ks) : ikS n zs (opnL n zs ks) (kNt ks) l a = 1 := by
  have h2 : ikS n zs (opnL n zs ks) (kNt ks) l a ≠ 2 := fun e => hl ((h.less H H').2 (fun p hp => by
    obtain ⟨k, h1, h2, h3⟩ := (ik_always H).1 e p hp
    exact ⟨k, h1, hr k h1 h2, h3⟩))
  have h0 : ikS n zs (opnL n zs ks) (kNt ks) l a ≠ 0 := fun e => by
    obtain ⟨k, _, h1, h2, h3⟩ := hs
    exact h3 ((ik_never H).1 e k h1 h2)
  rcases ik_may n zs (opnL n zs ks) (kNt ks) l a with e | e | e
  · exact absurd e h0
  · exact e
  · exact absurd e h2
end
end Go.Proofs.Ytnodkgejggnehaa
