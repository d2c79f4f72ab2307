/- Stage 3: the mathematics of short scales: ends of tones that are apart. -/
import Derived.WalkKit
namespace Go.Proofs.Ytdfdlklglbefiaa
set_option linter.unusedSimpArgs false
set_option linter.unusedVariables false

/-- A range: from, to. -/
structure Rg where
  lo : Int
  hi : Int
deriving DecidableEq, Inhabited
/-- A tone: its range and its name. -/
structure Tn where
  r : Rg
  nm : Nat
deriving DecidableEq, Inhabited

def onR (x : Int) (r : Rg) : Bool := decide (r.lo ≤ x) && decide (x ≤ r.hi)
theorem onR_iff {x : Int} {r : Rg} : onR x r = true ↔ r.lo ≤ x ∧ x ≤ r.hi := by simp [onR]
/-- A step is in the range. -/
def meets (st : List Int) (r : Rg) : Bool := st.any (fun x => onR x r)
theorem meets_iff {st : List Int} {r : Rg} : meets st r = true ↔ ∃ x ∈ st, r.lo ≤ x ∧ x ≤ r.hi := by
  simp [meets, onR_iff]
/-- All tones are met. -/
def right (zs : List Rg) (st : List Int) : Prop := ∀ r ∈ zs, meets st r = true
def Incr (st : List Int) : Prop := st.Pairwise (· < ·)

/-- Ranges that are apart, and whose upper ends meet all. -/
structure IsG (gs zs : List Rg) : Prop where
  sub : ∀ g ∈ gs, g ∈ zs
  apart : gs.Pairwise (fun a b => a.hi < b.lo)
  all : ∀ r ∈ zs, ∃ g ∈ gs, r.lo ≤ g.hi ∧ g.hi ≤ r.hi

def Ok (zs : List Rg) : Prop := ∀ r ∈ zs, r.lo ≤ r.hi

theorem IsG.right {gs zs : List Rg} (h : IsG gs zs) : right zs (gs.map (·.hi)) := fun r hr => by
  obtain ⟨g, hg, h1, h2⟩ := h.all r hr
  exact meets_iff.2 ⟨g.hi, List.mem_map.2 ⟨g, hg, rfl⟩, h1, h2⟩
theorem IsG.incr {gs zs : List Rg} (h : IsG gs zs) (ho : Ok zs) : Incr (gs.map (·.hi)) := by
  unfold Incr
  rw [List.pairwise_map]
  refine h.apart.imp_of_mem ?_
  intro a b ha hb hab
  have := ho b (h.sub b hb)
  omega
/-- The steps of a right scale lie no higher than the upper ends. -/
theorem IsG.idx {gs zs : List Rg} (h : IsG gs zs) {st : List Int} (hi : Incr st) (hr : Go.Proofs.Ytdfdlklglbefiaa.right zs st) : ∀ (k : Nat) (hk : k < gs.length), ∃ (j : Nat) (hj : j < st.length), k ≤ j ∧ gs[k].lo ≤ st[j] ∧ st[j] ≤ gs[k].hi := by
  intro k
  induction k with
  | zero =>
    intro hk
    obtain ⟨x, hx, h1, h2⟩ := meets_iff.1 (hr _ (h.sub _ (List.getElem_mem hk)))
    obtain ⟨j, hj, rfl⟩ := List.mem_iff_getElem.1 hx
    exact ⟨j, hj, Nat.zero_le _, h1, h2⟩
  | succ k ih =>
    intro hk
    obtain ⟨i, hi1, h1, h2, h3⟩ := ih (by omega)
    obtain ⟨x, hx, h4, h5⟩ := meets_iff.1 (hr _ (h.sub _ (List.getElem_mem hk)))
    obtain ⟨j, hj, rfl⟩ := List.mem_iff_getElem.1 hx
    refine ⟨j, hj, ?_, h4, h5⟩
    have hap := List.pairwise_iff_getElem.1 h.apart k (k + 1) (by omega) hk (by omega)
    rcases Nat.lt_or_ge i j with hlt | hge
    · omega
    · exfalso
      have : st[j] ≤ st[i] := by
        rcases Nat.lt_or_ge j i with hl | hl
        · have := List.pairwise_iff_getElem.1 hi j i hj hi1 hl; omega
        · have e : i = j := by omega
          subst e; omega
      omega
theorem IsG.len_le {gs zs : List Rg} (h : IsG gs zs) {st : List Int} (hi : Incr st) (hr : Go.Proofs.Ytdfdlklglbefiaa.right zs st) : gs.length ≤ st.length := by
  rcases Nat.eq_zero_or_pos gs.length with h0 | h0
  · omega
  · obtain ⟨j, hj, h1, _⟩ := h.idx hi hr (gs.length - 1) (by omega)
    omega
theorem incr_le {st : List Int} (h : Incr st) {i j : Nat} (hj : j < st.length) (hij : i ≤ j) : st[i] ≤ st[j] := by
  rcases Nat.lt_or_ge i j with hl | hl
  · have := List.pairwise_iff_getElem.1 h i j (by omega) hj hl; omega
  · have e : i = j := by omega
    subst e; omega
theorem incr_lt {st : List Int} (h : Incr st) {i j : Nat} (hj : j < st.length) (hij : i < j) : st[i] < st[j] := List.pairwise_iff_getElem.1 h i j (by omega) hj hij
theorem IsG.at_le {gs zs : List Rg} (h : IsG gs zs) {st : List Int} (hi : Incr st) (hr : Go.Proofs.Ytdfdlklglbefiaa.right zs st) (k : Nat) (hk : k < gs.length) (hk2 : k < st.length) : st[k] ≤ gs[k].hi := by
  obtain ⟨j, hj, h1, _, h3⟩ := h.idx hi hr k hk
  exact Int.le_trans (incr_le hi hj h1) h3
/-- The upper ends are known by the song alone. -/
theorem IsG.len_eq {gs hs zs : List Rg} (h : IsG gs zs) (h' : IsG hs zs) (ho : Ok zs) : gs.length = hs.length := by
  have a := h.len_le (h'.incr ho) h'.right
  have b := h'.len_le (h.incr ho) h.right
  simp at a b; omega
theorem IsG.his_eq {gs hs zs : List Rg} (h : IsG gs zs) (h' : IsG hs zs) (ho : Ok zs) : gs.map (·.hi) = hs.map (·.hi) := by
  have e := h.len_eq h' ho
  refine List.ext_getElem (by simp [e]) ?_
  intro k h1 h2
  simp only [List.length_map] at h1 h2
  have a := h.at_le (h'.incr ho) h'.right k h1 (by simpa using h2)
  have b := h'.at_le (h.incr ho) h.right k h2 (by simpa using h1)
  simp only [List.getElem_map] at a b ⊢
  omega
theorem IsG.perm {gs zs zs' : List Rg} (h : IsG gs zs) (hp : ∀ r, r ∈ zs ↔ r ∈ zs') : IsG gs zs' :=
  ⟨fun g hg => (hp g).1 (h.sub g hg), h.apart, fun r hr => h.all r ((hp r).2 hr)⟩

/-- The first ones in order that the ends before them do not meet. -/
def grd (G : List Tn) : List Tn → List Tn
  | [] => G
  | t :: ts => if meets (G.map (·.r.hi)) t.r then grd G ts else grd (G ++ [t]) ts
theorem grd_append (G pre post : List Tn) : grd G (pre ++ post) = grd (grd G pre) post := by
  induction pre generalizing G with
  | nil => rfl
  | cons t ts ih =>
    simp only [List.cons_append, grd]
    split <;> exact ih _
theorem grd_all (G ts : List Tn) (h : ∀ t ∈ ts, meets (G.map (·.r.hi)) t.r = true) : grd G ts = G := by
  induction ts with
  | nil => rfl
  | cons t ts ih =>
    simp only [grd]
    rw [if_pos (h t (by simp))]
    exact ih (fun t ht => h t (by simp [ht]))
theorem grd_len (G ts : List Tn) : (grd G ts).length ≤ G.length + ts.length := by
  induction ts generalizing G with
  | nil => simp [grd]
  | cons t ts ih =>
    simp only [grd]
    split
    · have := ih G; simp; omega
    · have := ih (G ++ [t]); simp at this ⊢; omega
structure GrdI (G pre : List Tn) : Prop where
  sub : ∀ g ∈ G, g ∈ pre
  apart : G.Pairwise (fun a b => a.r.hi < b.r.lo)
  all : ∀ t ∈ pre, ∃ g ∈ G, t.r.lo ≤ g.r.hi ∧ g.r.hi ≤ t.r.hi
theorem grd_inv (ts : List Tn) (hv : ∀ t ∈ ts, t.r.lo ≤ t.r.hi) (hs : ts.Pairwise (fun a b => a.r.hi ≤ b.r.hi)) (G pre post : List Tn) (h : GrdI G pre) (e : ts = pre ++ post) : GrdI (grd G post) ts := by
  induction post generalizing G pre with
  | nil => simp only [List.append_nil] at e; subst e; exact h
  | cons t post ih =>
    simp only [grd]
    have ht : t ∈ ts := by rw [e]; simp
    have hpt : ∀ p ∈ pre, p.r.hi ≤ t.r.hi := fun p hp => by
      rw [e, List.pairwise_append] at hs
      exact hs.2.2 p hp t (by simp)
    by_cases hm : meets (G.map (·.r.hi)) t.r = true
    · rw [if_pos hm]
      refine ih G (pre ++ [t]) ⟨fun g hg => by simp [h.sub g hg], h.apart, ?_⟩ (by simp [e])
      intro u hu
      rcases List.mem_append.1 hu with hu | hu
      · exact h.all u hu
      · obtain rfl := List.mem_singleton.1 hu
        obtain ⟨x, hx, h1, h2⟩ := meets_iff.1 hm
        obtain ⟨g, hg, rfl⟩ := List.mem_map.1 hx
        exact ⟨g, hg, h1, h2⟩
    · rw [if_neg hm]
      refine ih (G ++ [t]) (pre ++ [t]) ⟨?_, ?_, ?_⟩ (by simp [e])
      · intro g hg
        rcases List.mem_append.1 hg with hg | hg
        · simp [h.sub g hg]
        · simp [List.mem_singleton.1 hg]
      · rw [List.pairwise_append]
        refine ⟨h.apart, by simp, ?_⟩
        intro g hg u hu
        obtain rfl := List.mem_singleton.1 hu
        have h1 := hpt g (h.sub g hg)
        rcases Int.lt_or_le g.r.hi u.r.lo with hl | hl
        · exact hl
        · exact absurd (meets_iff.2 ⟨g.r.hi, List.mem_map.2 ⟨g, hg, rfl⟩, hl, h1⟩) hm
      · intro u hu
        rcases List.mem_append.1 hu with hu | hu
        · obtain ⟨g, hg, h1⟩ := h.all u hu
          exact ⟨g, by simp [hg], h1⟩
        · obtain rfl := List.mem_singleton.1 hu
          exact ⟨u, by simp, hv u ht, Int.le_refl _⟩
theorem grd_ok (ts : List Tn) (hv : ∀ t ∈ ts, t.r.lo ≤ t.r.hi) (hs : ts.Pairwise (fun a b => a.r.hi ≤ b.r.hi)) : GrdI (grd [] ts) ts :=
  grd_inv ts hv hs [] [] ts ⟨by simp, List.Pairwise.nil, by simp⟩ rfl
theorem GrdI.isG {G ts : List Tn} (h : GrdI G ts) : IsG (G.map (·.r)) (ts.map (·.r)) := by
  refine ⟨?_, ?_, ?_⟩
  · intro g hg
    obtain ⟨t, ht, rfl⟩ := List.mem_map.1 hg
    exact List.mem_map.2 ⟨t, h.sub t ht, rfl⟩
  · rw [List.pairwise_map]; exact h.apart
  · intro r hr
    obtain ⟨t, ht, rfl⟩ := List.mem_map.1 hr
    obtain ⟨g, hg, h1⟩ := h.all t ht
    exact ⟨g.r, List.mem_map.2 ⟨g, hg, rfl⟩, h1⟩

/-- How many upper ends lie below. -/
def cntB (gs : List Rg) (x : Int) : Nat := gs.countP (fun g => decide (g.hi < x))
theorem cntB_le (gs : List Rg) (x : Int) : cntB gs x ≤ gs.length := List.countP_le_length
/-- The ends below are the first ones. -/
theorem IsG.cnt_iff {gs zs : List Rg} (h : IsG gs zs) (ho : Ok zs) (x : Int) (k : Nat) (hk : k < gs.length) : gs[k].hi < x ↔ k < cntB gs x := by
  have hinc : gs.Pairwise (fun a b => a.hi < b.hi) := by
    refine h.apart.imp_of_mem ?_
    intro a b _ hb hab
    have := ho b (h.sub b hb); omega
  clear h
  induction gs generalizing k with
  | nil => simp at hk
  | cons g gs ih =>
    rw [List.pairwise_cons] at hinc
    unfold cntB at ih ⊢
    rw [List.countP_cons]
    by_cases hg : g.hi < x
    · rw [if_pos (by simpa using hg)]
      cases k with
      | zero => simp; exact hg
      | succ k =>
        simp only [List.length_cons] at hk
        have hk2 : k < gs.length := by omega
        have hi := ih k hk2 hinc.2
        simp only [List.getElem_cons_succ]
        constructor
        · intro hh; have := hi.1 hh; omega
        · intro hh; exact hi.2 (by omega)
    · rw [if_neg (by simpa using hg)]
      have h0 : gs.countP (fun g => decide (g.hi < x)) = 0 := by
        rw [List.countP_eq_zero]
        intro b hb
        have := hinc.1 b hb
        simp; omega
      rw [h0]
      cases k with
      | zero => simp; omega
      | succ k =>
        simp only [List.length_cons] at hk
        rw [List.getElem_cons_succ]
        have := hinc.1 _ (List.getElem_mem (show k < gs.length by omega))
        constructor
        · intro h; omega
        · intro h; omega
end Go.Proofs.Ytdfdlklglbefiaa
