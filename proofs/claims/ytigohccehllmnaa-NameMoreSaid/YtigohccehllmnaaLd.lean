/- Stage 6: names that are joined: mathematics. -/
import Derived.Test.YtigohccehllmnaaTh
import Derived.Test.YtigohccehllmnaaGo
namespace Go.Proofs.Ytigohccehllmnaa
set_option linter.unusedSimpArgs false
set_option linter.unusedVariables false
open Go.RowKit Go.Shelf

theorem trail_exists {N : Nat} {zs : List Nl} (hz : OkL N zs) (op : Wy → Bool) {fs : List Int} (hf : ∀ x ∈ fs, 0 ≤ x ∧ x < N) :
    ∃ tr, TrOk zs op fs tr ∧ ∀ w, isWay zs w → op w = true → Rk fs tr w.fr → Rk fs tr w.to := by
  refine Classical.byContradiction fun hno => ?_
  have step : ∀ n : Nat, ∃ tr, TrOk zs op fs tr ∧ tr.length = n := by
    intro n
    induction n with
    | zero => exact ⟨[], TrOk.nil _ _ _, rfl⟩
    | succ n ih =>
      obtain ⟨tr, ht, hl⟩ := ih
      have : ∃ w, isWay zs w ∧ op w = true ∧ Rk fs tr w.fr ∧ ¬ Rk fs tr w.to := Classical.byContradiction fun h2 => hno ⟨tr, ht, fun w h3 h4 h5 => Classical.byContradiction fun h6 => h2 ⟨w, h3, h4, h5, h6⟩⟩
      obtain ⟨w, h3, h4, h5, h6⟩ := this
      exact ⟨tr ++ [w], ht.snoc h3 h4 h5 h6, by simp [hl]⟩
  obtain ⟨tr, ht, hl⟩ := step (N + 1)
  have := tr_len hz ht hf
  omega
/-- What can be reached exists. -/
theorem rs_exists {N : Nat} {zs : List Nl} (hz : OkL N zs) (op : Wy → Bool) {fs : List Int} (hf : ∀ x ∈ fs, 0 ≤ x ∧ x < N) : ∃ R, RS zs op fs R := by
  obtain ⟨tr, ht, hc⟩ := trail_exists hz op hf
  exact ⟨_, rs_of ht hc⟩
/-- Ways that go both ways: what can be reached is a class. -/
theorem rs_back {N : Nat} {zs : List Nl} {op : Wy → Bool} (hb : ∀ w, isWay zs w → op w = op w.back) {x y : Int} {P Q : Int → Bool} (hP : RS zs op [x] P) (hQ : RS zs op [y] Q) (h : P y = true) : ∀ z, P z = Q z := by
  have hyx : Q x = true := by
    -- the complement of Q is closed
    have hcl : ClosedS zs op (fun z => !Q z) := fun w hw ho e => by
      simp only [Bool.not_eq_true'] at e ⊢
      cases e2 : Q w.to
      · rfl
      · have := hQ.cl w.back hw.back (by rw [← hb w hw]; exact ho) e2
        change Q w.fr = true at this
        rw [e] at this; cases this
    cases e : Q x
    · have := hP.mi _ hcl (fun z hz => by rw [List.mem_singleton] at hz; subst hz; simp [e]) y h
      have h2 := hQ.st y (by simp)
      simp [h2] at this
    · rfl
  intro z
  rw [Bool.eq_iff_iff]
  exact ⟨fun e => hP.mi Q hQ.cl (fun v hv => by rw [List.mem_singleton] at hv; subst hv; exact hyx) z e, fun e => hQ.mi P hP.cl (fun v hv => by rw [List.mem_singleton] at hv; subst hv; exact h) z e⟩
/-- With no flow a way is open as it is in the other direction. -/
theorem opF_zero_back {zs : List Nl} (w : Wy) (hw : isWay zs w) : opF zs (fun _ => 0) w = opF zs (fun _ => 0) w.back := by
  unfold opF roomW Wy.back
  simp
end Go.Proofs.Ytigohccehllmnaa

namespace Go.Proofs.Ytigohccehllmnaa
set_option linter.unusedSimpArgs false
set_option linter.unusedVariables false
open Go.RowKit Go.Shelf

/-- One link: both names take the lesser label. -/
def stepG (zs : List Nl) (ds : List Int) (g : Int → Int) (k : Nat) : Int → Int := if (k : Int) ∈ ds then g else fun x => if x = (lAt zs k).one ∨ x = (lAt zs k).two then min (g (lAt zs k).one) (g (lAt zs k).two) else g x
def foldG (zs : List Nl) (ds : List Int) (g : Int → Int) : Nat → Int → Int
  | 0 => g
  | k + 1 => stepG zs ds (foldG zs ds g k) k
def labG (zs : List Nl) (ds : List Int) (n : Nat) : Nat → Int → Int
  | 0 => fun x => x
  | r + 1 => foldG zs ds (labG zs ds n r) n
theorem stepG_le (zs : List Nl) (ds : List Int) (g : Int → Int) (k : Nat) (x : Int) : stepG zs ds g k x ≤ g x := by
  unfold stepG
  split
  · exact Int.le_refl _
  · simp only
    split
    · rename_i h
      rcases h with rfl | rfl <;> omega
    · exact Int.le_refl _
theorem foldG_le (zs : List Nl) (ds : List Int) (g : Int → Int) (x : Int) : ∀ {i j : Nat}, i ≤ j → foldG zs ds g j x ≤ foldG zs ds g i x
  | i, 0, h => by obtain rfl : i = 0 := by omega
                  exact Int.le_refl _
  | i, j + 1, h => by
    rcases Nat.lt_or_ge i (j + 1) with h2 | h2
    · exact Int.le_trans (stepG_le zs ds _ j x) (foldG_le zs ds g x (show i ≤ j by omega))
    · obtain rfl : i = j + 1 := by omega
      exact Int.le_refl _
theorem foldG_adj (zs : List Nl) (ds : List Int) (g : Int → Int) {k n : Nat} (hk : k < n) (hd : (k : Int) ∉ ds) : foldG zs ds g n (lAt zs k).two ≤ g (lAt zs k).one ∧ foldG zs ds g n (lAt zs k).one ≤ g (lAt zs k).two := by
  have h1 := foldG_le zs ds g (lAt zs k).two (show k + 1 ≤ n by omega)
  have h2 := foldG_le zs ds g (lAt zs k).one (show k + 1 ≤ n by omega)
  have h3 := foldG_le zs ds g (lAt zs k).one (Nat.zero_le k)
  have h4 := foldG_le zs ds g (lAt zs k).two (Nat.zero_le k)
  have e1 : foldG zs ds g (k + 1) (lAt zs k).two = min (foldG zs ds g k (lAt zs k).one) (foldG zs ds g k (lAt zs k).two) := by
    show stepG zs ds (foldG zs ds g k) k (lAt zs k).two = _
    unfold stepG
    rw [if_neg hd]; simp
  have e2 : foldG zs ds g (k + 1) (lAt zs k).one = min (foldG zs ds g k (lAt zs k).one) (foldG zs ds g k (lAt zs k).two) := by
    show stepG zs ds (foldG zs ds g k) k (lAt zs k).one = _
    unfold stepG
    rw [if_neg hd]; simp
  have h5 : foldG zs ds g 0 (lAt zs k).one = g (lAt zs k).one := rfl
  have h6 : foldG zs ds g 0 (lAt zs k).two = g (lAt zs k).two := rfl
  omega
theorem labG_le (zs : List Nl) (ds : List Int) (n : Nat) (x : Int) : ∀ {i j : Nat}, i ≤ j → labG zs ds n j x ≤ labG zs ds n i x
  | i, 0, h => by obtain rfl : i = 0 := by omega
                  exact Int.le_refl _
  | i, j + 1, h => by
    rcases Nat.lt_or_ge i (j + 1) with h2 | h2
    · exact Int.le_trans (foldG_le zs ds _ x (Nat.zero_le n)) (labG_le zs ds n x (show i ≤ j by omega))
    · obtain rfl : i = j + 1 := by omega
      exact Int.le_refl _
/-- Labels lie in the same class. -/
theorem foldG_class {zs : List Nl} {ds : List Int} {n : Nat} {Q : Int → Bool} (hQ : ∀ k, k < n → (k : Int) ∉ ds → Q (lAt zs k).one = Q (lAt zs k).two) {g : Int → Int} (hg : ∀ x, Q (g x) = Q x) : ∀ k, k ≤ n → ∀ x, Q (foldG zs ds g k x) = Q x
  | 0, _, x => hg x
  | k + 1, hk, x => by
    have ih := foldG_class hQ hg k (by omega)
    show Q (stepG zs ds (foldG zs ds g k) k x) = Q x
    unfold stepG
    split
    · exact ih x
    · rename_i hd
      simp only
      split
      · rename_i h
        have h1 := hQ k (by omega) hd
        have h2 : Q (min (foldG zs ds g k (lAt zs k).one) (foldG zs ds g k (lAt zs k).two)) = Q (lAt zs k).one := by
          rcases Int.le_total (foldG zs ds g k (lAt zs k).one) (foldG zs ds g k (lAt zs k).two) with h3 | h3
          · rw [Int.min_eq_left h3, ih]
          · rw [Int.min_eq_right h3, ih, h1]
        rcases h with rfl | rfl
        · exact h2
        · rw [h2, h1]
      · exact ih x
theorem labG_class {zs : List Nl} {ds : List Int} {n : Nat} {Q : Int → Bool} (hQ : ∀ k, k < n → (k : Int) ∉ ds → Q (lAt zs k).one = Q (lAt zs k).two) : ∀ r x, Q (labG zs ds n r x) = Q x
  | 0, _ => rfl
  | r + 1, x => foldG_class hQ (labG_class hQ r) n (Nat.le_refl n) x
/-- Along a trail labels fall. -/
theorem labG_trail {zs : List Nl} {ds : List Int} {op : Wy → Bool} (hop : ∀ w, isWay zs w → op w = true → (w.link : Int) ∉ ds) {y : Int} {tr : List Wy} (ht : TrOk zs op [y] tr) :
    ∀ (i : Nat) (p s : List Wy) (w : Wy), p.length = i → tr = p ++ w :: s → labG zs ds zs.length (i + 1) w.to ≤ y := by
  intro i
  induction i using Nat.strongRecOn with
  | ind i ih =>
    intro p s w hp htr
    obtain ⟨hw, ho, hfr, -⟩ := ht p w s htr
    have hd := hop w hw ho
    have hadj := foldG_adj zs ds (labG zs ds zs.length i) hw.1 hd
    have hto : labG zs ds zs.length (i + 1) w.to ≤ labG zs ds zs.length i w.fr := by
      show foldG zs ds (labG zs ds zs.length i) zs.length w.to ≤ _
      rcases hw.2 with ⟨a, b⟩ | ⟨a, b⟩
      · rw [a, b]; exact hadj.1
      · rw [a, b]; exact hadj.2
    refine Int.le_trans hto ?_
    rcases hfr with h | h
    · rw [List.mem_singleton] at h
      rw [h]
      exact labG_le zs ds zs.length y (Nat.zero_le i)
    · obtain ⟨v, hv, e⟩ := List.mem_map.1 h
      obtain ⟨p1, s1, rfl⟩ := List.append_of_mem hv
      have h1 := ih p1.length (by rw [← hp]; simp) p1 (s1 ++ w :: s) v rfl (by rw [htr]; simp)
      rw [← e]
      exact Int.le_trans (labG_le zs ds zs.length v.to (by rw [← hp]; simp)) h1
/-- After as many rounds as there are names each has the least name of its class. -/
theorem labG_least {N : Nat} {zs : List Nl} (hz : OkL N zs) {ds : List Int} {op : Wy → Bool} (hop : ∀ w, isWay zs w → (op w = true ↔ (w.link : Int) ∉ ds)) {x : Int} (hx : 0 ≤ x ∧ x < N) {P : Int → Bool} (hP : RS zs op [x] P) :
    P (labG zs ds zs.length N x) = true ∧ ∀ y, 0 ≤ y → y < N → P y = true → labG zs ds zs.length N x ≤ y := by
  have hb : ∀ w, isWay zs w → op w = op w.back := fun w hw => by
    rw [Bool.eq_iff_iff, hop w hw, hop w.back hw.back]; rfl
  constructor
  · rw [labG_class (Q := P) (fun k hk hd => ?_) N x]
    · exact hP.st x (by simp)
    · have w1 : isWay zs ⟨k, (lAt zs k).one, (lAt zs k).two⟩ := ⟨hk, .inl ⟨rfl, rfl⟩⟩
      have w2 : isWay zs ⟨k, (lAt zs k).two, (lAt zs k).one⟩ := ⟨hk, .inr ⟨rfl, rfl⟩⟩
      rw [Bool.eq_iff_iff]
      exact ⟨fun e => hP.cl _ w1 ((hop _ w1).2 hd) e, fun e => hP.cl _ w2 ((hop _ w2).2 hd) e⟩
  · intro y h0 h1 hy
    obtain ⟨tr, ht, hc⟩ := trail_exists hz op (fs := [y]) (fun z hz => by rw [List.mem_singleton] at hz; omega)
    have hQ := rs_of ht hc
    have hxy := rs_back (N := N) hb hP hQ hy x
    rw [hP.st x (by simp)] at hxy
    have hrk := cameW_some.1 hxy.symm
    rcases hrk with h | h
    · rw [List.mem_singleton] at h
      rw [h]; exact labG_le zs ds zs.length y (Nat.zero_le N)
    · obtain ⟨v, hv, e⟩ := List.mem_map.1 h
      obtain ⟨p1, s1, htr⟩ := List.append_of_mem hv
      have h2 := labG_trail (ds := ds) (fun w hw ho => (hop w hw).1 ho) ht p1.length p1 s1 v rfl htr
      have h3 := tr_len hz ht (fun z hz => by rw [List.mem_singleton] at hz; omega)
      rw [← e]
      exact Int.le_trans (labG_le zs ds zs.length v.to (by rw [htr] at h3; simp at h3; omega)) h2
end Go.Proofs.Ytigohccehllmnaa

namespace Go.Proofs.Ytigohccehllmnaa
set_option linter.unusedSimpArgs false
set_option linter.unusedVariables false
open Go.RowKit Go.Shelf

theorem rs_range {N : Nat} {zs : List Nl} (hz : OkL N zs) {op : Wy → Bool} {x : Int} (hx : 0 ≤ x ∧ x < N) {P : Int → Bool} (hP : RS zs op [x] P) {z : Int} (h : P z = true) : 0 ≤ z ∧ z < N := by
  have := hP.mi (fun z => decide (0 ≤ z ∧ z < N)) (fun w hw _ _ => decide_eq_true (hw.lt hz).2) (fun v hv => by rw [List.mem_singleton] at hv; subst hv; exact decide_eq_true hx) z h
  exact of_decide_eq_true this
section
variable {N : Nat} {zs : List Nl} {ds : List Int} {op : Wy → Bool}
theorem labG_leastI (hz : OkL N zs) (hop : ∀ w, isWay zs w → (op w = true ↔ (w.link : Int) ∉ ds)) {x : Int} (hx : 0 ≤ x ∧ x < N) {P : Int → Bool} (hP : RS zs op [x] P) :
    P (labG zs ds zs.length N x) = true ∧ ∀ y : Int, 0 ≤ y → y < (N : Int) → P y = true → labG zs ds zs.length N x ≤ y :=
  ⟨(labG_least hz hop hx hP).1, fun y h0 h1 hy => by
    obtain ⟨n, rfl⟩ : ∃ n : Nat, y = (n : Int) := ⟨y.toNat, by omega⟩
    exact (labG_least hz hop hx hP).2 n (by omega) (by omega) hy⟩
theorem lab_same (hz : OkL N zs) (hop : ∀ w, isWay zs w → (op w = true ↔ (w.link : Int) ∉ ds)) {x y : Int} (hx : 0 ≤ x ∧ x < N) {P : Int → Bool} (hP : RS zs op [x] P) (h : P y = true) : labG zs ds zs.length N x = labG zs ds zs.length N y := by
  have hb : ∀ w, isWay zs w → op w = op w.back := fun w hw => by
    rw [Bool.eq_iff_iff, hop w hw, hop w.back hw.back]; rfl
  have hy := rs_range hz hx hP h
  obtain ⟨Q, hQ⟩ := rs_exists hz op (fs := [y]) (fun z hz => by rw [List.mem_singleton] at hz; omega)
  have e := rs_back (N := N) hb hP hQ h
  obtain ⟨a1, a2⟩ := labG_leastI hz hop hx hP
  obtain ⟨b1, b2⟩ := labG_leastI hz hop hy hQ
  have ra := rs_range hz hx hP a1
  have rb := rs_range hz hy hQ b1
  have h1 := a2 (labG zs ds zs.length N y) rb.1 rb.2 ((e _).trans b1)
  have h2 := b2 (labG zs ds zs.length N x) ra.1 ra.2 ((e _).symm.trans a1)
  omega
theorem lab_in (hz : OkL N zs) (hop : ∀ w, isWay zs w → (op w = true ↔ (w.link : Int) ∉ ds)) {x k : Int} (hx : 0 ≤ x ∧ x < N) (hl : labG zs ds zs.length N x = k) {R : Int → Bool} (hR : RS zs op [k] R) : R x = true := by
  have hb : ∀ w, isWay zs w → op w = op w.back := fun w hw => by
    rw [Bool.eq_iff_iff, hop w hw, hop w.back hw.back]; rfl
  obtain ⟨P, hP⟩ := rs_exists hz op (fs := [x]) (fun z hz => by rw [List.mem_singleton] at hz; omega)
  have h1 := (labG_least hz hop hx hP).1
  rw [hl] at h1
  rw [← rs_back (N := N) hb hP hR h1 x]
  exact hP.st x (by simp)
end
/-- The document's groups. -/
def dgK (lab : Int → Int) (c : Nat) : Nat → List (List Int)
  | 0 => []
  | k + 1 => if 0 < (nmK (fun x => decide (lab x = (k : Int))) c).length then dgK lab c k ++ [nmK (fun x => decide (lab x = (k : Int))) c] else dgK lab c k
theorem nmK_congr2 {p q : Int → Bool} : ∀ {c : Nat}, (∀ k, k < c → p (k : Int) = q (k : Int)) → nmK p c = nmK q c
  | 0, _ => rfl
  | c + 1, h => by
    have ih := nmK_congr2 (p := p) (q := q) (c := c) (fun k hk => h k (by omega))
    cases e : q (c : Int)
    · rw [nmK_no (by rw [h c (by omega)]; exact e), nmK_no e, ih]
    · rw [nmK_yes (by rw [h c (by omega)]; exact e), nmK_yes e, ih]
theorem nmK_pos {p : Int → Bool} {k : Nat} (hp : p (k : Int) = true) : ∀ {c : Nat}, k < c → 0 < (nmK p c).length
  | 0, h => by omega
  | c + 1, h => by
    cases e : p (c : Int)
    · rw [nmK_no e]
      have : k ≠ c := fun e2 => by rw [e2, e] at hp; cases hp
      exact nmK_pos hp (by omega)
    · rw [nmK_yes e, List.length_append]; simp
theorem nmK_nil {p : Int → Bool} : ∀ {c : Nat}, (∀ k, k < c → p (k : Int) = false) → nmK p c = []
  | 0, _ => rfl
  | c + 1, h => by rw [nmK_no (h c (by omega))]; exact nmK_nil (fun k hk => h k (by omega))
/-- Both say the same groups. -/
theorem gps_doc {N : Nat} {zs : List Nl} (hz : OkL N zs) {ds : List Int} {op : Wy → Bool} (hop : ∀ w, isWay zs w → (op w = true ↔ (w.link : Int) ∉ ds)) {k : Nat} {gs : List (List Int)} {G : Int → Bool} (h : Gps zs op N k gs G) (hk : k ≤ N) :
    gs = dgK (labG zs ds zs.length N) N k ∧ ∀ x : Nat, x < N → (G (x : Int) = true ↔ labG zs ds zs.length N (x : Int) < (k : Int)) := by
  obtain ⟨lab, hlab⟩ : ∃ lab, labG zs ds zs.length N = lab := ⟨_, rfl⟩
  have hcls : ∀ x : Nat, x < N → ∃ P, RS zs op [(x : Int)] P ∧ P (lab x) = true ∧ 0 ≤ lab x ∧ lab (x : Int) ≤ x := fun x hx => by
    obtain ⟨P, hP⟩ := rs_exists hz op (fs := [(x : Int)]) (fun z hz => by rw [List.mem_singleton] at hz; omega)
    have h1 := labG_least hz hop (x := (x : Int)) (by omega) hP
    rw [hlab] at h1
    have h2 := rs_range hz (by omega) hP h1.1
    exact ⟨P, hP, h1.1, h2.1, h1.2 x (by omega) (by omega) (hP.st _ (by simp))⟩
  have hsame : ∀ {x : Nat} {y : Int} {P : Int → Bool}, x < N → RS zs op [(x : Int)] P → P y = true → lab x = lab y := fun hx hP h => by
    have := lab_same (ds := ds) hz hop (by omega) hP h
    rwa [hlab] at this
  have hin : ∀ {x : Nat} {k : Int} {R : Int → Bool}, x < N → lab x = k → RS zs op [k] R → R x = true := fun hx hl hR => lab_in (ds := ds) hz hop (by omega) (by rw [hlab]; exact hl) hR
  rw [hlab]
  clear hlab
  induction h with
  | zero => exact ⟨rfl, fun x hx => by obtain ⟨P, hP, h1, h2, h3⟩ := hcls x hx; simp; omega⟩
  | @skip k gs G hG hgk ih =>
    obtain ⟨i1, i2⟩ := ih (by omega)
    have hlk := (i2 k (by omega)).1 hgk
    have hno : ∀ x : Nat, x < N → lab x ≠ k := fun x hx e => by
      obtain ⟨P, hP, h1, h2, h3⟩ := hcls x hx
      have := hsame hx hP h1
      rw [e] at this
      omega
    refine ⟨?_, fun x hx => ?_⟩
    · show gs = if _ then _ else _
      rw [nmK_nil (fun x hx => decide_eq_false (hno x hx)), if_neg (by simp)]
      exact i1
    · have := hno x hx
      rw [i2 x hx]
      omega
  | @add k gs G R hG hgk hR ih =>
    obtain ⟨i1, i2⟩ := ih (by omega)
    have hlk : lab k = k := by
      have h1 : ¬ lab (k : Int) < k := fun e => by rw [(i2 k (by omega)).2 e] at hgk; cases hgk
      obtain ⟨P, hP, h2, h3, h4⟩ := hcls k (by omega)
      omega
    have hR2 : ∀ x : Nat, x < N → R x = decide (lab x = k) := fun x hx => by
      rw [Bool.eq_iff_iff, decide_eq_true_iff]
      exact ⟨fun e => by have := hsame (show k < N by omega) hR e; omega, fun e => hin hx e hR⟩
    refine ⟨?_, fun x hx => ?_⟩
    · show _ = if _ then _ else _
      rw [nmK_congr2 (q := fun x => decide (lab x = (k : Int))) hR2, if_pos (nmK_pos (k := k) (decide_eq_true hlk) (by omega)), i1]
    · rw [Bool.or_eq_true, i2 x hx, hR2 x hx, decide_eq_true_iff]
      omega
end Go.Proofs.Ytigohccehllmnaa

namespace Go.Proofs.Ytigohccehllmnaa
set_option linter.unusedSimpArgs false
set_option linter.unusedVariables false
open Go.RowKit Go.Shelf

section
variable {N : Nat} {zs : List Nl} {ds : List Int} {op : Wy → Bool}
/-- With a closed side no left name is joined with a right one. -/
theorem join_none (hz : OkL N zs) (hop : ∀ w, isWay zs w → (op w = true ↔ (w.link : Int) ∉ ds)) {L R : List Int} {S : Int → Bool} (hS : ClosedS zs op S) (hsd : IsSd L R S) {a b : Int} (ha : a ∈ L) (hb : b ∈ R) (hN : (0 ≤ a ∧ a < N) ∧ 0 ≤ b ∧ b < N) : labG zs ds zs.length N a ≠ labG zs ds zs.length N b := by
  intro e
  have hbk : ∀ w, isWay zs w → op w = op w.back := fun w hw => by
    rw [Bool.eq_iff_iff, hop w hw, hop w.back hw.back]; rfl
  obtain ⟨P, hP⟩ := rs_exists hz op (fs := [a]) (fun z hz => by rw [List.mem_singleton] at hz; omega)
  obtain ⟨Q, hQ⟩ := rs_exists hz op (fs := [b]) (fun z hz => by rw [List.mem_singleton] at hz; omega)
  have h1 := (labG_leastI (ds := ds) hz hop hN.1 hP).1
  have h2 := (labG_leastI (ds := ds) hz hop hN.2 hQ).1
  rw [← e] at h2
  obtain ⟨T, hT⟩ := rs_exists hz op (fs := [labG zs ds zs.length N a]) (fun z hz2 => by
    rw [List.mem_singleton] at hz2; rw [hz2]; exact rs_range hz hN.1 hP h1)
  have e1 := rs_back (N := N) hbk hP hT h1
  have e2 := rs_back (N := N) hbk hQ hT h2
  have hPb : P b = true := by rw [e1, ← e2]; exact hQ.st b (by simp)
  have := hP.mi S hS (fun z hz => by rw [List.mem_singleton] at hz; rw [hz]; exact hsd.1 a ha) b hPb
  rw [hsd.2 b hb] at this; cases this
theorem path_in {P : Int → Bool} (hP : ClosedS zs op P) : ∀ (ws : List Wy) (a en : Int), P a = true → (∀ x ∈ ws, isWay zs x ∧ op x = true) → IsPath a ws en → P en = true
  | [], a, en, ha, _, h => by obtain rfl : a = en := h; exact ha
  | w :: ws, a, en, ha, hw, h => by
    have h1 := hw w (by simp)
    exact path_in hP ws w.to en (hP w h1.1 h1.2 (by rw [h.1]; exact ha)) (fun x hx => hw x (List.mem_cons_of_mem _ hx)) h.2
/-- Ways through join a left name with a right one. -/
theorem join_path (hz : OkL N zs) (hop : ∀ w, isWay zs w → (op w = true ↔ (w.link : Int) ∉ ds)) {a en : Int} {ws : List Wy} (ha : 0 ≤ a ∧ a < N) (hw : ∀ x ∈ ws, isWay zs x ∧ op x = true) (hp : IsPath a ws en) : labG zs ds zs.length N a = labG zs ds zs.length N en := by
  obtain ⟨P, hP⟩ := rs_exists hz op (fs := [a]) (fun z hz => by rw [List.mem_singleton] at hz; omega)
  exact lab_same hz hop ha hP (path_in hP.cl ws a en (hP.st a (by simp)) hw hp)
end
end Go.Proofs.Ytigohccehllmnaa
