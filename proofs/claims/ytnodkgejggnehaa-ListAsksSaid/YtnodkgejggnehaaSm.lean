/- Stage 5: joinings as sets of names; what the sizes and the kinds say of them: mathematics. -/
import Derived.Test.YtnodkgejggnehaaBz
namespace Go.Proofs.Ytnodkgejggnehaa
set_option linter.unusedSimpArgs false
set_option linter.unusedVariables false
/-- How many names a set has. -/
def cntP (n : Nat) (p : Nat → Bool) : Nat := ((List.range n).filter p).length
theorem fI_cnt (p : Nat → Bool) (n : Nat) : (fI p n).length = cntP n p := by unfold fI cntP; rw [List.length_map]
theorem cntP_congr {n : Nat} {p q : Nat → Bool} (h : ∀ k, k < n → p k = q k) : cntP n p = cntP n q := by
  unfold cntP; rw [List.filter_congr (fun j hj => h j (List.mem_range.1 hj))]
theorem fI_congr {n : Nat} {p q : Nat → Bool} (h : ∀ k, k < n → p k = q k) : fI p n = fI q n := by
  unfold fI; rw [List.filter_congr (fun j hj => h j (List.mem_range.1 hj))]
/-- How many links a greatest joining has. -/
def siz (n : Nat) (zs : List Rg) (ks : List Int) : Nat := sizeF n zs (opnL n zs ks) ks.length
/-- What a sheet's parts are. -/
structure ShN (n : Nat) (zs : List Rg) (ks : List Int) : Prop where
  z : ZOk n zs
  nm : NmOk n ks
  nd : (kNt ks).Nodup
  ap : ∀ j k : Nat, j < n → k < n → (j : Int) ∈ ks → (k : Int) ∈ ks → j ≠ k → mtB zs j k = false
theorem shn_of {sl sr : Int} {n : Nat} {zs : List Rg} {ks : List Int} (he : chkS sl sr zs ks = 0) (hn : zs.length = n) : ShN n zs ks := by
  have hj := JoP.start (p := fun j => decide ((j : Int) ∈ ks)) he hn (fun j => by simp)
  subst hn
  have S := shg_of he
  refine ⟨S.zok, S.nm, ?_, fun j k hj' hk' h1 h2 hne => hj.ap j k hj' hk' (decide_eq_true h1) (decide_eq_true h2) hne⟩
  have hp := ris_pw S.ris
  have hr := ris_rng S.ris
  unfold kNt List.Nodup
  rw [List.pairwise_map]
  refine List.Pairwise.imp_of_mem ?_ hp
  intro a b ha hb hab e
  have := hr a ha
  have := hr b hb
  omega
section
variable {n : Nat} {zs : List Rg} {ks : List Int}
theorem opn_iff (H : ShN n zs ks) {k : Nat} (hk : k < n) : opnL n zs ks k = true ↔ ∀ j : Nat, j < n → (j : Int) ∈ ks → mtB zs k j = false := by
  unfold opnL
  rw [decide_eq_true hk, Bool.true_and, Bool.not_eq_true']
  constructor
  · intro h j hj hjk
    cases e : mtB zs k j
    · rfl
    · have := (tkB_iff H.z H.nm hk).2 ⟨j, hj, hjk, e⟩
      rw [h] at this; cases this
  · intro h
    cases e : tkB zs ks k
    · rfl
    · obtain ⟨j, hj, hjk, hm⟩ := (tkB_iff H.z H.nm hk).1 e
      rw [h j hj hjk] at hm; cases hm
theorem known_closed (H : ShN n zs ks) {k : Nat} (hk : k < n) (h : (k : Int) ∈ ks) : opnL n zs ks k = false := by
  cases e : opnL n zs ks k
  · rfl
  · have := (opn_iff H hk).1 e k hk h
    rw [mtB_refl] at this; cases this
/-- A link of a joining is open or known. -/
theorem JoP.open_or (H : ShN n zs ks) {p : Nat → Bool} (h : JoP n zs ks p) {k : Nat} (hk : k < n) (hp : p k = true) : opnL n zs ks k = true ∨ (k : Int) ∈ ks := by
  by_cases e : (k : Int) ∈ ks
  · exact .inr e
  · left
    refine (opn_iff H hk).2 (fun j hj hjk => h.ap k j hk hj hp (h.kn j hjk) (fun e2 => e (by rw [e2]; exact hjk)))
/-- The open links of a joining. -/
def opP (n : Nat) (zs : List Rg) (ks : List Int) (p : Nat → Bool) : List Nat := (List.range n).filter fun k => opnL n zs ks k && p k
theorem mem_opP {p : Nat → Bool} {k : Nat} : k ∈ opP n zs ks p ↔ k < n ∧ opnL n zs ks k = true ∧ p k = true := by simp [opP]
theorem JoP.cnt (H : ShN n zs ks) {p : Nat → Bool} (h : JoP n zs ks p) : cntP n p = (opP n zs ks p).length + ks.length := by
  unfold cntP opP
  rw [filter_split (opnL n zs ks) p (List.range n)]
  congr 1
  have e : ((List.range n).filter fun k => !opnL n zs ks k && p k).length = (kNt ks).length := by
    refine Nat.le_antisymm (nodup_le _ _ (nd_filter _) (fun k hk => ?_)) (nodup_le _ _ H.nd (fun k hk => ?_))
    · rw [List.mem_filter, List.mem_range, Bool.and_eq_true, Bool.not_eq_true'] at hk
      refine (mem_kNt H.nm).2 ((h.open_or H hk.1 hk.2.2).resolve_left (by rw [hk.2.1]; simp))
    · have hk2 := (mem_kNt H.nm).1 hk
      obtain ⟨q, hq, e⟩ := H.nm _ hk2
      obtain rfl : k = q := by omega
      rw [List.mem_filter, List.mem_range, Bool.and_eq_true, Bool.not_eq_true']
      exact ⟨hq, known_closed H hq hk2, h.kn k hk2⟩
  rw [e, kNt]; simp
theorem JoP.mat {p : Nat → Bool} (h : JoP n zs ks p) : Mat (mtB zs) (opP n zs ks p) := by
  unfold Mat
  refine List.Pairwise.imp_of_mem ?_ (nd_filter _)
  intro a b ha hb hne
  have ha := mem_opP.1 ha
  have hb := mem_opP.1 hb
  exact h.ap a b ha.1 hb.1 ha.2.2 hb.2.2 hne
/-- A joining from open links of which no two meet. -/
def joN (ks : List Int) (N : List Nat) : Nat → Bool := fun k => decide (k ∈ N) || decide ((k : Int) ∈ ks)
theorem joN_ok (H : ShN n zs ks) {N : List Nat} (hN : Mat (mtB zs) N) (ho : ∀ k ∈ N, k < n ∧ opnL n zs ks k = true) : JoP n zs ks (joN ks N) := by
  refine ⟨fun j k hj hk h1 h2 hne => ?_, fun k hk => by unfold joN; rw [decide_eq_true hk]; simp⟩
  unfold joN at h1 h2
  rw [Bool.or_eq_true, decide_eq_true_eq, decide_eq_true_eq] at h1 h2
  rcases h1 with h1 | h1 <;> rcases h2 with h2 | h2
  · exact mat_at (mtB_symm zs) hN h1 h2 hne
  · exact (opn_iff H hj).1 (ho j h1).2 k hk h2
  · rw [mtB_symm]; exact (opn_iff H hk).1 (ho k h2).2 j hj h1
  · exact H.ap j k hj hk h1 h2 hne
theorem mat_nodup {N : List Nat} (hN : Mat (mtB zs) N) : N.Nodup := List.Pairwise.imp (fun {a b} h e => by subst e; rw [mtB_refl] at h; cases h) hN
theorem joN_cnt (H : ShN n zs ks) {N : List Nat} (hN : Mat (mtB zs) N) (ho : ∀ k ∈ N, k < n ∧ opnL n zs ks k = true) : cntP n (joN ks N) = N.length + ks.length := by
  rw [(joN_ok H hN ho).cnt H]
  congr 1
  refine Nat.le_antisymm (nodup_le _ _ (nd_filter _) (fun k hk => ?_)) (nodup_le _ _ (mat_nodup hN) (fun k hk => ?_))
  · obtain ⟨h1, h2, h3⟩ := mem_opP.1 hk
    unfold joN at h3
    rw [Bool.or_eq_true, decide_eq_true_eq, decide_eq_true_eq] at h3
    refine h3.resolve_right (fun e => ?_)
    rw [known_closed H h1 e] at h2; cases h2
  · obtain ⟨h1, h2⟩ := ho k hk
    exact mem_opP.2 ⟨h1, h2, by unfold joN; rw [decide_eq_true hk]; rfl⟩
/-- No joining has more links than a greatest one. -/
theorem JoP.le (H : ShN n zs ks) {p : Nat → Bool} (h : JoP n zs ks p) : cntP n p ≤ siz n zs ks := by
  rw [h.cnt H]
  have := mm_ub (mtB_symm zs) (mtB_refl zs) (L := opL n (opnL n zs ks)) h.mat (fun k hk => by
    obtain ⟨a, b, _⟩ := mem_opP.1 hk
    exact mem_opL.2 ⟨a, b⟩)
  unfold siz sizeF
  omega
/-- A greatest joining. -/
def Gre (n : Nat) (zs : List Rg) (ks : List Int) (p : Nat → Bool) : Prop := JoP n zs ks p ∧ cntP n p = siz n zs ks
theorem gre_ex (H : ShN n zs ks) : ∃ p, Gre n zs ks p := by
  obtain ⟨N, h1, h2, h3⟩ := mm_ex (mtB_symm zs) (opL n (opnL n zs ks))
  have ho : ∀ k ∈ N, k < n ∧ opnL n zs ks k = true := fun k hk => mem_opL.1 (h2.subset hk)
  exact ⟨joN ks N, joN_ok H h1 ho, by rw [joN_cnt H h1 ho, h3]; rfl⟩
theorem gre_of (H : ShN n zs ks) {p : Nat → Bool} (h : JoP n zs ks p) (hc : siz n zs ks ≤ cntP n p) : Gre n zs ks p := ⟨h, Nat.le_antisymm (h.le H) hc⟩
/-- Without some links that are not known: whether all greatest joinings have one of them. -/
theorem less_iff (H : ShN n zs ks) {ns : List Int} (hn : ∀ x ∈ ns, x ∉ ks) : mm (mtB zs) (opL n (opX (opnL n zs ks) ns)) < mm (mtB zs) (opL n (opnL n zs ks)) ↔ ∀ p, Gre n zs ks p → ∃ k : Nat, k < n ∧ (k : Int) ∈ ns ∧ p k = true := by
  constructor
  · intro hlt p hp
    apply Classical.byContradiction
    intro hno
    have h1 := mm_ub (mtB_symm zs) (mtB_refl zs) (L := opL n (opX (opnL n zs ks) ns)) hp.1.mat (fun k hk => by
      obtain ⟨a, b, c⟩ := mem_opP.1 hk
      refine mem_opL.2 ⟨a, ?_⟩
      unfold opX
      rw [b, decide_eq_false (fun e => hno ⟨k, a, e, c⟩)]; rfl)
    have h2 := hp.1.cnt H
    have h3 := hp.2
    unfold siz sizeF at h3
    omega
  · intro h
    apply Classical.byContradiction
    intro hge
    obtain ⟨N, h1, h2, h3⟩ := mm_ex (mtB_symm zs) (opL n (opX (opnL n zs ks) ns))
    have hx : ∀ k ∈ N, k < n ∧ opnL n zs ks k = true ∧ (k : Int) ∉ ns := fun k hk => by
      obtain ⟨a, b⟩ := mem_opL.1 (h2.subset hk)
      unfold opX at b
      rw [Bool.and_eq_true, Bool.not_eq_true', decide_eq_false_iff_not] at b
      exact ⟨a, b.1, b.2⟩
    have ho : ∀ k ∈ N, k < n ∧ opnL n zs ks k = true := fun k hk => ⟨(hx k hk).1, (hx k hk).2.1⟩
    obtain ⟨k, hk, hkn, hpk⟩ := h _ (gre_of H (joN_ok H h1 ho) (by rw [joN_cnt H h1 ho]; unfold siz sizeF; omega))
    unfold joN at hpk
    rw [Bool.or_eq_true, decide_eq_true_eq, decide_eq_true_eq] at hpk
    rcases hpk with e | e
    · exact (hx k e).2.2 hkn
    · exact hn _ hkn e
theorem opX_known (H : ShN n zs ks) {k : Nat} (hk : k < n) (h : (k : Int) ∈ ks) : mm (mtB zs) (opL n (opX (opnL n zs ks) [(k : Int)])) = mm (mtB zs) (opL n (opnL n zs ks)) := by
  congr 1
  refine List.filter_congr (fun j hj => ?_)
  unfold opX
  by_cases e : j = k
  · subst e; rw [known_closed H hk h]; rfl
  · rw [decide_eq_false (by simp; omega)]; simp
theorem lessJ_none (H : ShN n zs ks) {ns : List Int} (hn : ∀ x ∈ ns, x ∉ ks) : lessJ (kNt ks) ns = kNt ks := by
  unfold lessJ
  refine List.filter_eq_self.2 (fun j hj => ?_)
  have h1 := (mem_kNt H.nm).1 hj
  rw [decide_eq_false (fun e => hn _ e h1)]; rfl
theorem lessJ_lt (H : ShN n zs ks) {ns : List Int} {k : Nat} (h : (k : Int) ∈ ks) (hn : (k : Int) ∈ ns) : (lessJ (kNt ks) ns).length < (kNt ks).length := by
  unfold lessJ
  exact List.length_filter_lt_length_iff_exists.2 ⟨k, (mem_kNt H.nm).2 h, by simp [hn]⟩
theorem opX_le (op : Nat → Bool) (ns : List Int) : mm (mtB zs) (opL n (opX op ns)) ≤ mm (mtB zs) (opL n op) := by
  obtain ⟨N, h1, h2, h3⟩ := mm_ex (mtB_symm zs) (opL n (opX op ns))
  rw [← h3]
  exact mm_ub (mtB_symm zs) (mtB_refl zs) h1 (fun k hk => by
    obtain ⟨a, b⟩ := mem_opL.1 (h2.subset hk)
    unfold opX at b
    rw [Bool.and_eq_true] at b
    exact mem_opL.2 ⟨a, b.1⟩)
/-- Whether a greatest joining without some links has fewer links. -/
theorem few_iff (H : ShN n zs ks) (ns : List Int) (hns : ∀ k : Nat, (k : Int) ∈ ns → k < n) : sizeF n zs (opX (opnL n zs ks) ns) (lessJ (kNt ks) ns).length < sizeF n zs (opnL n zs ks) (kNt ks).length ↔ ∀ p, Gre n zs ks p → ∃ k : Nat, k < n ∧ (k : Int) ∈ ns ∧ p k = true := by
  unfold sizeF
  by_cases hex : ∃ k : Nat, (k : Int) ∈ ks ∧ (k : Int) ∈ ns
  · obtain ⟨k, h1, h2⟩ := hex
    have h3 := lessJ_lt H h1 h2
    have h4 := opX_le (n := n) (zs := zs) (opnL n zs ks) ns
    exact ⟨fun _ p hp => ⟨k, hns k h2, h2, hp.1.kn k h1⟩, fun _ => by omega⟩
  · have hn : ∀ x ∈ ns, x ∉ ks := fun x hx hxk => by
      obtain ⟨q, hq, rfl⟩ := H.nm x hxk
      exact hex ⟨q, hxk, hx⟩
    rw [lessJ_none H hn, ← less_iff H hn]
    omega
theorem kind_always (H : ShN n zs ks) {k : Nat} (hk : k < n) : kindS n zs (opnL n zs ks) (kNt ks) k = 2 ↔ ∀ p, Gre n zs ks p → p k = true := by
  have key := few_iff H [(k : Int)] (fun j hj => by simp at hj; omega)
  have e : (∀ p, Gre n zs ks p → ∃ j : Nat, j < n ∧ (j : Int) ∈ [(k : Int)] ∧ p j = true) ↔ ∀ p, Gre n zs ks p → p k = true := by
    constructor
    · intro h p hp
      obtain ⟨j, _, h2, h3⟩ := h p hp
      obtain rfl : j = k := by simp at h2; omega
      exact h3
    · intro h p hp
      exact ⟨k, hk, by simp, h p hp⟩
  rw [e] at key
  unfold kindS
  rw [← key]
  constructor
  · intro h
    split at h
    · assumption
    · split at h
      · cases h
      · split at h <;> cases h
  · intro h; rw [if_pos h]
theorem kind_never (H : ShN n zs ks) {k : Nat} (hk : k < n) : kindS n zs (opnL n zs ks) (kNt ks) k = 0 ↔ ∀ p, Gre n zs ks p → p k = false := by
  constructor
  · intro h p hp
    cases hpk : p k
    · rfl
    exfalso
    have h2 : kindS n zs (opnL n zs ks) (kNt ks) k ≠ 2 := by rw [h]; decide
    have hnk : (k : Int) ∉ ks := fun e => h2 ((kind_always H hk).2 (fun q hq => hq.1.kn k e))
    have hop := (hp.1.open_or H hk hpk).resolve_right hnk
    unfold kindS at h
    split at h
    · cases h
    · rw [if_neg (by rw [hop]; simp)] at h
      split at h
      · rename_i hlt
        have hkN : k ∈ opP n zs ks p := mem_opP.2 ⟨hk, hop, hpk⟩
        have hp2 := List.perm_cons_erase hkN
        have hMc : Mat (mtB zs) (k :: (opP n zs ks p).erase k) := (List.Perm.pairwise_iff (fun {a b} h => by rw [mtB_symm]; exact h) hp2).1 hp.1.mat
        obtain ⟨hM1, hM2⟩ := List.pairwise_cons.1 hMc
        have h4 := mm_ub (mtB_symm zs) (mtB_refl zs) (L := opL n (opW n zs (opnL n zs ks) k)) hM2 (fun j hj => by
          obtain ⟨a, b, _⟩ := mem_opP.1 (List.mem_of_mem_erase hj)
          refine mem_opL.2 ⟨a, ?_⟩
          unfold opW
          rw [b, mtB_symm, hM1 j hj]; simp)
        have hlen : (opP n zs ks p).length = ((opP n zs ks p).erase k).length + 1 := by rw [hp2.length_eq]; rfl
        have h5 := hp.1.cnt H
        have h6 := hp.2
        unfold siz at h6
        unfold sizeF at hlt h6
        have h7 : (kNt ks).length = ks.length := by simp [kNt]
        omega
      · cases h
  · intro h
    have hn2 : kindS n zs (opnL n zs ks) (kNt ks) k ≠ 2 := fun e => by
      obtain ⟨p, hp⟩ := gre_ex H
      have h1 := (kind_always H hk).1 e p hp
      rw [h p hp] at h1; cases h1
    unfold kindS at hn2 ⊢
    split
    · rename_i h0; rw [if_pos h0] at hn2; exact absurd rfl hn2
    · split
      · rfl
      · rename_i hop
        have hop : opnL n zs ks k = true := by
          cases e : opnL n zs ks k
          · exact absurd e hop
          · rfl
        rw [if_pos]
        apply Classical.byContradiction
        intro hge
        obtain ⟨N, h1, h2, h3⟩ := mm_ex (mtB_symm zs) (opL n (opW n zs (opnL n zs ks) k))
        have hx : ∀ j ∈ N, j < n ∧ opnL n zs ks j = true ∧ mtB zs j k = false := fun j hj => by
          obtain ⟨a, b⟩ := mem_opL.1 (h2.subset hj)
          unfold opW at b
          rw [decide_eq_true a, Bool.true_and, Bool.and_eq_true, Bool.not_eq_true'] at b
          exact ⟨a, b.1, b.2⟩
        have hM : Mat (mtB zs) (k :: N) := List.pairwise_cons.2 ⟨fun j hj => by rw [mtB_symm]; exact (hx j hj).2.2, h1⟩
        have ho : ∀ j ∈ k :: N, j < n ∧ opnL n zs ks j = true := fun j hj => by
          rcases List.mem_cons.1 hj with rfl | hj
          · exact ⟨hk, hop⟩
          · exact ⟨(hx j hj).1, (hx j hj).2.1⟩
        have hgr := gre_of H (joN_ok H hM ho) (by
          rw [joN_cnt H hM ho, List.length_cons]
          unfold siz sizeF
          unfold sizeF at hge
          have h7 : (kNt ks).length = ks.length := by simp [kNt]
          omega)
        have := h _ hgr
        unfold joN at this
        simp at this
theorem kind_may (n : Nat) (zs : List Rg) (op : Nat → Bool) (J : List Nat) (k : Nat) : kindS n zs op J k = 0 ∨ kindS n zs op J k = 1 ∨ kindS n zs op J k = 2 := by
  unfold kindS
  split
  · exact .inr (.inr rfl)
  · split
    · exact .inl rfl
    · split
      · exact .inl rfl
      · exact .inr (.inl rfl)
end
/-- What a list of names that is a joining says, and the other way round. -/
theorem chj_of {sl sr : Int} {n : Nat} {zs : List Rg} {ks : List Int} (he : chkS sl sr zs ks = 0) (hn : zs.length = n) {p : Nat → Bool} (h : JoP n zs ks p) : chkJ sl sr zs ks (fI p n) = 0 := by
  have H := shn_of he hn
  refine chj_0 he (by rw [hn]; exact fI_ris p n) ?_
  rw [Bool.and_eq_true]
  constructor
  · unfold fI
    refine ap_of H.z (fun k hk => List.mem_range.1 (List.mem_filter.1 hk).1) ?_
    unfold Mat
    refine List.Pairwise.imp_of_mem ?_ (nd_filter _)
    intro a b ha hb hne
    have ha := List.mem_filter.1 ha
    have hb := List.mem_filter.1 hb
    exact h.ap a b (List.mem_range.1 ha.1) (List.mem_range.1 hb.1) ha.2 hb.2 hne
  · unfold subI
    rw [List.all_eq_true]
    intro x hx
    obtain ⟨k, hk, rfl⟩ := H.nm x hx
    rw [decide_eq_true_eq]
    exact mem_fI.2 ⟨k, hk, h.kn k hx, rfl⟩
theorem ris_ext : ∀ {a b : List Int}, a.Pairwise (· < ·) → b.Pairwise (· < ·) → (∀ x, x ∈ a ↔ x ∈ b) → a = b
  | [], [], _, _, _ => rfl
  | [], y :: b, _, _, h => absurd ((h y).2 (by simp)) (by simp)
  | x :: a, [], _, _, h => absurd ((h x).1 (by simp)) (by simp)
  | x :: a, y :: b, ha, hb, h => by
    obtain ⟨ha1, ha2⟩ := List.pairwise_cons.1 ha
    obtain ⟨hb1, hb2⟩ := List.pairwise_cons.1 hb
    have hxy : x = y := by
      rcases List.mem_cons.1 ((h x).1 (by simp)) with e | e
      · exact e
      · rcases List.mem_cons.1 ((h y).2 (by simp)) with e2 | e2
        · exact e2.symm
        · have := ha1 y e2; have := hb1 x e; omega
    subst hxy
    rw [ris_ext ha2 hb2 (fun z => ?_)]
    constructor
    · intro hz
      rcases List.mem_cons.1 ((h z).1 (List.mem_cons_of_mem _ hz)) with e | e
      · have := ha1 z hz; omega
      · exact e
    · intro hz
      rcases List.mem_cons.1 ((h z).2 (List.mem_cons_of_mem _ hz)) with e | e
      · have := hb1 z hz; omega
      · exact e
def inP (js : List Int) : Nat → Bool := fun k => decide ((k : Int) ∈ js)
theorem chj_jop {sl sr : Int} {n : Nat} {zs : List Rg} {ks js : List Int} (h : chkJ sl sr zs ks js = 0) (hn : zs.length = n) : JoP n zs ks (inP js) ∧ js = fI (inP js) n := by
  obtain ⟨he, hr, ha, hs⟩ := chkJ_zero h
  have H := shn_of he hn
  rw [hn] at hr
  have hpw := ris_pw hr
  have hrn := ris_rng hr
  have e : js = fI (inP js) n := ris_ext hpw (ris_pw (fI_ris _ n)) (fun x => by
    rw [mem_fI]
    constructor
    · intro hx
      have := hrn x hx
      exact ⟨x.toNat, by omega, by unfold inP; rw [Int.toNat_of_nonneg this.1]; exact decide_eq_true hx, by omega⟩
    · rintro ⟨k, _, hk, rfl⟩
      exact of_decide_eq_true hk)
  refine ⟨⟨fun j k hj hk h1 h2 hne => ?_, fun k hk => ?_⟩, e⟩
  · have hM : Mat (mtB zs) ((List.range n).filter (inP js)) := ap_mat H.z (fun k hk => List.mem_range.1 (List.mem_filter.1 hk).1) (by
      have := ha
      rw [e] at this
      exact this)
    exact mat_at (mtB_symm zs) hM (List.mem_filter.2 ⟨List.mem_range.2 hj, h1⟩) (List.mem_filter.2 ⟨List.mem_range.2 hk, h2⟩) hne
  · unfold subI at hs
    rw [List.all_eq_true] at hs
    exact hs _ hk
theorem chj_len {sl sr : Int} {n : Nat} {zs : List Rg} {ks js : List Int} (h : chkJ sl sr zs ks js = 0) (hn : zs.length = n) : js.length ≤ siz n zs ks := by
  obtain ⟨h1, h2⟩ := chj_jop h hn
  rw [h2, fI_cnt]
  exact h1.le (shn_of (chkJ_zero h).1 hn)
/-- No cover is smaller. -/
theorem cov_ge {sl sr : Int} {n : Nat} {zs : List Rg} {ks cl cr : List Int} (h : chkC sl sr zs ks cl cr = 0) (hn : zs.length = n) : (siz n zs ks : Int) ≤ szC sl sr zs ks cl cr := by
  have he : chkS sl sr zs ks = 0 := by
    apply Classical.byContradiction
    intro e
    rw [chc_c rfl e] at h
    exact e h
  have H := shn_of he hn
  have S := shg_of he
  have h1 : (risI sl cl && risI sr cr) = true := by
    cases e : (risI sl cl && risI sr cr)
    · rw [chc_3 he e] at h; cases h
    · rfl
  have h2 : cvK zs ks cl cr zs.length = true := by
    cases e : cvK zs ks cl cr zs.length
    · rw [chc_14 he h1 e] at h; cases h
    · rfl
  rw [Bool.and_eq_true] at h1
  have hl := ris_rng h1.1
  have hr := ris_rng h1.2
  rw [szc_0 h]
  unfold siz sizeF
  obtain ⟨N, n1, n2, n3⟩ := mm_ex (mtB_symm zs) (opL n (opnL n zs ks))
  have hcov : Cov n zs (opnL n zs ks) (fun x => if x < 12 then decide ((x : Int) ∈ cl) else decide (((x - 12 : Nat) : Int) ∈ cr)) := fun k hk ho => by
    unfold cvK at h2
    rw [List.all_eq_true, hn] at h2
    have := h2 k (List.mem_range.2 hk)
    have h0 := H.z.lt (l := 0) hk
    have ht : tkB zs ks k = false := by
      unfold opnL at ho
      rw [decide_eq_true hk, Bool.true_and, Bool.not_eq_true'] at ho
      exact ho
    unfold cvB at this
    rw [ht, Bool.false_or, Bool.or_eq_true, decide_eq_true_eq, decide_eq_true_eq, (H.z.at hk).1] at this
    rcases this with e | e
    · left
      show (if _ then _ else _) = true
      rw [if_pos h0]; exact decide_eq_true e
    · right
      show (if _ then _ else _) = true
      rw [if_neg (by omega), show 12 + eN zs 1 k - 12 = eN zs 1 k by omega]; exact decide_eq_true e
  have h3 := mat_le_cov H.z hcov n1 (fun x hx => mem_opL.1 (n2.subset hx))
  have h4 := nodup_le (czL (fun x => if x < 12 then decide ((x : Int) ∈ cl) else decide (((x - 12 : Nat) : Int) ∈ cr))) (cl.map Int.toNat ++ cr.map fun x => x.toNat + 12) (nd_filter _) (fun x hx => by
    unfold czL at hx
    rw [List.mem_filter] at hx
    obtain ⟨_, hx⟩ := hx
    rw [List.mem_append, List.mem_map, List.mem_map]
    by_cases h12 : x < 12
    · simp only [if_pos h12, decide_eq_true_eq] at hx
      exact .inl ⟨(x : Int), hx, by omega⟩
    · simp only [if_neg h12, decide_eq_true_eq] at hx
      exact .inr ⟨((x - 12 : Nat) : Int), hx, by omega⟩)
  rw [List.length_append, List.length_map, List.length_map] at h4
  omega
end Go.Proofs.Ytnodkgejggnehaa
