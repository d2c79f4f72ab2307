/- Stage 5: sheets whose links, or items, have other names: mathematics. -/
import Derived.Test.YtnodkgejggnehaaIm
namespace Go.Proofs.Ytnodkgejggnehaa
set_option linter.unusedSimpArgs false
set_option linter.unusedVariables false
theorem kind_same {n n' : Nat} {zs zs' : List Rg} {ks ks' : List Int} {k k' : Nat} (H : ShN n zs ks) (H' : ShN n' zs' ks') (hk : k < n) (hk' : k' < n') (h2 : (∀ p, Gre n zs ks p → p k = true) ↔ ∀ p, Gre n' zs' ks' p → p k' = true) (h0 : (∀ p, Gre n zs ks p → p k = false) ↔ ∀ p, Gre n' zs' ks' p → p k' = false) :
    kindS n zs (opnL n zs ks) (kNt ks) k = kindS n' zs' (opnL n' zs' ks') (kNt ks') k' := by
  have a2 := kind_always H hk
  have a0 := kind_never H hk
  have b2 := kind_always H' hk'
  have b0 := kind_never H' hk'
  rw [h2, ← b2] at a2
  rw [h0, ← b0] at a0
  rcases kind_may n zs (opnL n zs ks) (kNt ks) k with e | e | e <;> rcases kind_may n' zs' (opnL n' zs' ks') (kNt ks') k' with e' | e' | e' <;> omega
/-- Links with other names. -/
structure Iso (n : Nat) (zs : List Rg) (ks : List Int) (zs' : List Rg) (ks' : List Int) (f g : Nat → Nat) : Prop where
  lf : ∀ i, i < n → f i < n
  lg : ∀ i, i < n → g i < n
  gf : ∀ i, i < n → g (f i) = i
  fg : ∀ i, i < n → f (g i) = i
  mt : ∀ i j, i < n → j < n → mtB zs' i j = mtB zs (f i) (f j)
  kn : ∀ i : Nat, i < n → ((i : Int) ∈ ks' ↔ ((f i : Nat) : Int) ∈ ks)
section
variable {n : Nat} {zs zs' : List Rg} {ks ks' : List Int} {f g : Nat → Nat}
theorem Iso.cnt (h : Iso n zs ks zs' ks' f g) (p : Nat → Bool) : cntP n (fun i => p (f i)) = cntP n p := by
  unfold cntP
  refine Nat.le_antisymm ?_ ?_
  · have := nodup_le (((List.range n).filter fun i => p (f i)).map f) ((List.range n).filter p) (by
      rw [List.pairwise_map]
      refine List.Pairwise.imp_of_mem ?_ (nd_filter _)
      intro a b ha hb hne e
      have ha := List.mem_range.1 (List.mem_filter.1 ha).1
      have hb := List.mem_range.1 (List.mem_filter.1 hb).1
      exact hne (by rw [← h.gf a ha, ← h.gf b hb, e])) (fun y hy => by
      obtain ⟨x, hx, rfl⟩ := List.mem_map.1 hy
      have hx := List.mem_filter.1 hx
      exact List.mem_filter.2 ⟨List.mem_range.2 (h.lf x (List.mem_range.1 hx.1)), hx.2⟩)
    rw [List.length_map] at this; exact this
  · have := nodup_le (((List.range n).filter p).map g) ((List.range n).filter fun i => p (f i)) (by
      rw [List.pairwise_map]
      refine List.Pairwise.imp_of_mem ?_ (nd_filter _)
      intro a b ha hb hne e
      have ha := List.mem_range.1 (List.mem_filter.1 ha).1
      have hb := List.mem_range.1 (List.mem_filter.1 hb).1
      exact hne (by rw [← h.fg a ha, ← h.fg b hb, e])) (fun y hy => by
      obtain ⟨x, hx, rfl⟩ := List.mem_map.1 hy
      have hx := List.mem_filter.1 hx
      have hxl := List.mem_range.1 hx.1
      exact List.mem_filter.2 ⟨List.mem_range.2 (h.lg x hxl), by rw [h.fg x hxl]; exact hx.2⟩)
    rw [List.length_map] at this; exact this
theorem Iso.to (h : Iso n zs ks zs' ks' f g) (H' : ShN n zs' ks') {p : Nat → Bool} (hp : JoP n zs ks p) : JoP n zs' ks' (fun i => p (f i)) := by
  refine ⟨fun i j hi hj h1 h2 hne => ?_, fun i hi => ?_⟩
  · rw [h.mt i j hi hj]
    exact hp.ap _ _ (h.lf i hi) (h.lf j hj) h1 h2 (fun e => hne (by rw [← h.gf i hi, ← h.gf j hj, e]))
  · obtain ⟨q, hq, e⟩ := H'.nm _ hi
    obtain rfl : i = q := by omega
    exact hp.kn _ ((h.kn i hq).1 hi)
theorem Iso.of (h : Iso n zs ks zs' ks' f g) (H : ShN n zs ks) {p : Nat → Bool} (hp : JoP n zs' ks' p) : JoP n zs ks (fun i => p (g i)) := by
  refine ⟨fun i j hi hj h1 h2 hne => ?_, fun i hi => ?_⟩
  · have := hp.ap _ _ (h.lg i hi) (h.lg j hj) h1 h2 (fun e => hne (by rw [← h.fg i hi, ← h.fg j hj, e]))
    rw [h.mt _ _ (h.lg i hi) (h.lg j hj), h.fg i hi, h.fg j hj] at this
    exact this
  · obtain ⟨q, hq, e⟩ := H.nm _ hi
    obtain rfl : i = q := by omega
    exact hp.kn _ ((h.kn _ (h.lg i hq)).2 (by rw [h.fg i hq]; exact hi))
theorem Iso.cnt' (h : Iso n zs ks zs' ks' f g) (p : Nat → Bool) : cntP n (fun i => p (g i)) = cntP n p := by
  rw [← h.cnt (fun i => p (g i))]
  exact cntP_congr (fun i hi => by rw [h.gf i hi])
theorem Iso.siz (h : Iso n zs ks zs' ks' f g) (H : ShN n zs ks) (H' : ShN n zs' ks') : siz n zs' ks' = siz n zs ks := by
  refine Nat.le_antisymm ?_ ?_
  · obtain ⟨p, hp⟩ := gre_ex H'
    rw [← hp.2, ← h.cnt' p]; exact (h.of H hp.1).le H
  · obtain ⟨p, hp⟩ := gre_ex H
    rw [← hp.2, ← h.cnt p]; exact (h.to H' hp.1).le H'
theorem Iso.gto (h : Iso n zs ks zs' ks' f g) (H : ShN n zs ks) (H' : ShN n zs' ks') {p : Nat → Bool} (hp : Gre n zs ks p) : Gre n zs' ks' (fun i => p (f i)) := ⟨h.to H' hp.1, by rw [h.cnt, h.siz H H']; exact hp.2⟩
theorem Iso.gof (h : Iso n zs ks zs' ks' f g) (H : ShN n zs ks) (H' : ShN n zs' ks') {p : Nat → Bool} (hp : Gre n zs' ks' p) : Gre n zs ks (fun i => p (g i)) := ⟨h.of H hp.1, by rw [h.cnt', ← h.siz H H']; exact hp.2⟩
theorem Iso.kind (h : Iso n zs ks zs' ks' f g) (H : ShN n zs ks) (H' : ShN n zs' ks') {i : Nat} (hi : i < n) : kindS n zs' (opnL n zs' ks') (kNt ks') i = kindS n zs (opnL n zs ks) (kNt ks) (f i) := by
  refine kind_same H' H hi (h.lf i hi) ?_ ?_
  · constructor
    · intro a p hp; exact a _ (h.gto H H' hp)
    · intro a p hp
      have := a _ (h.gof H H' hp)
      rw [h.gf i hi] at this; exact this
  · constructor
    · intro a p hp; exact a _ (h.gto H H' hp)
    · intro a p hp
      have := a _ (h.gof H H' hp)
      rw [h.gf i hi] at this; exact this
theorem Iso.item (h : Iso n zs ks zs' ks' f g) (H : ShN n zs ks) (H' : ShN n zs' ks') {l l' a a' : Nat} (he : ∀ i, i < n → (eN zs' l' i = a' ↔ eN zs l (f i) = a)) : ikS n zs' (opnL n zs' ks') (kNt ks') l' a' = ikS n zs (opnL n zs ks) (kNt ks) l a := by
  have a2 := ik_always H' (l := l') (i := a')
  have a0 := ik_never H' (l := l') (i := a')
  have b2 := ik_always H (l := l) (i := a)
  have b0 := ik_never H (l := l) (i := a)
  have e2 : (∀ p, Gre n zs' ks' p → ∃ k, k < n ∧ eN zs' l' k = a' ∧ p k = true) ↔ ∀ p, Gre n zs ks p → ∃ k, k < n ∧ eN zs l k = a ∧ p k = true := by
    constructor
    · intro x p hp
      obtain ⟨k, h1, h2, h3⟩ := x _ (h.gto H H' hp)
      exact ⟨f k, h.lf k h1, (he k h1).1 h2, h3⟩
    · intro x p hp
      obtain ⟨k, h1, h2, h3⟩ := x _ (h.gof H H' hp)
      exact ⟨g k, h.lg k h1, (he _ (h.lg k h1)).2 (by rw [h.fg k h1]; exact h2), h3⟩
  have e0 : (∀ k, k < n → eN zs' l' k = a' → kindS n zs' (opnL n zs' ks') (kNt ks') k = 0) ↔ ∀ k, k < n → eN zs l k = a → kindS n zs (opnL n zs ks) (kNt ks) k = 0 := by
    constructor
    · intro x k hk hka
      have := x (g k) (h.lg k hk) ((he _ (h.lg k hk)).2 (by rw [h.fg k hk]; exact hka))
      rw [h.kind H H' (h.lg k hk), h.fg k hk] at this; exact this
    · intro x k hk hka
      rw [h.kind H H' hk]
      exact x _ (h.lf k hk) ((he k hk).1 hka)
  rw [e2, ← b2] at a2
  rw [e0, ← b0] at a0
  rcases ik_may n zs (opnL n zs ks) (kNt ks) l a with e | e | e <;> rcases ik_may n zs' (opnL n zs' ks') (kNt ks') l' a' with e' | e' | e' <;> omega
end
/-! Turned round. -/
def tnN (t n i : Nat) : Nat := (i + t) % n
def bkN (t n i : Nat) : Nat := (i + (n - t % n)) % n
theorem tn_lt {t n i : Nat} (h : 0 < n) : tnN t n i < n := Nat.mod_lt _ h
theorem bk_lt {t n i : Nat} (h : 0 < n) : bkN t n i < n := Nat.mod_lt _ h
theorem bk_tn {t n i : Nat} (hi : i < n) : bkN t n (tnN t n i) = i := by
  unfold bkN tnN
  have h1 : t % n < n := Nat.mod_lt _ (by omega)
  rw [Nat.add_mod i t n, Nat.mod_eq_of_lt hi]
  by_cases h : i + t % n < n
  · rw [Nat.mod_eq_of_lt h, show i + t % n + (n - t % n) = i + n by omega, Nat.add_mod_right, Nat.mod_eq_of_lt hi]
  · rw [Nat.mod_eq_sub_mod (show n ≤ i + t % n by omega), Nat.mod_eq_of_lt (show i + t % n - n < n by omega), show i + t % n - n + (n - t % n) = i by omega, Nat.mod_eq_of_lt hi]
theorem tn_bk {t n i : Nat} (hi : i < n) : tnN t n (bkN t n i) = i := by
  unfold bkN tnN
  have h1 : t % n < n := Nat.mod_lt _ (by omega)
  rw [Nat.add_mod, Nat.mod_mod, ← Nat.add_mod, Nat.add_mod (i + (n - t % n)) t n]
  by_cases h : i + (n - t % n) < n
  · rw [Nat.mod_eq_of_lt h, show i + (n - t % n) + t % n = i + n by omega, Nat.add_mod_right, Nat.mod_eq_of_lt hi]
  · rw [Nat.mod_eq_sub_mod (by omega : n ≤ i + (n - t % n)), Nat.mod_eq_of_lt (by omega : i + (n - t % n) - n < n), show i + (n - t % n) - n + t % n = i by omega, Nat.mod_eq_of_lt hi]
theorem tn_inj {t n a b : Nat} (ha : a < n) (hb : b < n) (h : tnN t n a = tnN t n b) : a = b := by rw [← bk_tn (t := t) ha, ← bk_tn (t := t) hb, h]
/-- A link whose items are turned round. -/
def rtG (t u c d : Nat) (r : Rg) : Rg := ⟨((tnN t c r.lo.toNat : Nat) : Int), ((tnN u d r.hi.toNat : Nat) : Int)⟩
def rtZ (s t u c d n : Nat) (zs : List Rg) (q : Nat) : List Rg := (List.range q).map fun i => rtG t u c d (gAt zs (tnN s n i))
theorem rtZ_succ (s t u c d n : Nat) (zs : List Rg) (q : Nat) : rtZ s t u c d n zs (q + 1) = rtZ s t u c d n zs q ++ [rtG t u c d (gAt zs (tnN s n q))] := by simp [rtZ, List.range_succ]
theorem rtZ_len (s t u c d n : Nat) (zs : List Rg) (q : Nat) : (rtZ s t u c d n zs q).length = q := by simp [rtZ]
def rtP (s n : Nat) (ks : List Int) : Nat → Bool := fun i => decide (((tnN s n i : Nat) : Int) ∈ ks)
def swZ (zs : List Rg) (q : Nat) : List Rg := (List.range q).map fun i => ⟨(gAt zs i).hi, (gAt zs i).lo⟩
theorem swZ_succ (zs : List Rg) (q : Nat) : swZ zs (q + 1) = swZ zs q ++ [⟨(gAt zs q).hi, (gAt zs q).lo⟩] := by simp [swZ, List.range_succ]
theorem swZ_len (zs : List Rg) (q : Nat) : (swZ zs q).length = q := by simp [swZ]
section
variable {c d n : Nat} {zs : List Rg} {ks : List Int}
theorem rtZ_at {s t u i : Nat} (hi : i < n) : gAt (rtZ s t u c d n zs n) i = rtG t u c d (gAt zs (tnN s n i)) := by
  rw [gAt_eq (by rw [rtZ_len]; exact hi)]; simp [rtZ]
theorem swZ_at {i : Nat} (hi : i < n) : gAt (swZ zs n) i = ⟨(gAt zs i).hi, (gAt zs i).lo⟩ := by
  rw [gAt_eq (by rw [swZ_len]; exact hi)]; simp [swZ]
theorem rt_e0 {s t u i : Nat} (hz : ZOk n zs) (hi : i < n) : eN (rtZ s t u c d n zs n) 0 i = tnN t c (eN zs 0 (tnN s n i)) := by
  have h := hz.at (tn_lt (t := s) (i := i) (show 0 < n by omega))
  unfold eN endI
  rw [rtZ_at hi, h.1]
  simp [rtG, eN, endI]
theorem rt_e1 {s t u i : Nat} (hz : ZOk n zs) (hi : i < n) : eN (rtZ s t u c d n zs n) 1 i = tnN u d (eN zs 1 (tnN s n i)) := by
  have h := hz.at (tn_lt (t := s) (i := i) (show 0 < n by omega))
  unfold eN endI
  rw [rtZ_at hi, h.1]
  simp [rtG, eN, endI]
theorem sw_e0 {i : Nat} (hi : i < n) : eN (swZ zs n) 0 i = eN zs 1 i := by
  unfold eN endI; rw [swZ_at hi]; simp
theorem sw_e1 {i : Nat} (hi : i < n) : eN (swZ zs n) 1 i = eN zs 0 i := by
  unfold eN endI; rw [swZ_at hi]; simp
theorem list_gAt {L : List Rg} {i : Nat} (hi : i < L.length) : L[i] = gAt L i := (gAt_eq hi).symm
theorem rt_ok {s t u : Nat} (he : chkS (c : Int) (d : Int) zs ks = 0) (hn : zs.length = n) : chkS (c : Int) (d : Int) (rtZ s t u c d n zs n) (fI (rtP s n ks) n) = 0 ∧ Iso n zs ks (rtZ s t u c d n zs n) (fI (rtP s n ks) n) (tnN s n) (bkN s n) := by
  have H := shn_of he hn
  have S := shg_of he
  obtain ⟨h1, h2, h3, h4, h5, h6⟩ := chs_iff.1 he
  have hc : 0 < c := by omega
  have hd : 0 < d := by omega
  have e0 : ∀ k, k < n → eN zs 0 k < c := fun k hk => by have := S.e0 k (by omega); omega
  have e1 : ∀ k, k < n → eN zs 1 k < d := fun k hk => by have := S.e1 k (by omega); omega
  have hmt : ∀ i j, i < n → j < n → mtB (rtZ s t u c d n zs n) i j = mtB zs (tnN s n i) (tnN s n j) := fun i j hi hj => by
    have hn0 : 0 < n := by omega
    unfold mtB
    rw [rt_e0 H.z hi, rt_e0 H.z hj, rt_e1 H.z hi, rt_e1 H.z hj]
    congr 1
    · refine decide_eq_decide.2 ⟨fun e => tn_inj (e0 _ (tn_lt hn0)) (e0 _ (tn_lt hn0)) e, fun e => by rw [e]⟩
    · refine decide_eq_decide.2 ⟨fun e => tn_inj (e1 _ (tn_lt hn0)) (e1 _ (tn_lt hn0)) e, fun e => by rw [e]⟩
  have hkn : ∀ i : Nat, i < n → ((i : Int) ∈ fI (rtP s n ks) n ↔ ((tnN s n i : Nat) : Int) ∈ ks) := fun i hi => by
    rw [mem_fI]
    constructor
    · rintro ⟨k, _, h, e⟩
      obtain rfl : i = k := by omega
      exact of_decide_eq_true h
    · intro h; exact ⟨i, hi, decide_eq_true h, rfl⟩
  have hz' : ZOk n (rtZ s t u c d n zs n) := fun i hi => by
    have hc12 : c ≤ 12 := by omega
    have hd12 : d ≤ 12 := by omega
    refine ⟨_, _, by rw [rtZ_at hi]; rfl, ?_, ?_⟩
    · have := tn_lt (t := t) (i := (gAt zs (tnN s n i)).lo.toNat) hc; omega
    · have := tn_lt (t := u) (i := (gAt zs (tnN s n i)).hi.toNat) hd; omega
  refine ⟨chs_iff.2 ⟨h1, by rw [rtZ_len]; omega, ?_, ?_, by rw [rtZ_len]; exact fI_ris _ n, ?_⟩, fun i hi => tn_lt (by omega), fun i hi => bk_lt (by omega), fun i hi => bk_tn hi, fun i hi => tn_bk hi, hmt, hkn⟩
  · rw [List.all_eq_true]
    intro r hr
    unfold rtZ at hr
    obtain ⟨i, hi, rfl⟩ := List.mem_map.1 hr
    unfold okG
    rw [Bool.and_eq_true, inB_iff, inB_iff]
    have a1 := tn_lt (t := t) (i := (gAt zs (tnN s n i)).lo.toNat) hc
    have a2 := tn_lt (t := u) (i := (gAt zs (tnN s n i)).hi.toNat) hd
    simp only [rtG]
    omega
  · unfold rtZ List.Nodup
    rw [List.pairwise_map]
    refine List.Pairwise.imp_of_mem ?_ (List.nodup_range)
    intro a b ha hb hne e
    have ha := List.mem_range.1 ha
    have hb := List.mem_range.1 hb
    have hn0 : 0 < n := by omega
    have ga := (H.z.at (tn_lt (t := s) (i := a) hn0)).1
    have gb := (H.z.at (tn_lt (t := s) (i := b) hn0)).1
    rw [ga, gb] at e
    simp only [rtG, Rg.mk.injEq, Int.toNat_natCast] at e
    have x1 := tn_inj (t := t) (e0 (tnN s n a) (tn_lt hn0)) (e0 (tnN s n b) (tn_lt hn0)) (by have := e.1; omega)
    have x2 := tn_inj (t := u) (e1 (tnN s n a) (tn_lt hn0)) (e1 (tnN s n b) (tn_lt hn0)) (by have := e.2; omega)
    have x3 : gAt zs (tnN s n a) = gAt zs (tnN s n b) := by rw [ga, gb, x1, x2]
    have la : tnN s n a < zs.length := by rw [hn]; exact tn_lt hn0
    have lb : tnN s n b < zs.length := by rw [hn]; exact tn_lt hn0
    rw [gAt_eq la, gAt_eq lb] at x3
    exact hne (tn_inj ha hb (getElem_inj_nodup h4 la lb x3))
  · refine ap_fI hz' (fun i j hi hj a b hne => ?_)
    rw [hmt i j hi hj]
    exact H.ap _ _ (tn_lt (by omega)) (tn_lt (by omega)) (of_decide_eq_true a) (of_decide_eq_true b) (fun e => hne (tn_inj hi hj e))
theorem sw_ok (he : chkS (c : Int) (d : Int) zs ks = 0) (hn : zs.length = n) : chkS (d : Int) (c : Int) (swZ zs n) ks = 0 ∧ Iso n zs ks (swZ zs n) ks id id := by
  have H := shn_of he hn
  obtain ⟨h1, h2, h3, h4, h5, h6⟩ := chs_iff.1 he
  have hmt : ∀ i j, i < n → j < n → mtB (swZ zs n) i j = mtB zs i j := fun i j hi hj => by
    unfold mtB
    rw [sw_e0 hi, sw_e0 hj, sw_e1 hi, sw_e1 hj, Bool.or_comm]
  have hz' : ZOk n (swZ zs n) := fun i hi => by
    obtain ⟨a, b, e, ha, hb⟩ := H.z i hi
    exact ⟨b, a, by rw [swZ_at hi, e], hb, ha⟩
  refine ⟨chs_iff.2 ⟨by omega, by rw [swZ_len]; omega, ?_, ?_, by rw [swZ_len, ← hn]; exact h5, ?_⟩, fun i hi => hi, fun i hi => hi, fun i hi => rfl, fun i hi => rfl, fun i j hi hj => hmt i j hi hj, fun i hi => Iff.rfl⟩
  · rw [List.all_eq_true] at h3 ⊢
    intro r hr
    unfold swZ at hr
    obtain ⟨i, hi, rfl⟩ := List.mem_map.1 hr
    have hi := List.mem_range.1 hi
    have := h3 (gAt zs i) (by rw [gAt_eq (by omega)]; exact List.getElem_mem _)
    unfold okG at this ⊢
    rw [Bool.and_eq_true] at this ⊢
    exact ⟨this.2, this.1⟩
  · unfold swZ List.Nodup
    rw [List.pairwise_map]
    refine List.Pairwise.imp_of_mem ?_ (List.nodup_range)
    intro a b ha hb hne e
    have ha := List.mem_range.1 ha
    have hb := List.mem_range.1 hb
    simp only [Rg.mk.injEq] at e
    have x3 : gAt zs a = gAt zs b := by
      cases hx : gAt zs a
      cases hy : gAt zs b
      rw [hx, hy] at e
      simp only at e
      rw [e.1, e.2]
    have la : a < zs.length := by omega
    have lb : b < zs.length := by omega
    rw [gAt_eq la, gAt_eq lb] at x3
    exact hne (getElem_inj_nodup h4 la lb x3)
  · rw [hn] at h5
    rw [ris_fI h5]
    refine ap_fI hz' (fun i j hi hj a b hne => ?_)
    rw [hmt i j hi hj]
    exact H.ap _ _ hi hj (of_decide_eq_true a) (of_decide_eq_true b) hne
end
end Go.Proofs.Ytnodkgejggnehaa
