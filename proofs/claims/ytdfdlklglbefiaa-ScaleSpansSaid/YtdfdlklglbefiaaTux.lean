/- Stage 3, mathematics: songs turned round, higher, or in another order. -/
import Derived.Test.YtdfdlklglbefiaaShx
namespace Go.Proofs.Ytdfdlklglbefiaa
set_option linter.unusedSimpArgs false
set_option linter.unusedVariables false
/-- A range, turned round. -/
def trnR (r : Rg) : Rg := ⟨10000 - r.hi, 10000 - r.lo⟩
/-- A range, higher. -/
def upR (c : Int) (r : Rg) : Rg := ⟨r.lo + c, r.hi + c⟩
def trnS (st : List Int) : List Int := (st.map (fun x => 10000 - x)).reverse
def upS (c : Int) (st : List Int) : List Int := st.map (fun x => x + c)
theorem isG_up (c : Int) {gs zs : List Rg} (h : IsG gs zs) : IsG (gs.map (upR c)) (zs.map (upR c)) := by
  refine ⟨?_, ?_, ?_⟩
  · intro g hg
    obtain ⟨q, hq, rfl⟩ := List.mem_map.1 hg
    exact List.mem_map.2 ⟨q, h.sub q hq, rfl⟩
  · rw [List.pairwise_map]
    exact h.apart.imp (fun h => by simp only [upR]; omega)
  · intro r hr
    obtain ⟨q, hq, rfl⟩ := List.mem_map.1 hr
    obtain ⟨g, hg, h1, h2⟩ := h.all q hq
    exact ⟨upR c g, List.mem_map.2 ⟨g, hg, rfl⟩, by simp only [upR]; omega, by simp only [upR]; omega⟩
theorem trn_mir (zs : List Rg) : zs.map trnR = (zs.map mirR).map (upR 10000) := by
  rw [List.map_map]
  exact List.map_congr_left fun r _ => by simp only [trnR, mirR, upR, Function.comp, Rg.mk.injEq]; omega
theorem mir_trn (zs : List Rg) : (zs.map trnR).map mirR = zs.map (upR (-10000)) := by
  rw [List.map_map]
  exact List.map_congr_left fun r _ => by simp only [trnR, mirR, upR, Function.comp, Rg.mk.injEq]; omega
theorem mir_up (c : Int) (zs : List Rg) : (zs.map (upR c)).map mirR = (zs.map mirR).map (upR (-c)) := by
  rw [List.map_map, List.map_map]
  exact List.map_congr_left fun r _ => by simp only [mirR, upR, Function.comp, Rg.mk.injEq]; omega
theorem dn_trn {zs : List Rg} {x : List Int} (h : IsDn zs x) : IsUp (zs.map trnR) (trnS x) := by
  obtain ⟨gs, hg, rfl⟩ := h
  refine ⟨gs.map (upR 10000), ?_, ?_⟩
  · rw [trn_mir]; exact isG_up _ hg
  · unfold trnS
    rw [List.map_reverse, List.reverse_reverse, List.map_map, List.map_map, List.map_map]
    exact List.map_congr_left fun r _ => by simp only [upR, Function.comp]; omega
theorem up_trn {zs : List Rg} {x : List Int} (h : IsUp zs x) : IsDn (zs.map trnR) (trnS x) := by
  obtain ⟨gs, hg, rfl⟩ := h
  refine ⟨gs.map (upR (-10000)), ?_, ?_⟩
  · rw [mir_trn]; exact isG_up _ hg
  · unfold trnS
    rw [List.map_map, List.map_map, List.map_map]
    congr 1
    exact List.map_congr_left fun r _ => by simp only [upR, Function.comp]; omega
theorem up_up (c : Int) {zs : List Rg} {x : List Int} (h : IsUp zs x) : IsUp (zs.map (upR c)) (upS c x) := by
  obtain ⟨gs, hg, rfl⟩ := h
  refine ⟨gs.map (upR c), isG_up _ hg, ?_⟩
  unfold upS
  rw [List.map_map, List.map_map]
  exact List.map_congr_left fun r _ => rfl
theorem dn_up (c : Int) {zs : List Rg} {x : List Int} (h : IsDn zs x) : IsDn (zs.map (upR c)) (upS c x) := by
  obtain ⟨gs, hg, rfl⟩ := h
  refine ⟨gs.map (upR (-c)), ?_, ?_⟩
  · rw [mir_up]; exact isG_up _ hg
  · unfold upS
    rw [List.map_reverse, List.map_map, List.map_map, List.map_map, List.map_map]
    congr 1
    exact List.map_congr_left fun r _ => by simp only [upR, Function.comp]; omega
theorem up_rev {zs : List Rg} {x : List Int} (h : IsUp zs x) : IsUp zs.reverse x := by
  obtain ⟨gs, hg, rfl⟩ := h
  exact ⟨gs, hg.perm (by simp), rfl⟩
theorem dn_rev {zs : List Rg} {x : List Int} (h : IsDn zs x) : IsDn zs.reverse x := by
  obtain ⟨gs, hg, rfl⟩ := h
  exact ⟨gs, hg.perm (by simp), rfl⟩
theorem gAt_map (f : Rg → Rg) {zs : List Rg} {k : Nat} (hk : k < zs.length) : gAt (zs.map f) k = f (gAt zs k) := by
  rw [gAt_eq (by simpa using hk), gAt_eq hk, List.getElem_map]
theorem gAt_rev {zs : List Rg} {k : Nat} (hk : k < zs.length) : gAt zs.reverse k = gAt zs (zs.length - 1 - k) := by
  rw [gAt_eq (by simpa using hk), gAt_eq (by omega), List.getElem_reverse]
theorem chkS_map {zs : List Rg} (f : Rg → Rg) (hf : ∀ r, okZ r = true → okZ (f r) = true) (h : chkS zs = 0) : chkS (zs.map f) = 0 := by
  rw [chkS_zero] at h ⊢
  refine ⟨by simpa using h.1, by simpa using h.2.1, ?_⟩
  unfold validZ at h ⊢
  rw [List.all_eq_true] at h ⊢
  intro r hr
  obtain ⟨q, hq, rfl⟩ := List.mem_map.1 hr
  exact hf _ (h.2.2 q hq)
theorem okZ_trn (r : Rg) : okZ (trnR r) = okZ r := by
  rw [Bool.eq_iff_iff, okZ_iff, okZ_iff]
  simp only [trnR]; omega
theorem chkS_trn {zs : List Rg} (h : chkS zs = 0) : chkS (zs.map trnR) = 0 := chkS_map _ (fun r hr => by rw [okZ_trn]; exact hr) h
theorem chkS_rev {zs : List Rg} (h : chkS zs = 0) : chkS zs.reverse = 0 := by
  rw [chkS_zero] at h ⊢
  refine ⟨by simpa using h.1, by simpa using h.2.1, ?_⟩
  unfold validZ at h ⊢
  rw [List.all_reverse]; exact h.2.2
/-- Short scales go over to short scales. -/
theorem shS_tr {zs zs' : List Rg} (F G : List Int → List Int) (hFG : ∀ st, F (G st) = st) (hl : ∀ st, (F st).length = st.length) (hi : ∀ st, Incr (F st) ↔ Incr st) (hr : ∀ st, right zs' (F st) ↔ right zs st) (st : List Int) : ShS zs' (F st) ↔ ShS zs st := by
  unfold ShS
  rw [hi, hr, hl]
  constructor
  · rintro ⟨h1, h2, h3⟩
    refine ⟨h1, h2, fun st' h4 h5 => ?_⟩
    have := h3 (F st') ((hi _).2 h4) ((hr _).2 h5)
    rwa [hl] at this
  · rintro ⟨h1, h2, h3⟩
    refine ⟨h1, h2, fun st' h4 h5 => ?_⟩
    have h6 := hFG st'
    have := h3 (G st') ((hi _).1 (by rw [h6]; exact h4)) ((hr _).1 (by rw [h6]; exact h5))
    have h7 := hl (G st')
    rw [h6] at h7
    omega
theorem sh_ex {zs zs' : List Rg} {g g' : Rg} (F G : List Int → List Int) (hFG : ∀ st, F (G st) = st) (hl : ∀ st, (F st).length = st.length) (hi : ∀ st, Incr (F st) ↔ Incr st) (hr : ∀ st, right zs' (F st) ↔ right zs st) (hm : ∀ st, meets (F st) g' = meets st g) :
    ((∃ st, ShS zs' st ∧ meets st g' = true) ↔ ∃ st, ShS zs st ∧ meets st g = true) ∧ ((∀ st, ShS zs' st → meets st g' = true) ↔ ∀ st, ShS zs st → meets st g = true) := by
  have hs := shS_tr F G hFG hl hi hr
  constructor
  · constructor
    · rintro ⟨st, h1, h2⟩
      rw [← hFG st] at h1 h2
      exact ⟨G st, (hs _).1 h1, by rw [← hm]; exact h2⟩
    · rintro ⟨st, h1, h2⟩
      exact ⟨F st, (hs _).2 h1, by rw [hm]; exact h2⟩
  · constructor
    · intro h st h1
      rw [← hm]; exact h _ ((hs _).2 h1)
    · intro h st h1
      rw [← hFG st] at h1 ⊢
      rw [hm]; exact h _ ((hs _).1 h1)
theorem sr_of {zs zs' : List Rg} {i k i' k' : Nat} (hz : chkS zs = 0) (hz' : chkS zs' = 0) (hi : i < zs.length) (hk : k < zs.length) (hi' : i' < zs'.length) (hk' : k' < zs'.length) {may must may' must' : Bool} {e e' : Int} (h : SrR zs (i : Int) (k : Int) may must e) (h' : SrR zs' (i' : Int) (k' : Int) may' must' e')
    (hok : okZ (comm (gAt zs' i') (gAt zs' k')) = okZ (comm (gAt zs i) (gAt zs k))) (hex : ((∃ st, ShS zs' st ∧ meets st (comm (gAt zs' i') (gAt zs' k')) = true) ↔ ∃ st, ShS zs st ∧ meets st (comm (gAt zs i) (gAt zs k)) = true) ∧ ((∀ st, ShS zs' st → meets st (comm (gAt zs' i') (gAt zs' k')) = true) ↔ ∀ st, ShS zs st → meets st (comm (gAt zs i) (gAt zs k)) = true)) :
    may' = may ∧ must' = must ∧ e = 0 ∧ e' = 0 := by
  obtain ⟨h1, h2, h3⟩ := sr_sem hz hi hk h
  obtain ⟨h4, h5, h6⟩ := sr_sem hz' hi' hk' h'
  rw [hok, hex.1] at h5
  rw [hok, hex.2] at h6
  exact ⟨Bool.eq_iff_iff.2 (h5.trans h2.symm), Bool.eq_iff_iff.2 (h6.trans h3.symm), h1, h4⟩
theorem incr_trn (st : List Int) : Incr (trnS st) ↔ Incr st := by
  unfold Incr trnS
  rw [List.pairwise_reverse, List.pairwise_map]
  constructor <;> (intro h; exact h.imp (fun h => by omega))
theorem incr_up (c : Int) (st : List Int) : Incr (upS c st) ↔ Incr st := by
  unfold Incr upS
  rw [List.pairwise_map]
  constructor <;> (intro h; exact h.imp (fun h => by omega))
theorem onR_trn (x : Int) (r : Rg) : onR (10000 - x) (trnR r) = onR x r := by
  rw [Bool.eq_iff_iff, onR_iff, onR_iff]
  simp only [trnR]; omega
theorem onR_upR (c x : Int) (r : Rg) : onR (x + c) (upR c r) = onR x r := by
  rw [Bool.eq_iff_iff, onR_iff, onR_iff]
  simp only [upR]; omega
theorem meets_trn (st : List Int) (r : Rg) : meets (trnS st) (trnR r) = meets st r := by
  unfold trnS
  rw [meets_rev]
  unfold meets
  rw [List.any_map]
  congr 1
  funext x
  exact onR_trn x r
theorem meets_up (c : Int) (st : List Int) (r : Rg) : meets (upS c st) (upR c r) = meets st r := by
  unfold upS meets
  rw [List.any_map]
  congr 1
  funext x
  exact onR_upR c x r
theorem trnS_trnS (st : List Int) : trnS (trnS st) = st := by
  unfold trnS
  rw [List.map_reverse, List.reverse_reverse, List.map_map]
  conv => rhs; rw [← List.map_id st]
  exact List.map_congr_left fun x _ => by simp only [Function.comp, id]; omega
theorem upS_upS (c : Int) (st : List Int) : upS c (upS (-c) st) = st := by
  unfold upS
  rw [List.map_map]
  conv => rhs; rw [← List.map_id st]
  exact List.map_congr_left fun x _ => by simp only [Function.comp, id]; omega
theorem right_map {zs : List Rg} (f : Rg → Rg) (F : List Int → List Int) (hm : ∀ st r, meets (F st) (f r) = meets st r) (st : List Int) : right (zs.map f) (F st) ↔ right zs st := by
  unfold right
  constructor
  · intro h r hr
    have := h (f r) (List.mem_map.2 ⟨r, hr, rfl⟩)
    rwa [hm] at this
  · intro h r hr
    obtain ⟨q, hq, rfl⟩ := List.mem_map.1 hr
    rw [hm]; exact h q hq
theorem comm_trn (a b : Rg) : comm (trnR a) (trnR b) = trnR (comm a b) := by
  simp only [comm, trnR, Rg.mk.injEq]; omega
theorem comm_up (c : Int) (a b : Rg) : comm (upR c a) (upR c b) = upR c (comm a b) := by
  simp only [comm, upR, Rg.mk.injEq]; omega
theorem sr_trn {zs : List Rg} {i k : Nat} (hz : chkS zs = 0) (hi : i < zs.length) (hk : k < zs.length) {may must may' must' : Bool} {e e' : Int} (h : SrR zs (i : Int) (k : Int) may must e) (h' : SrR (zs.map trnR) (i : Int) (k : Int) may' must' e') : may' = may ∧ must' = must ∧ e = 0 ∧ e' = 0 := by
  refine sr_of hz (chkS_trn hz) hi hk (by simpa using hi) (by simpa using hk) h h' ?_ ?_
  · rw [gAt_map _ hi, gAt_map _ hk, comm_trn, okZ_trn]
  · rw [gAt_map _ hi, gAt_map _ hk, comm_trn]
    exact sh_ex trnS trnS trnS_trnS (fun st => by simp [trnS]) incr_trn (right_map _ _ meets_trn) (fun st => meets_trn st _)
theorem sr_up (c : Int) {zs : List Rg} {i k : Nat} (hz : chkS zs = 0) (hz' : chkS (zs.map (upR c)) = 0) (hi : i < zs.length) (hk : k < zs.length) {may must may' must' : Bool} {e e' : Int} (h : SrR zs (i : Int) (k : Int) may must e) (h' : SrR (zs.map (upR c)) (i : Int) (k : Int) may' must' e') : may' = may ∧ must' = must ∧ e = 0 ∧ e' = 0 := by
  refine sr_of hz hz' hi hk (by simpa using hi) (by simpa using hk) h h' ?_ ?_
  · have hm : ∀ {q}, q < zs.length → gAt zs q ∈ zs := fun {q} hq => by rw [gAt_eq hq]; exact List.getElem_mem _
    have a1 := okR hz _ (hm hi)
    have a2 := okR hz _ (hm hk)
    have b1 := okR hz' _ (List.mem_map.2 ⟨_, hm hi, rfl⟩)
    have b2 := okR hz' _ (List.mem_map.2 ⟨_, hm hk, rfl⟩)
    rw [gAt_map _ hi, gAt_map _ hk, comm_up, Bool.eq_iff_iff, okZ_iff, okZ_iff]
    simp only [upR, comm] at *
    omega
  · rw [gAt_map _ hi, gAt_map _ hk, comm_up]
    exact sh_ex (upS c) (upS (-c)) (upS_upS c) (fun st => by simp [upS]) (incr_up c) (right_map _ _ (meets_up c)) (fun st => meets_up c st _)
theorem sr_rev {zs : List Rg} {i k : Nat} (hz : chkS zs = 0) (hi : i < zs.length) (hk : k < zs.length) {may must may' must' : Bool} {e e' : Int} (h : SrR zs (i : Int) (k : Int) may must e) (h' : SrR zs.reverse ((zs.length - 1 - k : Nat) : Int) ((zs.length - 1 - i : Nat) : Int) may' must' e') : may' = may ∧ must' = must ∧ e = 0 ∧ e' = 0 := by
  have e1 : gAt zs.reverse (zs.length - 1 - k) = gAt zs k := by rw [gAt_rev (by omega)]; congr 1; omega
  have e2 : gAt zs.reverse (zs.length - 1 - i) = gAt zs i := by rw [gAt_rev (by omega)]; congr 1; omega
  have hs : ∀ st, ShS zs.reverse st ↔ ShS zs st := fun st => by unfold ShS right; simp
  refine sr_of hz (chkS_rev hz) hi hk (by simp; omega) (by simp; omega) h h' ?_ ?_
  · rw [e1, e2, comm_comm_]
  · rw [e1, e2, comm_comm_]
    exact ⟨by simp only [hs], by simp only [hs]⟩
/-- What the spans of the song turned round are. -/
theorem spn_trn {x y x' y' : List Int} {m : Nat} (hx : x.length = m) (hy : y.length = m) (e1 : x' = trnS y) (e2 : y' = trnS x) {k : Nat} (hk : k < m) : gAt (spnL x' y' m) k = ⟨10000 - (gAt (spnL x y m) (m - 1 - k)).hi, 10000 - (gAt (spnL x y m) (m - 1 - k)).lo⟩ := by
  subst e1 e2
  have q1 : gAt (spnL (trnS y) (trnS x) m) k = ⟨iAt (trnS y) k, iAt (trnS x) k⟩ := by simp [gAt, List.getD, spnL, hk]
  have q2 : gAt (spnL x y m) (m - 1 - k) = ⟨iAt x (m - 1 - k), iAt y (m - 1 - k)⟩ := by simp [gAt, List.getD, spnL, show m - 1 - k < m by omega]
  have q3 : ∀ l : List Int, l.length = m → iAt (trnS l) k = 10000 - iAt l (m - 1 - k) := fun l hl => by
    rw [iAt_eq (by simp [trnS]; omega), iAt_eq (by omega)]
    simp only [trnS, List.getElem_reverse, List.getElem_map, List.length_map, hl]
  rw [q1, q2, q3 _ hx, q3 _ hy]
theorem spn_up (c : Int) {x y x' y' : List Int} {m : Nat} (hx : x.length = m) (hy : y.length = m) (e1 : x' = upS c x) (e2 : y' = upS c y) {k : Nat} (hk : k < m) : gAt (spnL x' y' m) k = ⟨(gAt (spnL x y m) k).lo + c, (gAt (spnL x y m) k).hi + c⟩ := by
  subst e1 e2
  have q1 : ∀ x y, gAt (spnL x y m) k = ⟨iAt x k, iAt y k⟩ := fun x y => by simp [gAt, List.getD, spnL, hk]
  have q3 : ∀ l : List Int, l.length = m → iAt (upS c l) k = iAt l k + c := fun l hl => by
    rw [iAt_eq (by simp [upS]; omega), iAt_eq (by omega)]
    simp only [upS, List.getElem_map]
  rw [q1, q1, q3 _ hx, q3 _ hy]
end Go.Proofs.Ytdfdlklglbefiaa
