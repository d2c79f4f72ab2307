/- Stage 6: which lists are valid (the document). -/
import Derived.Test.YtigohccehllmnaaBase
import Derived.Deep.RegionHeld3
import Derived.BigQuiet
import Derived.Deep.QuietTactic
import Derived.Deep.Cut
import Derived.Deep.RegionHeld
namespace Go.Proofs.Ytigohccehllmnaa
set_option linter.unusedSimpArgs false
set_option linter.unusedVariables false
/-- A link of two names. -/
structure Nl where
  one : Int
  two : Int
  tr : Int
deriving DecidableEq, Inhabited
def lAt (zs : List Nl) (k : Nat) : Nl := zs.getD k ⟨0, 0, 0⟩
theorem lAt_eq {zs : List Nl} {k : Nat} (hk : k < zs.length) : lAt zs k = zs[k] := by simp [lAt, List.getD, hk]
def sumN : Nat → (Nat → Int) → Int
  | 0, _ => 0
  | n + 1, g => sumN n g + g n
theorem sumN_congr {n : Nat} {g h : Nat → Int} (e : ∀ k, k < n → g k = h k) : sumN n g = sumN n h := by
  induction n with
  | zero => rfl
  | succ n ih => rw [sumN, sumN, ih (fun k hk => e k (by omega)), e n (by omega)]
theorem sumN_add (n : Nat) (g h : Nat → Int) : sumN n (fun k => g k + h k) = sumN n g + sumN n h := by
  induction n with
  | zero => rfl
  | succ n ih => simp only [sumN, ih]; omega
theorem sumN_sub (n : Nat) (g h : Nat → Int) : sumN n (fun k => g k - h k) = sumN n g - sumN n h := by
  induction n with
  | zero => rfl
  | succ n ih => simp only [sumN, ih]; omega
theorem sumN_zero (n : Nat) : sumN n (fun _ => 0) = 0 := by
  induction n with
  | zero => rfl
  | succ n ih => simp only [sumN, ih]; rfl
theorem sumN_le {n : Nat} {g h : Nat → Int} (e : ∀ k, k < n → g k ≤ h k) : sumN n g ≤ sumN n h := by
  induction n with
  | zero => exact Int.le_refl _
  | succ n ih => have := ih (fun k hk => e k (by omega)); have := e n (by omega); simp only [sumN]; omega
theorem sumN_le_eq {n : Nat} {g h : Nat → Int} (e : ∀ k, k < n → g k ≤ h k) (hs : sumN n h ≤ sumN n g) : ∀ k, k < n → g k = h k := by
  induction n with
  | zero => intro k hk; omega
  | succ n ih =>
    have h1 := sumN_le (n := n) (g := g) (h := h) (fun k hk => e k (by omega))
    have h2 := e n (by omega)
    simp only [sumN] at hs
    intro k hk
    rcases Nat.lt_or_ge k n with h3 | h3
    · exact ih (fun k hk => e k (by omega)) (by omega) k h3
    · obtain rfl : k = n := by omega
      omega
theorem sumN_swap (n m : Nat) (g : Nat → Nat → Int) : sumN n (fun i => sumN m (fun j => g i j)) = sumN m (fun j => sumN n (fun i => g i j)) := by
  induction n with
  | zero => exact (sumN_zero m).symm
  | succ n ih => simp only [sumN, ih, ← sumN_add]
theorem sumN_single {n x : Nat} (hx : x < n) (v : Int) : sumN n (fun k => if k = x then v else 0) = v := by
  induction n with
  | zero => omega
  | succ n ih =>
    simp only [sumN]
    by_cases e : x = n
    · subst e
      rw [sumN_congr (h := fun _ => 0) (fun k hk => if_neg (by omega)), sumN_zero, if_pos rfl]; omega
    · rw [ih (by omega), if_neg (by omega)]; omega
theorem sumN_mono {n m : Nat} {g : Nat → Int} (h : n ≤ m) (hg : ∀ k, k < m → 0 ≤ g k) : sumN n g ≤ sumN m g := by
  induction m with
  | zero => obtain rfl : n = 0 := by omega
            exact Int.le_refl _
  | succ m ih =>
    rcases Nat.lt_or_ge n (m + 1) with h1 | h1
    · have := ih (by omega) (fun k hk => hg k (by omega)); have := hg m (by omega); simp only [sumN]; omega
    · obtain rfl : n = m + 1 := by omega
      exact Int.le_refl _
def ind (b : Bool) (x : Int) : Int := if b = true then x else 0
theorem ind_t (x : Int) : ind true x = x := rfl
theorem ind_f (x : Int) : ind false x = 0 := rfl
theorem ind_sum (b : Bool) (n : Nat) (g : Nat → Int) : ind b (sumN n g) = sumN n (fun k => ind b (g k)) := by
  cases b
  · exact (sumN_zero n).symm
  · rfl
/-- What flows out of a set of names. -/
def net (zs : List Nl) (f : Nat → Int) (S : Int → Bool) : Int := sumN zs.length fun k => ind (S (lAt zs k).one) (f k) - ind (S (lAt zs k).two) (f k)
def outN (zs : List Nl) (f : Nat → Int) (x : Int) : Int := net zs f fun y => decide (y = x)
/-- Links of names. -/
def OkL (N : Nat) (zs : List Nl) : Prop := ∀ k, k < zs.length → (0 ≤ (lAt zs k).one ∧ (lAt zs k).one < N) ∧ (0 ≤ (lAt zs k).two ∧ (lAt zs k).two < N) ∧ (lAt zs k).one ≠ (lAt zs k).two ∧ 0 ≤ (lAt zs k).tr ∧ (lAt zs k).tr ≤ 1000000
theorem single_ind {N : Nat} {y v : Int} (h0 : 0 ≤ y) (h1 : y < N) (S : Int → Bool) : sumN N (fun x => ind (S (x : Int)) (ind (decide (y = (x : Int))) v)) = ind (S y) v := by
  have e : y = ((y.toNat : Nat) : Int) := by omega
  rw [← sumN_single (n := N) (x := y.toNat) (by omega) (ind (S y) v)]
  refine sumN_congr fun k hk => ?_
  by_cases h : k = y.toNat
  · rw [if_pos h, show ((k : Nat) : Int) = y by omega, decide_eq_true rfl, ind_t]
  · rw [if_neg h, decide_eq_false (by omega), ind_f]; cases S (k : Int) <;> rfl
theorem ind_sub (b : Bool) (x y : Int) : ind b (x - y) = ind b x - ind b y := by cases b <;> simp [ind]
theorem net_sum {N : Nat} {zs : List Nl} (hz : OkL N zs) (f : Nat → Int) (S : Int → Bool) : net zs f S = sumN N (fun x => ind (S (x : Int)) (outN zs f (x : Int))) := by
  have e1 : ∀ x : Nat, ind (S (x : Int)) (outN zs f (x : Int)) = sumN zs.length (fun k => ind (S (x : Int)) (ind (decide ((lAt zs k).one = (x : Int))) (f k)) - ind (S (x : Int)) (ind (decide ((lAt zs k).two = (x : Int))) (f k))) := fun x => by
    unfold outN net
    rw [ind_sum]
    exact sumN_congr fun k _ => ind_sub _ _ _
  rw [sumN_congr (fun x _ => e1 x), sumN_swap]
  refine sumN_congr fun k hk => ?_
  rw [sumN_sub, single_ind (hz k hk).1.1 (hz k hk).1.2, single_ind (hz k hk).2.1.1 (hz k hk).2.1.2]
/-- Nothing is left at names that are neither in L nor in R. -/
def RightF (N : Nat) (zs : List Nl) (L R : List Int) (f : Nat → Int) : Prop := ∀ x : Nat, x < N → (x : Int) ∉ L → (x : Int) ∉ R → outN zs f (x : Int) = 0
def greatF (zs : List Nl) (f : Nat → Int) (L : List Int) : Int := net zs f fun y => decide (y ∈ L)
def IsSd (L R : List Int) (S : Int → Bool) : Prop := (∀ y ∈ L, S y = true) ∧ ∀ y ∈ R, S y = false
theorem great_side {N : Nat} {zs : List Nl} (hz : OkL N zs) {L R : List Int} {f : Nat → Int} (hr : RightF N zs L R f) {S : Int → Bool} (hS : IsSd L R S) : net zs f S = greatF zs f L := by
  unfold greatF
  rw [net_sum hz, net_sum hz]
  refine sumN_congr fun x hx => ?_
  by_cases hl : (x : Int) ∈ L
  · rw [hS.1 _ hl, decide_eq_true hl]
  · rw [decide_eq_false hl, ind_f]
    by_cases h2 : (x : Int) ∈ R
    · rw [hS.2 _ h2, ind_f]
    · rw [hr x hx hl h2]; cases S (x : Int) <;> rfl
def FitF (zs : List Nl) (f : Nat → Int) : Prop := ∀ k, k < zs.length → -(lAt zs k).tr ≤ f k ∧ f k ≤ (lAt zs k).tr
/-- What a set of names cuts. -/
def cutB (zs : List Nl) (S : Int → Bool) (k : Nat) : Bool := S (lAt zs k).one != S (lAt zs k).two
def costS (zs : List Nl) (S : Int → Bool) : Int := sumN zs.length fun k => ind (cutB zs S k) (lAt zs k).tr
theorem net_le {zs : List Nl} {f : Nat → Int} (hf : FitF zs f) (S : Int → Bool) : net zs f S ≤ costS zs S := by
  refine sumN_le fun k hk => ?_
  have := hf k hk
  unfold cutB
  cases S (lAt zs k).one <;> cases S (lAt zs k).two <;> simp [ind] <;> omega
def Tight (zs : List Nl) (f : Nat → Int) (S : Int → Bool) : Prop := ∀ k, k < zs.length → (S (lAt zs k).one = true → S (lAt zs k).two = false → f k = (lAt zs k).tr) ∧ (S (lAt zs k).one = false → S (lAt zs k).two = true → f k = -(lAt zs k).tr)
theorem net_tight {zs : List Nl} {f : Nat → Int} {S : Int → Bool} (h : Tight zs f S) : net zs f S = costS zs S := by
  refine sumN_congr fun k hk => ?_
  have := h k hk
  unfold cutB
  revert this
  cases S (lAt zs k).one <;> cases S (lAt zs k).two <;> simp [ind]
  · intro h; omega
theorem tight_of {zs : List Nl} {f : Nat → Int} {S : Int → Bool} (hf : FitF zs f) (h : costS zs S ≤ net zs f S) : Tight zs f S := by
  have hp := sumN_le_eq (n := zs.length) (g := fun k => ind (S (lAt zs k).one) (f k) - ind (S (lAt zs k).two) (f k)) (h := fun k => ind (cutB zs S k) (lAt zs k).tr) (fun k hk => by
    have := hf k hk
    simp only [cutB]
    cases S (lAt zs k).one <;> cases S (lAt zs k).two <;> simp [ind] <;> omega) h
  intro k hk
  have := hp k hk
  simp only [cutB] at this
  constructor
  · intro h1 h2; rw [h1, h2] at this; simp [ind] at this; exact this
  · intro h1 h2; rw [h1, h2] at this; simp [ind] at this; omega
/-- A way along a link. -/
structure Wy where
  link : Nat
  fr : Int
  to : Int
deriving DecidableEq, Inhabited
def isWay (zs : List Nl) (w : Wy) : Prop := w.link < zs.length ∧ (w.fr = (lAt zs w.link).one ∧ w.to = (lAt zs w.link).two ∨ w.fr = (lAt zs w.link).two ∧ w.to = (lAt zs w.link).one)
def Wy.back (w : Wy) : Wy := ⟨w.link, w.to, w.fr⟩
def roomW (zs : List Nl) (f : Nat → Int) (w : Wy) : Int := if w.fr = (lAt zs w.link).one then (lAt zs w.link).tr - f w.link else (lAt zs w.link).tr + f w.link
def opF (zs : List Nl) (f : Nat → Int) (w : Wy) : Bool := decide (0 < roomW zs f w)
def opB (zs : List Nl) (f : Nat → Int) (w : Wy) : Bool := opF zs f w.back
def ClosedS (zs : List Nl) (op : Wy → Bool) (S : Int → Bool) : Prop := ∀ w, isWay zs w → op w = true → S w.fr = true → S w.to = true
theorem isWay.back {zs : List Nl} {w : Wy} (h : isWay zs w) : isWay zs w.back := ⟨h.1, h.2.elim (fun e => .inr ⟨e.2, e.1⟩) (fun e => .inl ⟨e.2, e.1⟩)⟩
theorem isWay.ne {N : Nat} {zs : List Nl} (hz : OkL N zs) {w : Wy} (h : isWay zs w) : w.fr ≠ w.to := by
  have := (hz w.link h.1).2.2.1
  rcases h.2 with ⟨a, b⟩ | ⟨a, b⟩ <;> omega
theorem isWay.lt {N : Nat} {zs : List Nl} (hz : OkL N zs) {w : Wy} (h : isWay zs w) : (0 ≤ w.fr ∧ w.fr < N) ∧ (0 ≤ w.to ∧ w.to < N) := by
  have := hz w.link h.1
  rcases h.2 with ⟨a, b⟩ | ⟨a, b⟩ <;> omega
theorem closed_tight {N : Nat} {zs : List Nl} (hz : OkL N zs) {f : Nat → Int} (hf : FitF zs f) {S : Int → Bool} : ClosedS zs (opF zs f) S ↔ Tight zs f S := by
  constructor
  · intro h k hk
    have h1 := hf k hk
    have h2 := (hz k hk).2.2.1
    constructor
    · intro a b
      have := h ⟨k, (lAt zs k).one, (lAt zs k).two⟩ ⟨hk, .inl ⟨rfl, rfl⟩⟩
      simp only [a, b, opF, roomW, decide_eq_true_eq, if_true] at this
      have : ¬ 0 < (lAt zs k).tr - f k := fun e => by simpa using this e
      omega
    · intro a b
      have := h ⟨k, (lAt zs k).two, (lAt zs k).one⟩ ⟨hk, .inr ⟨rfl, rfl⟩⟩
      simp only [a, b, opF, roomW, decide_eq_true_eq] at this
      rw [if_neg (Ne.symm h2)] at this
      have : ¬ 0 < (lAt zs k).tr + f k := fun e => by simpa using this e
      omega
  · intro h w hw ho hs
    have h2 := (hz w.link hw.1).2.2.1
    have ht := h w.link hw.1
    have ho : 0 < roomW zs f w := by simpa [opF] using ho
    unfold roomW at ho
    rcases hw.2 with ⟨a, b⟩ | ⟨a, b⟩
    · rw [if_pos a] at ho
      rw [a] at hs
      rw [b]
      cases e : S (lAt zs w.link).two
      · have := ht.1 hs e; omega
      · rfl
    · rw [if_neg (by omega)] at ho
      rw [a] at hs
      rw [b]
      cases e : S (lAt zs w.link).one
      · have := ht.2 e hs; omega
      · rfl
/-- So much more flows along a way. -/
def sendF (zs : List Nl) (f : Nat → Int) (w : Wy) (t : Int) : Nat → Int := fun k => if k = w.link then (if w.fr = (lAt zs k).one then f k + t else f k - t) else f k
theorem sumN_upd {n x : Nat} (hx : x < n) {g h : Nat → Int} {v : Int} (e : ∀ k, k < n → k ≠ x → h k = g k) (ev : h x = g x + v) : sumN n h = sumN n g + v := by
  rw [← sumN_single hx v, ← sumN_add]
  refine sumN_congr fun k hk => ?_
  by_cases hkx : k = x
  · subst hkx; rw [if_pos rfl, ev]
  · rw [if_neg hkx, e k hk hkx]; omega
theorem net_send {N : Nat} {zs : List Nl} (hz : OkL N zs) (f : Nat → Int) {w : Wy} (hw : isWay zs w) (t : Int) (S : Int → Bool) : net zs (sendF zs f w t) S = net zs f S + (ind (S w.fr) t - ind (S w.to) t) := by
  unfold net
  refine sumN_upd hw.1 (fun k hk hne => ?_) ?_
  · simp only [sendF, if_neg hne]
  · have h2 := (hz w.link hw.1).2.2.1
    simp only [sendF, if_true]
    rcases hw.2 with ⟨a, b⟩ | ⟨a, b⟩
    · rw [if_pos a, a, b]
      cases S (lAt zs w.link).one <;> cases S (lAt zs w.link).two <;> simp [ind] <;> omega
    · rw [if_neg (by omega), a, b]
      cases S (lAt zs w.link).one <;> cases S (lAt zs w.link).two <;> simp [ind] <;> omega
/-- Ways, each going on where the one before it ends. -/
def IsPath : Int → List Wy → Int → Prop
  | a, [], b => a = b
  | a, w :: ws, b => w.fr = a ∧ IsPath w.to ws b
def sendAll (zs : List Nl) (f : Nat → Int) (ws : List Wy) (t : Int) : Nat → Int := ws.foldl (fun g w => sendF zs g w t) f
theorem net_sendAll {N : Nat} {zs : List Nl} (hz : OkL N zs) (t : Int) (S : Int → Bool) : ∀ (ws : List Wy) (f : Nat → Int) (a b : Int), (∀ w ∈ ws, isWay zs w) → IsPath a ws b → net zs (sendAll zs f ws t) S = net zs f S + (ind (S a) t - ind (S b) t)
  | [], f, a, b, _, h => by obtain rfl : a = b := h; simp [sendAll]
  | w :: ws, f, a, b, hw, h => by
    have h1 := net_sendAll hz t S ws (sendF zs f w t) w.to b (fun x hx => hw x (List.mem_cons_of_mem _ hx)) h.2
    have h2 := net_send hz f (hw w (by simp)) t S
    have h3 : sendAll zs f (w :: ws) t = sendAll zs (sendF zs f w t) ws t := rfl
    rw [h3, h1, h2, h.1]; omega
theorem fit_send {zs : List Nl} {f : Nat → Int} (hf : FitF zs f) {w : Wy} {t : Int} (h0 : 0 ≤ t) (hr : t ≤ roomW zs f w) : FitF zs (sendF zs f w t) := by
  intro k hk
  have h1 := hf k hk
  unfold sendF
  split
  · rename_i e
    subst e
    unfold roomW at hr
    split
    · rename_i e; rw [if_pos e] at hr; omega
    · rename_i e; rw [if_neg e] at hr; omega
  · exact h1
theorem room_send {zs : List Nl} {f : Nat → Int} {w v : Wy} {t : Int} (h : w.link ≠ v.link) : roomW zs (sendF zs f w t) v = roomW zs f v := by
  unfold roomW sendF
  rw [if_neg (Ne.symm h)]
theorem fit_sendAll {zs : List Nl} {t : Int} (h0 : 0 ≤ t) : ∀ (ws : List Wy) (f : Nat → Int), FitF zs f → ws.Pairwise (fun a b => a.link ≠ b.link) → (∀ w ∈ ws, t ≤ roomW zs f w) → FitF zs (sendAll zs f ws t)
  | [], f, hf, _, _ => hf
  | w :: ws, f, hf, hp, hr => by
    obtain ⟨p1, p2⟩ := List.pairwise_cons.1 hp
    exact fit_sendAll h0 ws (sendF zs f w t) (fit_send hf h0 (hr w (by simp))) p2 (fun v hv => by rw [room_send (p1 v hv)]; exact hr v (List.mem_cons_of_mem _ hv))
/-- A path with different ends of ways has different links. -/
theorem path_links {zs : List Nl} : ∀ (ws : List Wy) (a b : Int), (∀ w ∈ ws, isWay zs w) → IsPath a ws b → (ws.map (·.to)).Nodup → a ∉ ws.map (·.to) → ws.Pairwise (fun a b => a.link ≠ b.link)
  | [], _, _, _, _, _, _ => List.Pairwise.nil
  | w :: ws, a, b, hw, hp, hn, ha => by
    have hn2 := List.nodup_cons.1 hn
    refine List.pairwise_cons.2 ⟨fun v hv e => ?_, path_links ws w.to b (fun x hx => hw x (List.mem_cons_of_mem _ hx)) hp.2 hn2.2 hn2.1⟩
    have h1 := hw w (by simp)
    have h2 := hw v (List.mem_cons_of_mem _ hv)
    have hvt : v.to ∈ ws.map (·.to) := List.mem_map.2 ⟨v, hv, rfl⟩
    have n1 : v.to ≠ w.to := fun e => hn2.1 (show w.to ∈ _ from e ▸ hvt)
    have n2 : v.to ≠ w.fr := fun e => ha (by rw [← hp.1, ← e]; exact List.mem_cons_of_mem _ hvt)
    have h3 := h2.2
    rw [← e] at h3
    rcases h1.2 with ⟨x1, x2⟩ | ⟨x1, x2⟩ <;> rcases h3 with ⟨y1, y2⟩ | ⟨y1, y2⟩ <;> omega
/-- A flow of some list that may become greater. -/
structure FlowOk (N : Nat) (zs : List Nl) (L R : List Int) (f : Nat → Int) : Prop where
  fit : FitF zs f
  right : RightF N zs L R f
theorem flow_zero {N : Nat} {zs : List Nl} (hz : OkL N zs) (L R : List Int) : FlowOk N zs L R (fun _ => 0) := by
  refine ⟨fun k hk => ?_, fun x _ _ _ => ?_⟩
  · have := (hz k hk).2.2.2; omega
  · unfold outN net
    rw [sumN_congr (h := fun _ => 0) (fun k _ => by simp [ind]), sumN_zero]
theorem flow_push {N : Nat} {zs : List Nl} (hz : OkL N zs) {L R : List Int} {f : Nat → Int} (h : FlowOk N zs L R f) {ws : List Wy} {a b t : Int} (hw : ∀ w ∈ ws, isWay zs w) (hp : IsPath a ws b) (ha : a ∈ L) (hb : b ∈ R) (hd : ∀ y ∈ L, y ∉ R) (hn : (ws.map (·.to)).Nodup) (hna : a ∉ ws.map (·.to)) (h0 : 0 ≤ t) (hr : ∀ w ∈ ws, t ≤ roomW zs f w) : FlowOk N zs L R (sendAll zs f ws t) ∧ greatF zs (sendAll zs f ws t) L = greatF zs f L + t := by
  refine ⟨⟨fit_sendAll h0 ws f h.fit (path_links ws a b hw hp hn hna) hr, fun x hx h1 h2 => ?_⟩, ?_⟩
  · unfold outN
    rw [net_sendAll hz t _ ws f a b hw hp, decide_eq_false (show ¬ a = (x : Int) from fun e => h1 (e ▸ ha)), decide_eq_false (show ¬ b = (x : Int) from fun e => h2 (e ▸ hb))]
    have := h.right x hx h1 h2
    unfold outN at this
    rw [this]; rfl
  · unfold greatF
    rw [net_sendAll hz t _ ws f a b hw hp, decide_eq_true ha, decide_eq_false (fun e => hd b e hb)]
    simp [ind]
theorem cost_le_all {N : Nat} {zs : List Nl} (hz : OkL N zs) (S : Int → Bool) : costS zs S ≤ 1000000 * (zs.length : Int) := by
  have h1 : ∀ n, n ≤ zs.length → sumN n (fun k => ind (cutB zs S k) (lAt zs k).tr) ≤ 1000000 * (n : Int) := by
    intro n
    induction n with
    | zero => intro _; simp [sumN]
    | succ n ih =>
      intro hn
      have := ih (by omega)
      have := (hz n (by omega)).2.2.2
      have e : ind (cutB zs S n) (lAt zs n).tr ≤ 1000000 := by unfold ind; split <;> omega
      simp only [sumN]; omega
  exact h1 _ (Nat.le_refl _)
theorem great_le {N : Nat} {zs : List Nl} (hz : OkL N zs) {L : List Int} {f : Nat → Int} (hf : FitF zs f) : greatF zs f L ≤ 1000000 * (zs.length : Int) := Int.le_trans (net_le hf _) (cost_le_all hz _)
/-! Submodularity. -/
theorem cost_sub {N : Nat} {zs : List Nl} (hz : OkL N zs) (A B : Int → Bool) : costS zs (fun x => A x && B x) + costS zs (fun x => A x || B x) ≤ costS zs A + costS zs B := by
  unfold costS
  rw [← sumN_add, ← sumN_add]
  refine sumN_le fun k hk => ?_
  have := (hz k hk).2.2.2.1
  simp only [cutB]
  cases A (lAt zs k).one <;> cases A (lAt zs k).two <;> cases B (lAt zs k).one <;> cases B (lAt zs k).two <;> simp [ind] <;> omega
theorem cost_congr {zs : List Nl} {N : Nat} (hz : OkL N zs) {A B : Int → Bool} (h : ∀ x : Nat, x < N → A (x : Int) = B (x : Int)) : costS zs A = costS zs B := by
  refine sumN_congr fun k hk => ?_
  obtain ⟨a, b, -⟩ := hz k hk
  have h1 := h (lAt zs k).one.toNat (by omega)
  have h2 := h (lAt zs k).two.toNat (by omega)
  rw [show (((lAt zs k).one.toNat : Nat) : Int) = (lAt zs k).one by omega] at h1
  rw [show (((lAt zs k).two.toNat : Nat) : Int) = (lAt zs k).two by omega] at h2
  simp only [cutB, h1, h2]
/-! A trail. -/
def Rk (fs : List Int) (tr : List Wy) (x : Int) : Prop := x ∈ fs ∨ x ∈ tr.map (·.to)
def TrOk (zs : List Nl) (op : Wy → Bool) (fs : List Int) (tr : List Wy) : Prop := ∀ p w s, tr = p ++ w :: s → isWay zs w ∧ op w = true ∧ Rk fs p w.fr ∧ ¬ Rk fs p w.to
theorem TrOk.nil (zs : List Nl) (op : Wy → Bool) (fs : List Int) : TrOk zs op fs [] := fun p w s h => by simp at h
theorem TrOk.snoc {zs : List Nl} {op : Wy → Bool} {fs : List Int} {tr : List Wy} (h : TrOk zs op fs tr) {w : Wy} (h1 : isWay zs w) (h2 : op w = true) (h3 : Rk fs tr w.fr) (h4 : ¬ Rk fs tr w.to) : TrOk zs op fs (tr ++ [w]) := by
  intro p v s e
  rcases List.append_eq_append_iff.1 e with ⟨q, e1, e2⟩ | ⟨q, e1, e2⟩
  · cases q with
    | nil =>
      simp only [List.append_nil] at e1
      simp only [List.nil_append, List.cons.injEq] at e2
      obtain ⟨rfl, -⟩ := e2
      subst e1
      exact ⟨h1, h2, h3, h4⟩
    | cons y q => simp at e2
  · cases q with
    | nil =>
      simp only [List.nil_append, List.cons.injEq] at e2
      simp only [List.append_nil] at e1
      obtain ⟨rfl, -⟩ := e2
      subst e1
      exact ⟨h1, h2, h3, h4⟩
    | cons y q =>
      simp only [List.cons_append, List.cons.injEq] at e2
      obtain ⟨rfl, e2⟩ := e2
      exact h p v q e1
theorem TrOk.pre {zs : List Nl} {op : Wy → Bool} {fs : List Int} {p s : List Wy} (h : TrOk zs op fs (p ++ s)) : TrOk zs op fs p := fun q w r e => h q w (r ++ s) (by rw [e]; simp)
theorem TrOk.sub {zs : List Nl} {op : Wy → Bool} {fs : List Int} {S : Int → Bool} (hS : ClosedS zs op S) (hf : ∀ x ∈ fs, S x = true) : ∀ (n : Nat) (tr : List Wy), tr.length = n → TrOk zs op fs tr → ∀ x, Rk fs tr x → S x = true := by
  intro n
  induction n with
  | zero =>
    intro tr ht h x hx
    obtain rfl := List.length_eq_zero_iff.1 ht
    exact hf x (by simpa [Rk] using hx)
  | succ n ih =>
    intro tr ht h x hx
    obtain ⟨p, w, rfl⟩ : ∃ p w, tr = p ++ [w] := ⟨tr.dropLast, tr.getLast (by intro e; simp [e] at ht), (List.dropLast_concat_getLast _).symm⟩
    have ihp := ih p (by simp at ht; exact ht) h.pre
    rcases hx with hx | hx
    · exact hf x hx
    · rw [List.map_append, List.mem_append] at hx
      rcases hx with hx | hx
      · exact ihp x (.inr hx)
      · simp at hx
        subst hx
        obtain ⟨a, b, c, d⟩ := h p w [] rfl
        exact hS w a b (ihp _ c)
theorem Rk.in {N : Nat} {zs : List Nl} (hz : OkL N zs) {op : Wy → Bool} {fs : List Int} (hf : ∀ x ∈ fs, 0 ≤ x ∧ x < N) {tr : List Wy} (h : TrOk zs op fs tr) {x : Int} (hx : Rk fs tr x) : 0 ≤ x ∧ x < N := by
  rcases hx with hx | hx
  · exact hf x hx
  · obtain ⟨w, hw, rfl⟩ := List.mem_map.1 hx
    obtain ⟨p, s, rfl⟩ := List.append_of_mem hw
    exact ((h p w s rfl).1.lt hz).2
theorem TrOk.nodup {zs : List Nl} {op : Wy → Bool} {fs : List Int} : ∀ (n : Nat) (tr : List Wy), tr.length = n → TrOk zs op fs tr → (tr.map (·.to)).Nodup ∧ ∀ x ∈ fs, x ∉ tr.map (·.to) := by
  intro n
  induction n with
  | zero =>
    intro tr ht h
    obtain rfl := List.length_eq_zero_iff.1 ht
    exact ⟨List.nodup_nil, fun _ _ h => by simp at h⟩
  | succ n ih =>
    intro tr ht h
    obtain ⟨p, w, rfl⟩ : ∃ p w, tr = p ++ [w] := ⟨tr.dropLast, tr.getLast (by intro e; simp [e] at ht), (List.dropLast_concat_getLast _).symm⟩
    obtain ⟨i1, i2⟩ := ih p (by simp at ht; exact ht) h.pre
    obtain ⟨a, b, c, d⟩ := h p w [] rfl
    constructor
    · rw [List.map_append, List.nodup_append]
      refine ⟨i1, by simp, fun x hx y hy => ?_⟩
      simp at hy
      subst hy
      rintro rfl
      exact d (.inr hx)
    · intro x hx h2
      rw [List.map_append, List.mem_append] at h2
      rcases h2 with h2 | h2
      · exact i2 x hx h2
      · simp at h2
        exact d (.inl (h2 ▸ hx))
end Go.Proofs.Ytigohccehllmnaa

namespace Go.Proofs.Ytigohccehllmnaa
set_option linter.unusedSimpArgs false
set_option linter.unusedVariables false
open Go.RowKit Go.Shelf
def inB (lo hi x : Int) : Bool := decide (lo ≤ x) && decide (x ≤ hi)
theorem inB_iff {lo hi x : Int} : inB lo hi x = true ↔ lo ≤ x ∧ x ≤ hi := by simp [inB]
def withI (lo hi : Int) (zs : List Int) : Bool := zs.all (inB lo hi)
theorem withI_take (lo hi : Int) (zs : List Int) (k : Nat) (hk : k < zs.length) : withI lo hi (zs.take (k + 1)) = (withI lo hi (zs.take k) && inB lo hi (iAt zs k)) := all_take _ zs k 0 hk
theorem withI_stop (lo hi : Int) (zs : List Int) (k : Nat) (hk : k < zs.length) (h : ¬ (lo ≤ iAt zs k ∧ iAt zs k ≤ hi)) : withI lo hi zs = false := all_stop _ zs k 0 hk (by
  cases h2 : inB lo hi (zs.getD k 0)
  · rfl
  · exact absurd (inB_iff.1 h2) h)
set_option maxRecDepth 100000 in
set_option maxHeartbeats 1000000 in
theorem within45 (A : Option Addr) (n cap : Nat) (zs : List Int) (lo hi : Int) (w : World) (h : Ints w A n zs) (hn : n ≤ 1000000) :
    Calls Try.prog 45 #[.int .i64 lo, .int .i64 hi, .slice A n cap] w fun e w' => e = .returned (.bool (withI lo hi zs)) ∧ w' = w := by
  go_enter Try.func45, Try.ntmps45
  go_wp2_with fail
  go_loopw [11] (fun i wr => ∃ k : Nat, k ≤ n ∧ i = .int .i64 k ∧ withI lo hi (zs.take k) = true ∧ wr = w) (fun i _ => n - (intOf i).toNat)
  case atStart => exact ⟨0, Nat.zero_le _, rfl, rfl, rfl⟩
  case round =>
    obtain ⟨k, hk, rfl, hw, rfl⟩ := hrel
    by_cases hlt : k < n
    · obtain ⟨hl, hc⟩ := h
      obtain ⟨b, o, rfl, hc2⟩ := hc (by omega)
      have c0 := hc2 k hlt
      have Hs := Lib.hid (withI_take lo hi zs k (by omega))
      have Hf := Lib.hid (withI_stop lo hi zs k (by omega))
      have Hw := Lib.hid hw
      obtain ⟨g, hg⟩ : ∃ g, iAt zs k = g := ⟨_, rfl⟩
      rw [hg] at c0 Hs Hf
      have i0 : (0 : Int) ≤ (k : Int) := by omega
      have i1 : (k : Int) < (n : Int) := by omega
      clear hc hc2 hw hl hg
      by_cases h1 : g < lo
      · have d1 : decide (g < lo) = true := decide_eq_true h1
        go_wp2_with fail
        go_ret
        exact ⟨ret_bool (Hf.out (by omega)).symm, rfl⟩
      · have d1 : decide (g < lo) = false := decide_eq_false h1
        by_cases h3 : hi < g
        · have d3 : decide (hi < g) = true := decide_eq_true h3
          go_wp2_with fail
          go_ret
          exact ⟨ret_bool (Hf.out (by omega)).symm, rfl⟩
        · have d3 : decide (hi < g) = false := decide_eq_false h3
          go_wp2_with fail
          go_roundw
          case rel => exact ⟨k + 1, by omega, by go_num, by rw [Hs.out, Hw.out, inB_iff.2 ⟨by omega, by omega⟩]; rfl, by first | trivial | rfl⟩
          case measure => simp [intOf]; omega
    · go_wp2_with fail
      go_ret
      exact ⟨ret_bool (by rw [← hw, List.take_of_length_le (by have := h.1; omega)]), rfl⟩
set_option maxRecDepth 100000 in
set_option maxHeartbeats 1000000 in
theorem within46 (A : Option Addr) (n cap : Nat) (zs : List Int) (lo hi : Int) (w : World) (h : Ints w A n zs) (hn : n ≤ 1000000) :
    Calls Try.prog 46 #[.int .i64 lo, .int .i64 hi, .slice A n cap] w fun e w' => e = .returned (.bool (withI lo hi zs)) ∧ w' = w := by
  go_enter Try.func46, Try.ntmps46
  go_wp2_with fail
  go_loopw [11] (fun i wr => ∃ k : Nat, k ≤ n ∧ i = .int .i64 k ∧ withI lo hi (zs.take k) = true ∧ wr = w) (fun i _ => n - (intOf i).toNat)
  case atStart => exact ⟨0, Nat.zero_le _, rfl, rfl, rfl⟩
  case round =>
    obtain ⟨k, hk, rfl, hw, rfl⟩ := hrel
    by_cases hlt : k < n
    · obtain ⟨hl, hc⟩ := h
      obtain ⟨b, o, rfl, hc2⟩ := hc (by omega)
      have c0 := hc2 k hlt
      have Hs := Lib.hid (withI_take lo hi zs k (by omega))
      have Hf := Lib.hid (withI_stop lo hi zs k (by omega))
      have Hw := Lib.hid hw
      obtain ⟨g, hg⟩ : ∃ g, iAt zs k = g := ⟨_, rfl⟩
      rw [hg] at c0 Hs Hf
      have i0 : (0 : Int) ≤ (k : Int) := by omega
      have i1 : (k : Int) < (n : Int) := by omega
      clear hc hc2 hw hl hg
      by_cases h1 : g < lo
      · have d1 : decide (g < lo) = true := decide_eq_true h1
        go_wp2_with fail
        go_ret
        exact ⟨ret_bool (Hf.out (by omega)).symm, rfl⟩
      · have d1 : decide (g < lo) = false := decide_eq_false h1
        by_cases h3 : hi < g
        · have d3 : decide (hi < g) = true := decide_eq_true h3
          go_wp2_with fail
          go_ret
          exact ⟨ret_bool (Hf.out (by omega)).symm, rfl⟩
        · have d3 : decide (hi < g) = false := decide_eq_false h3
          go_wp2_with fail
          go_roundw
          case rel => exact ⟨k + 1, by omega, by go_num, by rw [Hs.out, Hw.out, inB_iff.2 ⟨by omega, by omega⟩]; rfl, by first | trivial | rfl⟩
          case measure => simp [intOf]; omega
    · go_wp2_with fail
      go_ret
      exact ⟨ret_bool (by rw [← hw, List.take_of_length_le (by have := h.1; omega)]), rfl⟩
/-- Strictly increasing numbers from 0 to one less than c: each is greater than the one before it (the first one than -1). -/
def prvI (zs : List Int) (k : Nat) : Int := if k = 0 then -1 else iAt zs (k - 1)
def risK (c : Int) (zs : List Int) (k : Nat) : Bool := (List.range k).all fun j => decide (prvI zs j < iAt zs j) && decide (iAt zs j < c)
def risI (c : Int) (zs : List Int) : Bool := risK c zs zs.length
theorem risK_succ (c : Int) (zs : List Int) (k : Nat) : risK c zs (k + 1) = (risK c zs k && (decide (prvI zs k < iAt zs k) && decide (iAt zs k < c))) := by simp [risK, List.range_succ]
theorem risK_stop {c : Int} {zs : List Int} {k n : Nat} (h : (decide (prvI zs k < iAt zs k) && decide (iAt zs k < c)) = false) (hk : k < n) : risK c zs n = false := by
  unfold risK
  rw [List.all_eq_false]
  exact ⟨k, List.mem_range.2 hk, by rw [h]; simp⟩
/-- The index of a number, or -1. -/
def nonK (zs : List Int) (x : Int) (k : Nat) : Bool := (List.range k).all fun j => !decide (x = iAt zs j)
theorem nonK_succ (zs : List Int) (x : Int) (k : Nat) : nonK zs x (k + 1) = (nonK zs x k && !decide (x = iAt zs k)) := by simp [nonK, List.range_succ]
theorem nonK_all {zs : List Int} {x : Int} (h : nonK zs x zs.length = true) : x ∉ zs := by
  intro hx
  unfold nonK at h
  rw [List.all_eq_true] at h
  obtain ⟨j, hj, e⟩ := List.getElem_of_mem hx
  have := h j (List.mem_range.2 hj)
  rw [iAt_eq hj, e] at this
  simp at this
theorem mem_iAt {zs : List Int} {x : Int} {k : Nat} (hk : k < zs.length) (h : x = iAt zs k) : x ∈ zs := by
  rw [h, iAt_eq hk]; exact List.getElem_mem _
set_option maxRecDepth 100000 in
set_option maxHeartbeats 1000000 in
theorem index83 (A : Option Addr) (n cap : Nat) (zs : List Int) (x : Int) (w : World) (h : Ints w A n zs) (hn : n ≤ 1000000) :
    Calls Try.prog 83 #[.slice A n cap, .int .i64 x] w fun e w' => (∃ r : Int, e = .returned (.int .i64 r) ∧ decide (0 ≤ r) = decide (x ∈ zs)) ∧ w' = w := by
  have HN := Lib.hid h.1
  go_enter Try.func83, Try.ntmps83
  go_wp2_with fail
  go_loopw [5, 8] (fun y i wr => ∃ k : Nat, k ≤ n ∧ i = .int .i64 k ∧ nonK zs x k = true ∧ wr = w) (fun y i _ => n - (intOf i).toNat)
  case atStart => exact ⟨0, Nat.zero_le _, rfl, rfl, rfl⟩
  case round =>
    obtain ⟨k, hk, rfl, hw, rfl⟩ := hrel
    by_cases hlt : k < n
    · obtain ⟨hl, hc⟩ := h
      obtain ⟨b, o, rfl, hc2⟩ := hc (by omega)
      have c0 := hc2 k hlt
      have Hs := Lib.hid (nonK_succ zs x k)
      have Hm := Lib.hid (fun e => mem_iAt (x := x) (show k < zs.length by omega) e)
      have Hw := Lib.hid hw
      obtain ⟨g, hg⟩ : ∃ g, iAt zs k = g := ⟨_, rfl⟩
      rw [hg] at c0 Hs Hm
      have i0 : (0 : Int) ≤ (k : Int) := by omega
      have i1 : (k : Int) < (n : Int) := by omega
      clear hc hc2 hw hl hg
      by_cases h1 : x = g
      · have HX := Lib.hid (Hm.out h1)
        have d1 : (x == g) = true := by rw [beq_iff_eq]; exact h1
        clear h1
        go_wp2_with fail
        go_ret
        exact ⟨⟨_, rfl, by rw [decide_eq_true HX.out]; exact decide_eq_true (by omega)⟩, rfl⟩
      · have HX := Lib.hid h1
        have d1 : (x == g) = false := by rw [beq_eq_false_iff_ne]; exact h1
        clear h1
        go_wp2_with fail
        go_roundw
        case rel => exact ⟨k + 1, by omega, by go_num, by rw [Hs.out, Hw.out, decide_eq_false HX.out]; rfl, by first | trivial | rfl⟩
        case measure => simp [intOf]; omega
    · have HX := Lib.hid (nonK_all (zs := zs) (x := x) (by rw [HN.out, ← hw]; congr 1; omega))
      go_wp2_with fail
      go_ret
      exact ⟨⟨_, rfl, by rw [decide_eq_false HX.out]; rfl⟩, rfl⟩
set_option maxRecDepth 100000 in
set_option maxHeartbeats 1000000 in
theorem contains71 (A : Option Addr) (n cap : Nat) (zs : List Int) (x : Int) (w : World) (h : Ints w A n zs) (hn : n ≤ 1000000) :
    Calls Try.prog 71 #[.slice A n cap, .int .i64 x] w fun e w' => e = .returned (.bool (decide (x ∈ zs))) ∧ w' = w := by
  have key := index83 A n cap zs x w h hn
  go_enter Try.func71, Try.ntmps71
  go_wp2_with fail
  refine key.mono ?_
  rintro en w1 ⟨⟨r, rfl, hr⟩, rfl⟩
  have Hr := Lib.hid hr
  clear hr key
  by_cases h0 : 0 ≤ r
  · have H0 := Lib.hid h0
    go_wp2_with fail
    go_ret
    exact ⟨ret_bool (by rw [← Hr.out]; exact (decide_eq_true H0.out).symm), rfl⟩
  · have H0 := Lib.hid h0
    go_wp2_with fail
    go_ret
    exact ⟨ret_bool (by rw [← Hr.out]), rfl⟩
/-- The list has all of several numbers. -/
def subI (a b : List Int) : Bool := b.all fun x => decide (x ∈ a)
theorem subI_take {a b : List Int} {k : Nat} (hk : k < b.length) : subI a (b.take (k + 1)) = (subI a (b.take k) && decide (iAt b k ∈ a)) := all_take _ b k 0 hk
theorem subI_stop {a b : List Int} {k : Nat} (hk : k < b.length) (h : iAt b k ∉ a) : subI a b = false := all_stop _ b k 0 hk (decide_eq_false h)
set_option maxRecDepth 100000 in
set_option maxHeartbeats 1000000 in
theorem contains53 (A : Option Addr) (n cap : Nat) (a : List Int) (A2 : Option Addr) (n2 cap2 : Nat) (b : List Int) (w : World) (h : Ints w A n a) (h2 : Ints w A2 n2 b) (hn : n ≤ 1000000) (hn2 : n2 ≤ 1000000) :
    Calls Try.prog 53 #[.slice A n cap, .slice A2 n2 cap2] w fun e w' => e = .returned (.bool (subI a b)) ∧ w' = w := by
  have HA := Lib.hid (fun x => contains71 A n cap a x w h hn)
  go_enter Try.func53, Try.ntmps53
  go_wp2_with fail
  go_loopw [6, 9] (fun y i wr => ∃ k : Nat, k ≤ n2 ∧ i = .int .i64 k ∧ Hid (subI a (b.take k) = true) ∧ wr = w) (fun y i _ => n2 - (intOf i).toNat)
  case atStart => exact ⟨0, Nat.zero_le _, rfl, Lib.hid rfl, rfl⟩
  case round =>
    obtain ⟨k, hk, rfl, Hw, rfl⟩ := hrel
    by_cases hlt : k < n2
    · obtain ⟨hl, hc⟩ := h2
      obtain ⟨b1, o, rfl, hc2⟩ := hc (by omega)
      have c0 := hc2 k hlt
      have Hs := Lib.hid (subI_take (a := a) (b := b) (k := k) (by omega))
      have Hf := Lib.hid (subI_stop (a := a) (b := b) (k := k) (by omega))
      obtain ⟨g, hg⟩ : ∃ g, iAt b k = g := ⟨_, rfl⟩
      rw [hg] at c0 Hs Hf
      have i0 : (0 : Int) ≤ (k : Int) := by omega
      have i1 : (k : Int) < (n2 : Int) := by omega
      clear hc hc2 hl hg
      go_wp2_with fail
      refine (HA.out g).mono ?_
      rintro en w1 ⟨rfl, rfl⟩
      by_cases hm : g ∈ a
      · have HM := Lib.hid hm
        rw [decide_eq_true hm]
        clear hm
        go_wp2_with fail
        go_roundw
        case rel => exact ⟨k + 1, by omega, by go_num, Lib.hid (by rw [Hs.out, Hw.out, decide_eq_true HM.out]; rfl), by first | trivial | rfl⟩
        case measure => simp [intOf]; omega
      · have HM := Lib.hid hm
        rw [decide_eq_false hm]
        clear hm
        go_wp2_with fail
        go_ret
        exact ⟨ret_bool (Hf.out HM.out).symm, rfl⟩
    · go_wp2_with fail
      go_ret
      exact ⟨ret_bool (by rw [← Hw.out, List.take_of_length_le (by have := h2.1; omega)]), rfl⟩
set_option maxRecDepth 100000 in
set_option maxHeartbeats 1000000 in
theorem in38 (A : Option Addr) (n cap : Nat) (zs : List Int) (x : Int) (w : World) (h : Ints w A n zs) (hn : n ≤ 1000000) :
    Calls Try.prog 38 #[.slice A n cap, .int .i64 x] w fun e w' => e = .returned (.bool (decide (x ∈ zs))) ∧ w' = w := by
  have HN := Lib.hid h.1
  go_enter Try.func38, Try.ntmps38
  go_wp2_with fail
  go_loopw [5] (fun i wr => ∃ k : Nat, k ≤ n ∧ i = .int .i64 k ∧ nonK zs x k = true ∧ wr = w) (fun i _ => n - (intOf i).toNat)
  case atStart => exact ⟨0, Nat.zero_le _, rfl, rfl, rfl⟩
  case round =>
    obtain ⟨k, hk, rfl, hw, rfl⟩ := hrel
    by_cases hlt : k < n
    · obtain ⟨hl, hc⟩ := h
      obtain ⟨b, o, rfl, hc2⟩ := hc (by omega)
      have c0 := hc2 k hlt
      have Hs := Lib.hid (nonK_succ zs x k)
      have Hm := Lib.hid (fun e => mem_iAt (x := x) (show k < zs.length by omega) e)
      have Hw := Lib.hid hw
      obtain ⟨g, hg⟩ : ∃ g, iAt zs k = g := ⟨_, rfl⟩
      rw [hg] at c0 Hs Hm
      have i0 : (0 : Int) ≤ (k : Int) := by omega
      have i1 : (k : Int) < (n : Int) := by omega
      clear hc hc2 hw hl hg
      by_cases h1 : x = g
      · have HX := Lib.hid (Hm.out h1)
        have d1 : (g == x) = true := by rw [beq_iff_eq]; exact h1.symm
        clear h1
        go_wp2_with fail
        go_ret
        exact ⟨ret_bool (decide_eq_true HX.out).symm, rfl⟩
      · have HX := Lib.hid h1
        have d1 : (g == x) = false := by rw [beq_eq_false_iff_ne]; exact fun e => h1 e.symm
        clear h1
        go_wp2_with fail
        go_roundw
        case rel => exact ⟨k + 1, by omega, by go_num, by rw [Hs.out, Hw.out, decide_eq_false HX.out]; rfl, by first | trivial | rfl⟩
        case measure => simp [intOf]; omega
    · have HX := Lib.hid (nonK_all (zs := zs) (x := x) (by rw [HN.out, ← hw]; congr 1; omega))
      go_wp2_with fail
      go_ret
      exact ⟨ret_bool (decide_eq_false HX.out).symm, rfl⟩
end Go.Proofs.Ytigohccehllmnaa

namespace Go.Proofs.Ytigohccehllmnaa
set_option linter.unusedSimpArgs false
set_option linter.unusedVariables false
open Go.RowKit Go.Shelf

/-- A value of functions that tells of numbers what p says. -/
def Tells (W : World) (fv : Value) (D : Int → Prop) (p : Int → Bool) : Prop :=
  ∃ g ra lb, fv = .func (.func g) ra lb ∧ (∀ args w, (callFunc g args).run Try.prog w = .ok (.enter g args) w) ∧ ∀ W2 x, D x → Below W.heap.size W W2 → Calls Try.prog g (ra ++ #[.int .i64 x] ++ lb) W2 fun e W3 => e = .returned (.bool (p x)) ∧ Below W2.heap.size W2 W3
theorem Tells.below {W W' : World} {fv : Value} {D : Int → Prop} {p : Int → Bool} (h : Tells W fv D p) (hb : Below W.heap.size W W') : Tells W' fv D p := by
  obtain ⟨g, ra, lb, a, b, c⟩ := h
  exact ⟨g, ra, lb, a, b, fun W2 x hx h2 => c W2 x hx (hb.trans (h2.mono hb.size))⟩
set_option maxRecDepth 100000 in
set_option maxHeartbeats 4000000 in
theorem in70 (b : Nat) (A : Option Addr) (n cap : Nat) (zs : List Int) (x : Int) (w : World) (h : Ints w A n zs) (hn : n ≤ 1000000) (hc : w.cell? ⟨b, 0, none⟩ = some (.slice A n cap)) :
    Calls Try.prog 70 #[.int .i64 x, .pointer (some ⟨b, 0, none⟩)] w fun e w' => e = .returned (.bool (decide (x ∈ zs))) ∧ w' = w := by
  have key := contains71 A n cap zs x w h hn
  clear h
  go_enter Try.func70, Try.ntmps70
  go_wp2_with fail
  refine key.mono ?_
  rintro en w1 ⟨rfl, rfl⟩
  go_wp2_with fail
  go_ret
  exact ⟨rfl, rfl⟩
theorem enters70 : ∀ args w, (callFunc 70 args).run Try.prog w = .ok (.enter 70 args) w := enters_of Try.func70 (by kernel_rfl) rfl
theorem tells70 {W : World} {b : Nat} {A : Option Addr} {n cap : Nat} {zs : List Int} (h : Ints W A n zs) (hn : n ≤ 1000000) (hc : W.cell? ⟨b, 0, none⟩ = some (.slice A n cap)) (D : Int → Prop) : Tells W (.func (.func 70) #[] #[.pointer (some ⟨b, 0, none⟩)]) D (fun x => decide (x ∈ zs)) :=
  ⟨70, #[], #[.pointer (some ⟨b, 0, none⟩)], rfl, enters70, fun W2 x _ hb => (in70 b A n cap zs x W2 (h.below hb (Nat.le_refl _)) hn ((hb.cell (p := ⟨b, 0, none⟩) (lt_of_cell hc)).trans hc)).mono (by rintro e w3 ⟨rfl, rfl⟩; exact ⟨rfl, Below.refl _ _⟩)⟩
set_option maxRecDepth 100000 in
set_option maxHeartbeats 4000000 in
theorem in49 (A : Option Addr) (n cap : Nat) (zs : List Int) (w : World) (h : Ints w A n zs) (hn : n ≤ 1000000) :
    Calls Try.prog 49 #[.slice A n cap] w fun e w' => ∃ fv, e = .returned fv ∧ (∀ D, Tells w' fv D (fun x => decide (x ∈ zs))) ∧ Below w.heap.size w w' := by
  have hb0 := below_alloc_ w (.cells #[.slice A n cap] 23)
  have hr0 := heap_alloc_new_ w (.cells #[.slice A n cap] 23)
  have HB := Lib.hid hb0
  have HI := Lib.hid (h.below hb0 (Nat.le_refl _))
  have HR := Lib.hid hr0
  clear h hb0 hr0
  go_enter Try.func49, Try.ntmps49
  go_wp2_with fail
  go_ret
  exact ⟨_, rfl, fun D => tells70 HI.out hn (by rw [cell_row HR.out]; rfl) D, HB.out⟩
/-- The first one that is told. -/
def noT (zs : List Int) (p : Int → Bool) (k : Nat) : Bool := (List.range k).all fun j => !p (iAt zs j)
theorem noT_succ (zs : List Int) (p : Int → Bool) (k : Nat) : noT zs p (k + 1) = (noT zs p k && !p (iAt zs k)) := by simp [noT, List.range_succ]
theorem noT_all {zs : List Int} {p : Int → Bool} (h : noT zs p zs.length = true) : zs.any p = false := by
  rw [List.any_eq_false]
  intro x hx
  unfold noT at h
  rw [List.all_eq_true] at h
  obtain ⟨j, hj, e⟩ := List.getElem_of_mem hx
  have := h j (List.mem_range.2 hj)
  rw [iAt_eq hj, e] at this
  simpa using this
set_option maxRecDepth 100000 in
set_option maxHeartbeats 4000000 in
theorem indexFunc69 (A : Option Addr) (n cap : Nat) (zs : List Int) (fv : Value) (p : Int → Bool) (w : World) (h : Ints w A n zs) (hn : n ≤ 1000000) (hT : Tells w fv (fun _ => True) p) :
    Calls Try.prog 69 #[.slice A n cap, fv] w fun e w' => (∃ r : Int, e = .returned (.int .i64 r) ∧ decide (0 ≤ r) = zs.any p) ∧ Below w.heap.size w w' := by
  obtain ⟨g, ra, lb, rfl, eg, hT⟩ := hT
  have HT := Lib.hid hT
  have Heg := Lib.hid eg
  have S := Lib.hid h
  have HN := Lib.hid h.1
  clear hT eg h
  go_enter Try.func69, Try.ntmps69
  go_wp2_with fail
  go_loopw [5, 8] (fun y i wr => ∃ k : Nat, k ≤ n ∧ i = .int .i64 k ∧ Hid (noT zs p k = true) ∧ Hid (Below w.heap.size w wr)) (fun y i _ => n - (intOf i).toNat)
  case atStart => exact ⟨0, Nat.zero_le _, rfl, Lib.hid rfl, Lib.hid (Below.refl _ _)⟩
  case round =>
    obtain ⟨k, hk, rfl, Hw, HBl⟩ := hrel
    obtain ⟨wk, rfl⟩ : ∃ wk, wk = wr := ⟨_, rfl⟩
    by_cases hlt : k < n
    · obtain ⟨hl, hc⟩ := S.out.below HBl.out (Nat.le_refl _)
      obtain ⟨b, o, rfl, hc2⟩ := hc (by omega)
      have c0 := hc2 k hlt
      have Hs := Lib.hid (noT_succ zs p k)
      have Hm := Lib.hid (show p (iAt zs k) = true → zs.any p = true from fun e => List.any_eq_true.2 ⟨iAt zs k, by rw [iAt_eq (by omega)]; exact List.getElem_mem _, e⟩)
      obtain ⟨gx, hgx⟩ : ∃ g, iAt zs k = g := ⟨_, rfl⟩
      rw [hgx] at c0 Hs Hm
      have i0 : (0 : Int) ≤ (k : Int) := by omega
      have i1 : (k : Int) < (n : Int) := by omega
      have eg := Heg.out
      clear hc hc2 hl hgx
      go_wp2_with fail
      refine (HT.out wk gx trivial HBl.out).mono ?_
      rintro en w1 ⟨rfl, hb1⟩
      have HB1 := Lib.hid (HBl.out.trans (hb1.mono HBl.out.size))
      clear hb1 eg c0
      obtain ⟨q, hq⟩ : ∃ q, p gx = q := ⟨_, rfl⟩
      have Hq := Lib.hid hq
      rw [hq]
      clear hq
      rcases q with _ | _
      · go_wp2_with fail
        go_roundw
        case rel => exact ⟨k + 1, by omega, by go_num, Lib.hid (by rw [Hs.out, Hw.out, Hq.out]; rfl), HB1⟩
        case measure => simp [intOf]; omega
      · go_wp2_with fail
        go_ret
        exact ⟨⟨_, rfl, by rw [Hm.out Hq.out]; exact decide_eq_true (by omega)⟩, HB1.out⟩
    · have HX := Lib.hid (noT_all (zs := zs) (p := p) (by rw [HN.out, ← Hw.out]; congr 1; omega))
      go_wp2_with fail
      go_ret
      exact ⟨⟨_, rfl, by rw [HX.out]; rfl⟩, HBl.out⟩
set_option maxRecDepth 100000 in
set_option maxHeartbeats 4000000 in
theorem containsFunc48 (A : Option Addr) (n cap : Nat) (zs : List Int) (fv : Value) (p : Int → Bool) (w : World) (h : Ints w A n zs) (hn : n ≤ 1000000) (hT : Tells w fv (fun _ => True) p) :
    Calls Try.prog 48 #[.slice A n cap, fv] w fun e w' => e = .returned (.bool (zs.any p)) ∧ Below w.heap.size w w' := by
  have key := indexFunc69 A n cap zs fv p w h hn hT
  clear h hT
  go_enter Try.func48, Try.ntmps48
  go_wp2_with fail
  refine key.mono ?_
  rintro en w1 ⟨⟨r, rfl, hr⟩, hb⟩
  have HB := Lib.hid hb
  have Hr := Lib.hid hr
  clear hr hb key
  by_cases h0 : 0 ≤ r
  · have H0 := Lib.hid h0
    go_wp2_with fail
    go_ret
    exact ⟨ret_bool (by rw [← Hr.out]; exact (decide_eq_true H0.out).symm), HB.out⟩
  · have H0 := Lib.hid h0
    go_wp2_with fail
    go_ret
    exact ⟨ret_bool (by rw [← Hr.out]), HB.out⟩
/-- A slice of n lists reads as xs. -/
def Rows (w : World) (A : Option Addr) (n : Nat) (xs : List (List Int)) : Prop :=
  xs.length = n ∧ (0 < n → ∃ b o, A = some ⟨b, o, none⟩ ∧ ∀ j, j < n → ∃ C m c, w.cell? ⟨b, o + j, none⟩ = some (.slice C m c) ∧ Ints w C m (xs.getD j []) ∧ m ≤ c ∧ m ≤ 1000000)
theorem Rows.below {w w' : World} {A : Option Addr} {n B : Nat} {xs : List (List Int)} (h : Rows w A n xs) (hb : Below B w w') (hB : w.heap.size ≤ B) : Rows w' A n xs := by
  refine ⟨h.1, fun hn => ?_⟩
  obtain ⟨b, o, e, hc⟩ := h.2 hn
  refine ⟨b, o, e, fun j hj => ?_⟩
  obtain ⟨C, m, c, h1, h2, h3⟩ := hc j hj
  exact ⟨C, m, c, (hb.cell (p := ⟨b, o + j, none⟩) (by have := lt_of_cell h1; simp; omega)).trans h1, h2.below hb hB, h3⟩
theorem getD_eq {α : Type} {xs : List α} {k : Nat} (hk : k < xs.length) (d : α) : xs.getD k d = xs[k] := by simp [List.getD, hk]
set_option maxRecDepth 100000 in
set_option maxHeartbeats 4000000 in
theorem rising47 (A : Option Addr) (n cap : Nat) (xs : List (List Int)) (c : Int) (w : World) (h : Rows w A n xs) (hn : n ≤ 1000000) :
    Calls Try.prog 47 #[.int .i64 c, .slice A n cap] w fun e w' => e = .returned (.bool (xs.all (risI c))) ∧ w' = w := by
  have HN := Lib.hid h.1
  go_enter Try.func47, Try.ntmps47
  go_wp2_with fail
  go_loopw [12] (fun i wr => ∃ k : Nat, k ≤ n ∧ i = .int .i64 k ∧ Hid ((xs.take k).all (risI c) = true) ∧ wr = w) (fun i _ => n - (intOf i).toNat)
  case atStart => exact ⟨0, Nat.zero_le _, rfl, Lib.hid rfl, rfl⟩
  case round =>
    obtain ⟨k, hk, rfl, Hw, rfl⟩ := hrel
    by_cases hlt : k < n
    · obtain ⟨hl, hc⟩ := h
      obtain ⟨b, o, rfl, hc2⟩ := hc (by omega)
      obtain ⟨C, m, mc, c0, hI, hmc, hm⟩ := hc2 k hlt
      have Hs := Lib.hid (all_take (risI c) xs k [] (by omega))
      have Hf := Lib.hid (all_stop (risI c) xs k [] (by omega))
      obtain ⟨zs, hzs⟩ : ∃ g, xs.getD k [] = g := ⟨_, rfl⟩
      rw [hzs] at hI Hs Hf
      have i0 : (0 : Int) ≤ (k : Int) := by omega
      have i1 : (k : Int) < (n : Int) := by omega
      have HZ := Lib.hid hI.1
      clear hc hc2 hl hzs
      go_wp2_with fail
      go_loopw [7, 18] (fun p i wr2 => ∃ q : Nat, q ≤ m ∧ i = .int .i64 q ∧ p = .int .i64 (prvI zs q) ∧ risK c zs q = true ∧ wr2 = wr) (fun p i _ => m - (intOf i).toNat)
      case atStart => exact ⟨0, Nat.zero_le _, rfl, rfl, rfl, rfl⟩
      case round =>
        obtain ⟨q, hq, rfl, rfl, hw, rfl⟩ := hrel
        by_cases hlt2 : q < m
        · obtain ⟨hl2, hcc⟩ := hI
          obtain ⟨b2, o2, rfl, hcc2⟩ := hcc (by omega)
          have c2 := hcc2 q hlt2
          have Hs2 := Lib.hid (risK_succ c zs q)
          have Hf2 := Lib.hid (fun h => risK_stop (c := c) (zs := zs) (k := q) (n := m) h hlt2)
          have Hw2 := Lib.hid hw
          have Hp := Lib.hid (show prvI zs (q + 1) = iAt zs q by unfold prvI; rw [if_neg (by omega), Nat.add_sub_cancel])
          obtain ⟨p, hp⟩ : ∃ p, prvI zs q = p := ⟨_, rfl⟩
          obtain ⟨g, hg⟩ : ∃ g, iAt zs q = g := ⟨_, rfl⟩
          rw [hg] at c2 Hs2 Hf2 Hp
          rw [hp] at Hs2 Hf2
          rw [hp]
          have j0 : (0 : Int) ≤ (q : Int) := by omega
          have j1 : (q : Int) < (m : Int) := by omega
          clear hcc hcc2 hw hl2 hg hp
          by_cases h1 : g ≤ p
          · go_wp2_with fail
            go_ret
            exact ⟨ret_bool (Hf.out (by unfold risI; rw [HZ.out]; exact (Hf2.out (by rw [decide_eq_false (show ¬ p < g by omega)]; rfl)))).symm, rfl⟩
          · by_cases h3 : c ≤ g
            · go_wp2_with fail
              go_ret
              exact ⟨ret_bool (Hf.out (by unfold risI; rw [HZ.out]; exact (Hf2.out (by rw [decide_eq_false (show ¬ g < c by omega), Bool.and_false])))).symm, rfl⟩
            · go_wp2_with fail
              go_roundw
              case rel => exact ⟨q + 1, by omega, by go_num, by rw [Hp.out], by rw [Hs2.out, Hw2.out, decide_eq_true (show p < g by omega), decide_eq_true (show g < c by omega)]; rfl, by first | trivial | rfl⟩
              case measure => simp [intOf]; omega
        · have HX := Lib.hid (show risI c zs = true by unfold risI; rw [HZ.out, ← hw]; congr 1; omega)
          go_wp2_with fail
          go_roundw
          case rel => exact ⟨k + 1, by omega, by go_num, Lib.hid (by rw [Hs.out, Hw.out, HX.out]; rfl), by first | trivial | rfl⟩
          case measure => simp [intOf]; omega
    · go_wp2_with fail
      go_ret
      exact ⟨ret_bool (by rw [← Hw.out, List.take_of_length_le (by have := HN.out; omega)]), rfl⟩
end Go.Proofs.Ytigohccehllmnaa

namespace Go.Proofs.Ytigohccehllmnaa
set_option linter.unusedSimpArgs false
set_option linter.unusedVariables false
open Go.RowKit Go.Shelf

/-- A slice of n links reads as zs. -/
def Nls (w : World) (A : Option Addr) (n : Nat) (zs : List Nl) : Prop :=
  zs.length = n ∧ (0 < n → ∃ b o, A = some ⟨b, o, none⟩ ∧ ∀ j, j < n → w.cell? ⟨b, o + j * 3, none⟩ = some (.int .i64 (lAt zs j).one) ∧ w.cell? ⟨b, o + j * 3 + 1, none⟩ = some (.int .i64 (lAt zs j).two) ∧ w.cell? ⟨b, o + j * 3 + 2, none⟩ = some (.int .i64 (lAt zs j).tr))
theorem Nls.keepN {w w' : World} {A : Option Addr} {n : Nat} {zs : List Nl} {Mut : Nat → Prop} (h : Nls w A n zs) (hK : Keeps Mut w w') (hm : 0 < n → ∀ a, A = some a → ¬ Mut a.block) : Nls w' A n zs := by
  refine ⟨h.1, fun hn => ?_⟩
  obtain ⟨b, o, e, hc⟩ := h.2 hn
  have hl := lt_of_cell (hc 0 hn).1
  have hb := hm hn _ e
  exact ⟨b, o, e, fun j hj => ⟨(keep_cells hK hl hb _).trans (hc j hj).1, (keep_cells hK hl hb _).trans (hc j hj).2.1, (keep_cells hK hl hb _).trans (hc j hj).2.2⟩⟩
theorem Nls.below {w w' : World} {A : Option Addr} {n B : Nat} {zs : List Nl} (h : Nls w A n zs) (hb : Below B w w') (hB : w.heap.size ≤ B) : Nls w' A n zs := by
  refine ⟨h.1, fun hn => ?_⟩
  obtain ⟨b, o, e, hc⟩ := h.2 hn
  have hl := lt_of_cell (hc 0 hn).1
  exact ⟨b, o, e, fun j hj => ⟨(hb.cell (p := ⟨b, o + j * 3, none⟩) (by simp; omega)).trans (hc j hj).1, (hb.cell (p := ⟨b, o + j * 3 + 1, none⟩) (by simp; omega)).trans (hc j hj).2.1, (hb.cell (p := ⟨b, o + j * 3 + 2, none⟩) (by simp; omega)).trans (hc j hj).2.2⟩⟩
theorem Ints.keepN {W W' : World} {A : Option Addr} {n : Nat} {zs : List Int} {Mut : Nat → Prop} (h : Ints W A n zs) (hK : Keeps Mut W W') (hm : 0 < n → ∀ a, A = some a → ¬ Mut a.block) : Ints W' A n zs := by
  refine ⟨h.1, fun hn => ?_⟩
  obtain ⟨b, o, e, hc⟩ := h.2 hn
  have h2 := lt_of_cell (hc 0 hn)
  exact ⟨b, o, e, fun j hj => (keep_cells hK h2 (hm hn _ e) _).trans (hc j hj)⟩
/-- A list of names, with where it lies. -/
structure NL where
  N : Int
  A : Option Addr
  n : Nat
  cap : Nat
  zs : List Nl
  LA : Option Addr
  ln : Nat
  lc : Nat
  ls : List Int
  RA : Option Addr
  rn : Nat
  rc : Nat
  rs : List Int
/-- What memory holds of a list. -/
structure NLs (w : World) (l : NL) : Prop where
  zs : Nls w l.A l.n l.zs
  ls : Ints w l.LA l.ln l.ls
  rs : Ints w l.RA l.rn l.rs
  nc : l.n ≤ l.cap
  lc : l.ln ≤ l.lc
  rc : l.rn ≤ l.rc
  n6 : l.n ≤ 1000000
  l6 : l.ln ≤ 1000000
  r6 : l.rn ≤ 1000000
theorem NLs.below {w w' : World} {l : NL} {B : Nat} (h : NLs w l) (hb : Below B w w') (hB : w.heap.size ≤ B) : NLs w' l :=
  ⟨h.zs.below hb hB, h.ls.below hb hB, h.rs.below hb hB, h.nc, h.lc, h.rc, h.n6, h.l6, h.r6⟩
theorem ints_two {W : World} {Q : Nat} {a b : Int} {t : TypeId} (h : W.heap[Q]? = some (.cells #[.int .i64 a, .int .i64 b] t (0, 0))) : Ints W (some ⟨Q, 0, none⟩) 2 [a, b] :=
  ⟨rfl, fun _ => ⟨Q, 0, rfl, fun j hj => by
    rw [Nat.zero_add, cell_row h]
    rcases (by omega : j = 0 ∨ j = 1) with rfl | rfl <;> rfl⟩⟩
theorem ints_one {W : World} {Q : Nat} {a : Int} {t : TypeId} (h : W.heap[Q]? = some (.cells #[.int .i64 a] t (0, 0))) : Ints W (some ⟨Q, 0, none⟩) 1 [a] :=
  ⟨rfl, fun _ => ⟨Q, 0, rfl, fun j hj => by
    rw [Nat.zero_add, cell_row h]
    rcases (by omega : j = 0) with rfl; rfl⟩⟩
theorem rows_two {W : World} {Q : Nat} {C D : Option Addr} {m c k d : Nat} {xs ys : List Int} {t : TypeId} (h : W.heap[Q]? = some (.cells #[.slice C m c, .slice D k d] t (0, 0))) (hx : Ints W C m xs) (hy : Ints W D k ys) (h1 : m ≤ c) (h2 : k ≤ d) (h3 : m ≤ 1000000) (h4 : k ≤ 1000000) : Rows W (some ⟨Q, 0, none⟩) 2 [xs, ys] :=
  ⟨rfl, fun _ => ⟨Q, 0, rfl, fun j hj => by
    rcases (by omega : j = 0 ∨ j = 1) with rfl | rfl
    · exact ⟨C, m, c, by rw [cell_row h]; rfl, hx, h1, h3⟩
    · exact ⟨D, k, d, by rw [cell_row h]; rfl, hy, h2, h4⟩⟩⟩
theorem rows_one {W : World} {Q : Nat} {C : Option Addr} {m c : Nat} {xs : List Int} {t : TypeId} (h : W.heap[Q]? = some (.cells #[.slice C m c] t (0, 0))) (hx : Ints W C m xs) (h1 : m ≤ c) (h3 : m ≤ 1000000) : Rows W (some ⟨Q, 0, none⟩) 1 [xs] :=
  ⟨rfl, fun _ => ⟨Q, 0, rfl, fun j hj => by
    rcases (by omega : j = 0) with rfl
    exact ⟨C, m, c, by rw [cell_row h]; rfl, hx, h1, h3⟩⟩⟩
theorem withI_one (lo hi x : Int) : withI lo hi [x] = inB lo hi x := by simp [withI]
theorem withI_two (lo hi x y : Int) : withI lo hi [x, y] = (inB lo hi x && inB lo hi y) := by simp [withI]
/-- A link of a list. -/
def okN (N : Int) (r : Nl) : Bool := (inB 0 (N - 1) r.one && inB 0 (N - 1) r.two) && !decide (r.one = r.two) && inB 1 1000000 r.tr
theorem okN_take {N : Int} {zs : List Nl} {k : Nat} (hk : k < zs.length) : (zs.take (k + 1)).all (okN N) = ((zs.take k).all (okN N) && okN N (lAt zs k)) := all_take _ zs k ⟨0, 0, 0⟩ hk
theorem okN_stop {N : Int} {zs : List Nl} {k : Nat} (hk : k < zs.length) (h : okN N (lAt zs k) = false) : zs.all (okN N) = false := all_stop _ zs k ⟨0, 0, 0⟩ hk h
/-- The error of a list. -/
def chkL (l : NL) : Int := if (inB 2 40 l.N && decide (l.n ≤ 120) && (inB 1 10 l.ln && inB 1 10 l.rn)) = false then 6 else if l.zs.all (okN l.N) = false then 2 else if (risI l.N l.ls && risI l.N l.rs) = false then 3 else if l.ls.any (fun x => decide (x ∈ l.rs)) = true then 21 else 0
theorem chk_6 {l : NL} (h : (inB 2 40 l.N && decide (l.n ≤ 120) && (inB 1 10 l.ln && inB 1 10 l.rn)) = false) : chkL l = 6 := by unfold chkL; rw [if_pos h]
theorem chk_2 {l : NL} (h0 : (inB 2 40 l.N && decide (l.n ≤ 120) && (inB 1 10 l.ln && inB 1 10 l.rn)) = true) (h : l.zs.all (okN l.N) = false) : chkL l = 2 := by unfold chkL; rw [if_neg (by rw [h0]; decide), if_pos h]
theorem chk_3 {l : NL} (h0 : (inB 2 40 l.N && decide (l.n ≤ 120) && (inB 1 10 l.ln && inB 1 10 l.rn)) = true) (h1 : l.zs.all (okN l.N) = true) (h : (risI l.N l.ls && risI l.N l.rs) = false) : chkL l = 3 := by unfold chkL; rw [if_neg (by rw [h0]; decide), if_neg (by rw [h1]; decide), if_pos h]
theorem chk_21 {l : NL} (h0 : (inB 2 40 l.N && decide (l.n ≤ 120) && (inB 1 10 l.ln && inB 1 10 l.rn)) = true) (h1 : l.zs.all (okN l.N) = true) (h2 : (risI l.N l.ls && risI l.N l.rs) = true) (h : l.ls.any (fun x => decide (x ∈ l.rs)) = true) : chkL l = 21 := by unfold chkL; rw [if_neg (by rw [h0]; decide), if_neg (by rw [h1]; decide), if_neg (by rw [h2]; decide), if_pos h]
theorem chk_0 {l : NL} (h0 : (inB 2 40 l.N && decide (l.n ≤ 120) && (inB 1 10 l.ln && inB 1 10 l.rn)) = true) (h1 : l.zs.all (okN l.N) = true) (h2 : (risI l.N l.ls && risI l.N l.rs) = true) (h : l.ls.any (fun x => decide (x ∈ l.rs)) = false) : chkL l = 0 := by unfold chkL; rw [if_neg (by rw [h0]; decide), if_neg (by rw [h1]; decide), if_neg (by rw [h2]; decide), if_neg (by rw [h]; decide)]
section
attribute [local go_sem ↓] exec_app at_app
attribute [local go_sem] Oper.semAt_some
set_option maxRecDepth 100000 in
set_option maxHeartbeats 4000000 in
theorem checkList17 (l : NL) (w : World) (h : NLs w l) :
    Calls Try.prog 17 #[.agg #[.int .i64 l.N, .slice l.A l.n l.cap, .slice l.LA l.ln l.lc, .slice l.RA l.rn l.rc]] w fun e w' => e = .returned (.int .i64 (chkL l)) ∧ Below w.heap.size w w' := by
  obtain ⟨R, hR⟩ : ∃ v, w.heap.size = v := ⟨_, rfl⟩
  have hb0 := below_alloc_ w (.cells #[.int .i64 l.N, .slice l.A l.n l.cap, .slice l.LA l.ln l.lc, .slice l.RA l.rn l.rc] 25)
  have hr0 := heap_alloc_new_ w (.cells #[.int .i64 l.N, .slice l.A l.n l.cap, .slice l.LA l.ln l.lc, .slice l.RA l.rn l.rc] 25)
  have hz0 : (w.alloc (.cells #[.int .i64 l.N, .slice l.A l.n l.cap, .slice l.LA l.ln l.lc, .slice l.RA l.rn l.rc] 25)).heap.size = w.heap.size + 1 := by simp
  obtain ⟨w0, hw0⟩ : ∃ v, w.alloc (.cells #[.int .i64 l.N, .slice l.A l.n l.cap, .slice l.LA l.ln l.lc, .slice l.RA l.rn l.rc] 25) = v := ⟨_, rfl⟩
  rw [hw0] at hb0 hr0 hz0
  rw [hR] at hr0 hz0
  have hB := hb0
  have S := Lib.hid (h.below hB (Nat.le_refl _))
  have X := Lib.hid hr0
  have HW0 := Lib.hid hw0
  have B := Lib.hid hB
  have HR := Lib.hid hR
  clear hB hR hb0 hr0 hz0 hw0 h
  have s0 : w0.heap.size = R + 1 := by rw [← HW0.out, ← HR.out]; simp
  have hrA := heap_alloc_new_ w0 (.cells #[.int .i64 l.N] 3)
  rw [s0] at hrA
  have kA := within45 (some ⟨R + 1, 0, none⟩) 1 1 [l.N] 2 40 _ (ints_one hrA) (by omega)
  rw [withI_one] at kA
  obtain ⟨b0, hb0⟩ : ∃ v, inB 2 40 l.N = v := ⟨_, rfl⟩
  rw [hb0] at kA
  have KA := Lib.hid kA
  have HB0 := Lib.hid hb0
  clear kA hrA hb0 s0
  have zX0 : w0.cell? ⟨R, 0, none⟩ = some (.int .i64 l.N) := by rw [cell_row X.out]; rfl
  have zX1 : w0.cell? ⟨R, 1, none⟩ = some (.slice l.A l.n l.cap) := by rw [cell_row X.out]; rfl
  have zX2 : w0.cell? ⟨R, 2, none⟩ = some (.slice l.LA l.ln l.lc) := by rw [cell_row X.out]; rfl
  have zX3 : w0.cell? ⟨R, 3, none⟩ = some (.slice l.RA l.rn l.rc) := by rw [cell_row X.out]; rfl
  go_enter Try.func17, Try.ntmps17
  go_wp2_with fail
  rw [HW0.out]
  try rw [HR.out]
  try go_wp2_with fail
  refine KA.out.mono ?_
  rintro en w1 ⟨rfl, rfl⟩
  have hb := below_alloc_ w0 (.cells #[.int .i64 l.N] 3)
  clear KA
  obtain ⟨w1, hw1⟩ : ∃ v, w0.alloc (.cells #[.int .i64 l.N] 3) = v := ⟨_, rfl⟩
  rw [hw1] at hb ⊢
  clear hw1
  clear zX0 zX1 zX2 zX3
  replace S := Lib.hid (S.out.below hb (Nat.le_refl _))
  replace X := Lib.hid ((hb.block _ (lt_of_block X.out)).trans X.out)
  replace B := Lib.hid (B.out.trans (hb.mono B.out.size))
  clear hb
  have zX0 : w1.cell? ⟨R, 0, none⟩ = some (.int .i64 l.N) := by rw [cell_row X.out]; rfl
  have zX1 : w1.cell? ⟨R, 1, none⟩ = some (.slice l.A l.n l.cap) := by rw [cell_row X.out]; rfl
  have zX2 : w1.cell? ⟨R, 2, none⟩ = some (.slice l.LA l.ln l.lc) := by rw [cell_row X.out]; rfl
  have zX3 : w1.cell? ⟨R, 3, none⟩ = some (.slice l.RA l.rn l.rc) := by rw [cell_row X.out]; rfl
  rcases b0 with _ | _
  · go_wp2_with fail
    go_ret
    exact ⟨by rw [chk_6 (by rw [HB0.out]; rfl)] <;> rfl, B.out⟩
  have hN := inB_iff.1 HB0.out
  by_cases h120 : l.n ≤ 120
  rotate_left
  · have d1 : (120 : Int) < (l.n : Int) := by omega
    have H120 := Lib.hid (decide_eq_false h120)
    go_wp2_with fail
    go_ret
    exact ⟨by rw [chk_6 (by rw [HB0.out, H120.out]; rfl)] <;> rfl, B.out⟩
  have d1 : ¬ (120 : Int) < (l.n : Int) := by omega
  have H120 := Lib.hid (decide_eq_true h120)
  clear h120
  obtain ⟨b1, hb1⟩ : ∃ v, (inB 1 10 l.ln && inB 1 10 l.rn) = v := ⟨_, rfl⟩
  have hrA := heap_alloc_new_ w1 (.cells #[.int .i64 (l.ln : Int), .int .i64 (l.rn : Int)] 3)
  have kA := within45 (some ⟨w1.heap.size, 0, none⟩) 2 2 [(l.ln : Int), (l.rn : Int)] 1 10 _ (ints_two hrA) (by omega)
  rw [withI_two, hb1] at kA
  have KA := Lib.hid kA
  have HB1 := Lib.hid hb1
  clear kA hrA hb1
  go_wp2_with fail
  clear d1
  refine KA.out.mono ?_
  rintro en w2 ⟨rfl, rfl⟩
  have hb := below_alloc_ w1 (.cells #[.int .i64 (l.ln : Int), .int .i64 (l.rn : Int)] 3)
  clear KA
  obtain ⟨w2, hw2⟩ : ∃ v, w1.alloc (.cells #[.int .i64 (l.ln : Int), .int .i64 (l.rn : Int)] 3) = v := ⟨_, rfl⟩
  rw [hw2] at hb ⊢
  clear hw2
  clear zX0 zX1 zX2 zX3
  replace S := Lib.hid (S.out.below hb (Nat.le_refl _))
  replace X := Lib.hid ((hb.block _ (lt_of_block X.out)).trans X.out)
  replace B := Lib.hid (B.out.trans (hb.mono B.out.size))
  clear hb
  have zX0 : w2.cell? ⟨R, 0, none⟩ = some (.int .i64 l.N) := by rw [cell_row X.out]; rfl
  have zX1 : w2.cell? ⟨R, 1, none⟩ = some (.slice l.A l.n l.cap) := by rw [cell_row X.out]; rfl
  have zX2 : w2.cell? ⟨R, 2, none⟩ = some (.slice l.LA l.ln l.lc) := by rw [cell_row X.out]; rfl
  have zX3 : w2.cell? ⟨R, 3, none⟩ = some (.slice l.RA l.rn l.rc) := by rw [cell_row X.out]; rfl
  rcases b1 with _ | _
  · go_wp2_with fail
    go_ret
    exact ⟨by rw [chk_6 (by rw [HB0.out, H120.out, HB1.out]; rfl)] <;> rfl, B.out⟩
  have HH := Lib.hid (show (inB 2 40 l.N && decide (l.n ≤ 120) && (inB 1 10 l.ln && inB 1 10 l.rn)) = true by rw [HB0.out, H120.out, HB1.out]; rfl)
  have hw1 : IntKind.i64.wrap (l.N - 1) = l.N - 1 := IntWalk.i64_in _ (by omega)
  go_wp2_with fail
  clear zX0 zX1 zX2 zX3
  go_loopw [4, 28] (fun p i wr => ∃ k : Nat, k ≤ l.n ∧ i = .int .i64 (k : Int) ∧ Hid ((l.zs.take k).all (okN l.N) = true) ∧ Hid (Below w2.heap.size w2 wr)) (fun p i _ => l.n - (intOf i).toNat)
  case atStart => exact ⟨0, Nat.zero_le _, rfl, Lib.hid rfl, Lib.hid (Below.refl _ _)⟩
  case round =>
    obtain ⟨k, hk9, rfl, Hw, HBl⟩ := hrel
    obtain ⟨wk, rfl⟩ : ∃ wk, wk = wr := ⟨_, rfl⟩
    have hb := HBl.out
    have Q := HBl
    replace S := Lib.hid (S.out.below hb (Nat.le_refl _))
    replace X := Lib.hid ((hb.block _ (lt_of_block X.out)).trans X.out)
    replace B := Lib.hid (B.out.trans (hb.mono B.out.size))
    clear hb
    by_cases hlt : k < l.n
    · obtain ⟨bz, oz, hA, hcz⟩ := S.out.zs.2 (by omega)
      obtain ⟨z0, z1, z2⟩ := hcz k hlt
      have Hs := Lib.hid (okN_take (N := l.N) (zs := l.zs) (k := k) (by rw [S.out.zs.1]; exact hlt))
      have Hf := Lib.hid (okN_stop (N := l.N) (zs := l.zs) (k := k) (by rw [S.out.zs.1]; exact hlt))
      obtain ⟨g, hg⟩ : ∃ g, lAt l.zs k = g := ⟨_, rfl⟩
      rw [hg] at z0 z1 z2 Hs Hf
      obtain ⟨gl, gh, gt⟩ := g
      simp only at z0 z1 z2
      have i0 : (0 : Int) ≤ (k : Int) := by omega
      have i1 : (k : Int) < (l.n : Int) := by omega
      clear hcz hg
      rw [hA] at X
      have hb := below_alloc_ wk (.cells #[.int .i64 gl, .int .i64 gh, .int .i64 gt] 60)
      have hr1 := heap_alloc_new_ wk (.cells #[.int .i64 gl, .int .i64 gh, .int .i64 gt] 60)
      have zX0 : wk.cell? ⟨R, 0, none⟩ = some (.int .i64 l.N) := by rw [cell_row X.out]; rfl
      have zX1 : wk.cell? ⟨R, 1, none⟩ = some (.slice (some ⟨bz, oz, none⟩) l.n l.cap) := by rw [cell_row X.out]; rfl
      have zX2 : wk.cell? ⟨R, 2, none⟩ = some (.slice l.LA l.ln l.lc) := by rw [cell_row X.out]; rfl
      have zX3 : wk.cell? ⟨R, 3, none⟩ = some (.slice l.RA l.rn l.rc) := by rw [cell_row X.out]; rfl
      rw [hA]
      go_upto_region 8 with fail
      obtain ⟨wV, hV⟩ : ∃ V, wk.alloc (.cells #[.int .i64 gl, .int .i64 gh, .int .i64 gt] 60) = V := ⟨_, rfl⟩
      obtain ⟨P, hP⟩ : ∃ P, wk.heap.size = P := ⟨_, rfl⟩
      rw [hV] at hb hr1 ⊢
      rw [hP] at hr1 ⊢
      clear z0 z1 z2 hV hP
      clear zX0 zX1 zX2 zX3
      replace S := Lib.hid (S.out.below hb (Nat.le_refl _))
      replace X := Lib.hid ((hb.block _ (lt_of_block X.out)).trans X.out)
      replace B := Lib.hid (B.out.trans (hb.mono B.out.size))
      replace Q := Lib.hid (Q.out.trans (hb.mono Q.out.size))
      clear hb
      have Y := Lib.hid hr1
      clear hr1
      have hr2 := heap_alloc_new_ wV (.cells #[.int .i64 gl, .int .i64 gh] 3)
      have k2 := within45 (some ⟨wV.heap.size, 0, none⟩) 2 2 [gl, gh] 0 (l.N - 1) _ (ints_two hr2) (by omega)
      rw [withI_two] at k2
      obtain ⟨x1, hx1⟩ : ∃ x1, (inB 0 (l.N - 1) gl && inB 0 (l.N - 1) gh) = x1 := ⟨_, rfl⟩
      rw [hx1] at k2
      have HX1 := Lib.hid hx1
      have K2 := Lib.hid k2
      clear k2 hr2 hx1
      have zX0 : wV.cell? ⟨R, 0, none⟩ = some (.int .i64 l.N) := by rw [cell_row X.out]; rfl
      have zX1 : wV.cell? ⟨R, 1, none⟩ = some (.slice (some ⟨bz, oz, none⟩) l.n l.cap) := by rw [cell_row X.out]; rfl
      have zX2 : wV.cell? ⟨R, 2, none⟩ = some (.slice l.LA l.ln l.lc) := by rw [cell_row X.out]; rfl
      have zX3 : wV.cell? ⟨R, 3, none⟩ = some (.slice l.RA l.rn l.rc) := by rw [cell_row X.out]; rfl
      have zY0 : wV.cell? ⟨P, 0, none⟩ = some (.int .i64 gl) := by rw [cell_row Y.out]; rfl
      have zY1 : wV.cell? ⟨P, 1, none⟩ = some (.int .i64 gh) := by rw [cell_row Y.out]; rfl
      have zY2 : wV.cell? ⟨P, 2, none⟩ = some (.int .i64 gt) := by rw [cell_row Y.out]; rfl
      go_wp2_with fail
      refine K2.out.mono ?_
      rintro en w4 ⟨rfl, rfl⟩
      have hb := below_alloc_ wV (.cells #[.int .i64 gl, .int .i64 gh] 3)
      obtain ⟨w4, hw4⟩ : ∃ v, wV.alloc (.cells #[.int .i64 gl, .int .i64 gh] 3) = v := ⟨_, rfl⟩
      rw [hw4] at hb ⊢
      clear hw4 K2
      clear zX0 zX1 zX2 zX3 zY0 zY1 zY2
      replace S := Lib.hid (S.out.below hb (Nat.le_refl _))
      replace X := Lib.hid ((hb.block _ (lt_of_block X.out)).trans X.out)
      replace Y := Lib.hid ((hb.block _ (lt_of_block Y.out)).trans Y.out)
      replace B := Lib.hid (B.out.trans (hb.mono B.out.size))
      replace Q := Lib.hid (Q.out.trans (hb.mono Q.out.size))
      clear hb
      have zX0 : w4.cell? ⟨R, 0, none⟩ = some (.int .i64 l.N) := by rw [cell_row X.out]; rfl
      have zX1 : w4.cell? ⟨R, 1, none⟩ = some (.slice (some ⟨bz, oz, none⟩) l.n l.cap) := by rw [cell_row X.out]; rfl
      have zX2 : w4.cell? ⟨R, 2, none⟩ = some (.slice l.LA l.ln l.lc) := by rw [cell_row X.out]; rfl
      have zX3 : w4.cell? ⟨R, 3, none⟩ = some (.slice l.RA l.rn l.rc) := by rw [cell_row X.out]; rfl
      have zY0 : w4.cell? ⟨P, 0, none⟩ = some (.int .i64 gl) := by rw [cell_row Y.out]; rfl
      have zY1 : w4.cell? ⟨P, 1, none⟩ = some (.int .i64 gh) := by rw [cell_row Y.out]; rfl
      have zY2 : w4.cell? ⟨P, 2, none⟩ = some (.int .i64 gt) := by rw [cell_row Y.out]; rfl
      rcases x1 with _ | _
      · go_wp2_with fail
        go_ret
        exact ⟨by rw [chk_2 HH.out (Hf.out (by unfold okN; rw [HX1.out]; rfl))] <;> rfl, B.out⟩
      by_cases he : gl = gh
      · have HE := Lib.hid he
        have d2 : (gl == gh) = true := by rw [beq_iff_eq]; exact he
        clear he
        go_wp2_with fail
        go_ret
        exact ⟨by rw [chk_2 HH.out (Hf.out (by unfold okN; rw [HX1.out, decide_eq_true HE.out]; rfl))] <;> rfl, B.out⟩
      have HE := Lib.hid he
      have d2 : (gl == gh) = false := by rw [beq_eq_false_iff_ne]; exact he
      clear he
      have hr2 := heap_alloc_new_ w4 (.cells #[.int .i64 gt] 2)
      have k2 := within46 (some ⟨w4.heap.size, 0, none⟩) 1 1 [gt] 1 1000000 _ (ints_one hr2) (by omega)
      rw [withI_one] at k2
      obtain ⟨x2, hx2⟩ : ∃ x1, inB 1 1000000 gt = x1 := ⟨_, rfl⟩
      rw [hx2] at k2
      have HX2 := Lib.hid hx2
      have K2 := Lib.hid k2
      clear k2 hr2 hx2
      go_wp2_with fail
      refine K2.out.mono ?_
      rintro en w5 ⟨rfl, rfl⟩
      have hb := below_alloc_ w4 (.cells #[.int .i64 gt] 2)
      obtain ⟨w5, hw5⟩ : ∃ v, w4.alloc (.cells #[.int .i64 gt] 2) = v := ⟨_, rfl⟩
      rw [hw5] at hb ⊢
      clear hw5 K2
      clear zX0 zX1 zX2 zX3 zY0 zY1 zY2
      skip
      replace S := Lib.hid (S.out.below hb (Nat.le_refl _))
      replace X := Lib.hid ((hb.block _ (lt_of_block X.out)).trans X.out)
      replace Y := Lib.hid ((hb.block _ (lt_of_block Y.out)).trans Y.out)
      replace B := Lib.hid (B.out.trans (hb.mono B.out.size))
      replace Q := Lib.hid (Q.out.trans (hb.mono Q.out.size))
      clear hb
      rcases x2 with _ | _
      · go_wp2_with fail
        go_ret
        exact ⟨by rw [chk_2 HH.out (Hf.out (by unfold okN; rw [HX1.out, HX2.out, decide_eq_false HE.out]; rfl))] <;> rfl, B.out⟩
      go_wp2_with fail
      go_roundw
      case rel => exact ⟨k + 1, by omega, by go_num, Lib.hid (by rw [Hs.out, Hw.out]; unfold okN; rw [HX1.out, HX2.out, decide_eq_false HE.out]; rfl), Q.out⟩
      case measure => simp [intOf]; omega
    · have hA := Lib.hid (show l.zs.all (okN l.N) = true by have := Hw.out; rwa [List.take_of_length_le (by rw [S.out.zs.1]; omega)] at this)
      obtain ⟨b2, hb2⟩ : ∃ v, (risI l.N l.ls && risI l.N l.rs) = v := ⟨_, rfl⟩
      have hr2 := heap_alloc_new_ wk (.cells #[.slice l.LA l.ln l.lc, .slice l.RA l.rn l.rc] 23)
      have hb := below_alloc_ wk (.cells #[.slice l.LA l.ln l.lc, .slice l.RA l.rn l.rc] 23)
      have k2 := rising47 (some ⟨wk.heap.size, 0, none⟩) 2 2 [l.ls, l.rs] l.N _ (rows_two hr2 (S.out.ls.below hb (Nat.le_refl _)) (S.out.rs.below hb (Nat.le_refl _)) S.out.lc S.out.rc S.out.l6 S.out.r6) (by omega)
      rw [show [l.ls, l.rs].all (risI l.N) = (risI l.N l.ls && risI l.N l.rs) by simp, hb2] at k2
      have K2 := Lib.hid k2
      have HB2 := Lib.hid hb2
      clear k2 hr2 hb2 hb
      have zX0 : wk.cell? ⟨R, 0, none⟩ = some (.int .i64 l.N) := by rw [cell_row X.out]; rfl
      have zX1 : wk.cell? ⟨R, 1, none⟩ = some (.slice l.A l.n l.cap) := by rw [cell_row X.out]; rfl
      have zX2 : wk.cell? ⟨R, 2, none⟩ = some (.slice l.LA l.ln l.lc) := by rw [cell_row X.out]; rfl
      have zX3 : wk.cell? ⟨R, 3, none⟩ = some (.slice l.RA l.rn l.rc) := by rw [cell_row X.out]; rfl
      go_wp2_with fail
      refine K2.out.mono ?_
      rintro en w8 ⟨rfl, rfl⟩
      have hb := below_alloc_ wk (.cells #[.slice l.LA l.ln l.lc, .slice l.RA l.rn l.rc] 23)
      obtain ⟨w5, hw5⟩ : ∃ v, wk.alloc (.cells #[.slice l.LA l.ln l.lc, .slice l.RA l.rn l.rc] 23) = v := ⟨_, rfl⟩
      rw [hw5] at hb ⊢
      clear hw5 K2
      clear zX0 zX1 zX2 zX3
      replace S := Lib.hid (S.out.below hb (Nat.le_refl _))
      replace X := Lib.hid ((hb.block _ (lt_of_block X.out)).trans X.out)
      replace B := Lib.hid (B.out.trans (hb.mono B.out.size))
      clear hb
      have zX0 : w5.cell? ⟨R, 0, none⟩ = some (.int .i64 l.N) := by rw [cell_row X.out]; rfl
      have zX1 : w5.cell? ⟨R, 1, none⟩ = some (.slice l.A l.n l.cap) := by rw [cell_row X.out]; rfl
      have zX2 : w5.cell? ⟨R, 2, none⟩ = some (.slice l.LA l.ln l.lc) := by rw [cell_row X.out]; rfl
      have zX3 : w5.cell? ⟨R, 3, none⟩ = some (.slice l.RA l.rn l.rc) := by rw [cell_row X.out]; rfl
      rcases b2 with _ | _
      · go_wp2_with fail
        go_ret
        exact ⟨by rw [chk_3 HH.out hA.out HB2.out] <;> rfl, B.out⟩
      obtain ⟨b3, hb3⟩ : ∃ v, l.ls.any (fun x => decide (x ∈ l.rs)) = v := ⟨_, rfl⟩
      have HB3 := Lib.hid hb3
      clear hb3
      go_wp2_with fail
      refine wp_region_held_drew (S := fun w2 => Below w5.heap.size w5 w2) (by kernel_rfl) (drew_b _ _) (fun hS0 => ?_)
      refine wpAnyH_take (i := 0) (oi := { dst := some 64, op := Go.Op.fieldAddr 25 (Go.Operand.tmp 1) 2, type := 0, pos := "name.go:29", after := #[], guard := none }) (v := .pointer (some ⟨R, 2, none⟩)) rfl (by kernel_rfl) (by kernel_rfl) (by kernel_rfl) (fun _ _ _ h => h) (Or.inl ⟨by rfl, by intro w2 hSw; (try dsimp only at hSw); have yX0 := (hSw.cell (lt_of_cell zX0)).trans zX0; have yX1 := (hSw.cell (lt_of_cell zX1)).trans zX1; have yX2 := (hSw.cell (lt_of_cell zX2)).trans zX2; have yX3 := (hSw.cell (lt_of_cell zX3)).trans zX3;  go_simp⟩) hS0 ?_
      try simp only [Act.put, List.setIfInBounds_toArray, List.set_cons_zero, List.set_cons_succ]
      refine wpAnyH_take (i := 1) (oi := { dst := some 65, op := Go.Op.load 23 (Go.Operand.tmp 64), type := 23, pos := "name.go:29", after := #[{ on := 0, ground := Go.Ground.data }], guard := none }) (v := .slice l.LA l.ln l.lc) rfl (by kernel_rfl) (by kernel_rfl) (by kernel_rfl) (fun _ _ _ h => h) (Or.inl ⟨by rfl, by intro w2 hSw; (try dsimp only at hSw); have yX0 := (hSw.cell (lt_of_cell zX0)).trans zX0; have yX1 := (hSw.cell (lt_of_cell zX1)).trans zX1; have yX2 := (hSw.cell (lt_of_cell zX2)).trans zX2; have yX3 := (hSw.cell (lt_of_cell zX3)).trans zX3;  go_simp⟩) hS0 ?_
      try simp only [Act.put, List.setIfInBounds_toArray, List.set_cons_zero, List.set_cons_succ]
      refine wpAnyH_take (i := 2) (oi := { dst := some 66, op := Go.Op.fieldAddr 25 (Go.Operand.tmp 1) 3, type := 0, pos := "name.go:29", after := #[], guard := none }) (v := .pointer (some ⟨R, 3, none⟩)) rfl (by kernel_rfl) (by kernel_rfl) (by kernel_rfl) (fun _ _ _ h => h) (Or.inl ⟨by rfl, by intro w2 hSw; (try dsimp only at hSw); have yX0 := (hSw.cell (lt_of_cell zX0)).trans zX0; have yX1 := (hSw.cell (lt_of_cell zX1)).trans zX1; have yX2 := (hSw.cell (lt_of_cell zX2)).trans zX2; have yX3 := (hSw.cell (lt_of_cell zX3)).trans zX3;  go_simp⟩) hS0 ?_
      try simp only [Act.put, List.setIfInBounds_toArray, List.set_cons_zero, List.set_cons_succ]
      refine wpAnyH_take (i := 3) (oi := { dst := some 67, op := Go.Op.load 23 (Go.Operand.tmp 66), type := 23, pos := "name.go:29", after := #[{ on := 2, ground := Go.Ground.data }], guard := none }) (v := .slice l.RA l.rn l.rc) rfl (by kernel_rfl) (by kernel_rfl) (by kernel_rfl) (fun _ _ _ h => h) (Or.inl ⟨by rfl, by intro w2 hSw; (try dsimp only at hSw); have yX0 := (hSw.cell (lt_of_cell zX0)).trans zX0; have yX1 := (hSw.cell (lt_of_cell zX1)).trans zX1; have yX2 := (hSw.cell (lt_of_cell zX2)).trans zX2; have yX3 := (hSw.cell (lt_of_cell zX3)).trans zX3;  go_simp⟩) hS0 ?_
      try simp only [Act.put, List.setIfInBounds_toArray, List.set_cons_zero, List.set_cons_succ]
      refine wpAnyH_ready (rs := [4]) (by kernel_rfl) (by simp) ?_
      refine AllReadyH.cons (o := { dst := some 68, op := Go.Op.call { callee := Go.Callee.value (Go.Operand.func 49), args := #[Go.Operand.tmp 67], argTypes := #[23] }, type := 73, pos := "name.go:29", after := #[{ on := 3, ground := Go.Ground.data }], guard := none }) rfl (fun K2 hK => ?_) AllReadyH.nil
      go_simp
      refine (in49 l.RA l.rn l.rc l.rs _ (S.out.below hS0 (Nat.le_refl _)).rs S.out.r6).mono ?_
      rintro e9 w5v1 ⟨fv, rfl, hT, hb9⟩
      have HT := Lib.hid (hT (fun _ => True))
      clear hT
      (try go_simp)
      refine hK.out _ _ (hS0.trans (hb9.mono hS0.size)) (fun hS1 => ?_)
      clear hK K2 hb9
      try simp only [Act.put, List.setIfInBounds_toArray, List.set_cons_zero, List.set_cons_succ]
      refine wpAnyH_ready (rs := [5]) (by kernel_rfl) (by simp) ?_
      refine AllReadyH.cons (o := { dst := some 69, op := Go.Op.call { callee := Go.Callee.value (Go.Operand.func 48), args := #[Go.Operand.tmp 65, Go.Operand.tmp 68], argTypes := #[23, 73] }, type := 4, pos := "name.go:29", after := #[{ on := 1, ground := Go.Ground.data }, { on := 4, ground := Go.Ground.data }, { on := 4, ground := Go.Ground.chain }], guard := none }) rfl (fun K2 hK => ?_) AllReadyH.nil
      go_simp
      refine (containsFunc48 l.LA l.ln l.lc l.ls fv _ w5v1 (S.out.below hS1 (Nat.le_refl _)).ls S.out.l6 HT.out).mono ?_
      rintro e9 w5v2 ⟨rfl, hb9⟩
      rw [HB3.out]
      (try go_simp)
      refine hK.out _ _ (hS1.trans (hb9.mono hS1.size)) (fun hS2 => ?_)
      clear hK K2 hb9
      try simp only [Act.put, List.setIfInBounds_toArray, List.set_cons_zero, List.set_cons_succ]
      refine wpAnyH_done (by kernel_rfl) ?_ _
      clear zX0 zX1 zX2 zX3
      have hb := hS2
      clear hS0 hS1 hS2
      replace S := Lib.hid (S.out.below hb (Nat.le_refl _))
      replace X := Lib.hid ((hb.block _ (lt_of_block X.out)).trans X.out)
      replace B := Lib.hid (B.out.trans (hb.mono B.out.size))
      clear hb
      rcases b3 with _ | _
      · go_wp2_with fail
        go_ret
        exact ⟨by rw [chk_0 HH.out hA.out HB2.out HB3.out] <;> rfl, B.out⟩
      · go_wp2_with fail
        go_ret
        exact ⟨by rw [chk_21 HH.out hA.out HB2.out HB3.out] <;> rfl, B.out⟩
end
end Go.Proofs.Ytigohccehllmnaa

namespace Go.Proofs.Ytigohccehllmnaa
set_option linter.unusedSimpArgs false
set_option linter.unusedVariables false
open Go.RowKit Go.Shelf
theorem risK_mono {c : Int} {zs : List Int} {k : Nat} : ∀ {n : Nat}, risK c zs n = true → k ≤ n → risK c zs k = true := fun {n} h hk => by
  unfold risK at h ⊢
  rw [List.all_eq_true] at h ⊢
  exact fun j hj => h j (List.mem_range.2 (by have := List.mem_range.1 hj; omega))
theorem ris_at {c : Int} {zs : List Int} {n : Nat} (h : risK c zs n = true) : ∀ j, j < n → -1 < iAt zs j ∧ iAt zs j < c ∧ (0 < j → iAt zs (j - 1) < iAt zs j)
  | 0, hj => by
    unfold risK at h
    rw [List.all_eq_true] at h
    have := h 0 (List.mem_range.2 hj)
    rw [Bool.and_eq_true, decide_eq_true_eq, decide_eq_true_eq] at this
    unfold prvI at this
    rw [if_pos rfl] at this
    exact ⟨this.1, this.2, fun h => by omega⟩
  | j + 1, hj => by
    have ih := ris_at h j (by omega)
    unfold risK at h
    rw [List.all_eq_true] at h
    have := h (j + 1) (List.mem_range.2 hj)
    rw [Bool.and_eq_true, decide_eq_true_eq, decide_eq_true_eq] at this
    unfold prvI at this
    rw [if_neg (by omega), Nat.add_sub_cancel] at this
    exact ⟨by omega, this.2, fun _ => this.1⟩
theorem ris_in {c : Int} {zs : List Int} (h : risI c zs = true) {n : Nat} (hn : zs.length = n) : ∀ j, j < n → 0 ≤ iAt zs j ∧ iAt zs j < c := fun j hj => by
  unfold risI at h
  rw [hn] at h
  have := ris_at h j hj
  omega
section
attribute [local go_sem ↓] exec_app at_app
attribute [local go_sem] Oper.semAt_some
theorem ris_prv {c : Int} {zs : List Int} {k : Nat} (h : risK c zs k = true) : -1 ≤ prvI zs k := by
  unfold prvI
  by_cases hk : k = 0
  · rw [if_pos hk]; omega
  · rw [if_neg hk]
    have := ris_at h (k - 1) (by omega)
    omega
set_option maxRecDepth 100000 in
set_option maxHeartbeats 4000000 in
theorem rising35 (A : Option Addr) (n cap : Nat) (zs : List Int) (c : Int) (w : World) (h : Ints w A n zs) (hn : n ≤ 1000000) :
    Calls Try.prog 35 #[.slice A n cap, .int .i64 c] w fun e w' => e = .returned (.bool (risI c zs)) ∧ Below w.heap.size w w' := by
  have HN := Lib.hid h.1
  have HI := Lib.hid h
  clear h
  go_enter Try.func35, Try.ntmps35
  go_wp2_with fail
  go_loopw [5] (fun i wr => ∃ k : Nat, k ≤ n ∧ i = .int .i64 (k : Int) ∧ Hid (risK c zs k = true ∧ Below w.heap.size w wr)) (fun i _ => n - (intOf i).toNat)
  case atStart => exact ⟨0, Nat.zero_le _, rfl, Lib.hid ⟨rfl, Below.refl _ _⟩⟩
  case round =>
    obtain ⟨k, hk, rfl, HW⟩ := hrel
    obtain ⟨wk, rfl⟩ : ∃ wk, wk = wr := ⟨_, rfl⟩
    have HB := Lib.hid HW.out.2
    have HF := Lib.hid (show ∀ q, Below w.heap.size w (wk.drewN q) from fun q => HB.out.trans ((drew_b wk q).mono HB.out.size))
    by_cases hlt : k < n
    · obtain ⟨b, o, rfl, hc2⟩ := (HI.out.below HB.out (Nat.le_refl _)).2 (by omega)
      have x0 := hc2 k hlt
      have Hs := Lib.hid (risK_succ c zs k)
      have Hf := Lib.hid (fun h => risK_stop (c := c) (zs := zs) (k := k) (n := n) h hlt)
      have Hv := Lib.hid (ris_prv HW.out.1)
      obtain ⟨x, hx⟩ : ∃ x, iAt zs k = x := ⟨_, rfl⟩
      rw [hx] at x0 Hs Hf
      have HX := Lib.hid hx
      have i0 : (0 : Int) ≤ (k : Int) := by omega
      have i1 : (k : Int) < (n : Int) := by omega
      have hcx : ∀ a, (wk.drewN a).cell? ⟨b, o + k, none⟩ = some (.int .i64 x) := fun a => x0
      clear hx
      by_cases t1 : x < 0
      · have d1 : decide (x < 0) = true := decide_eq_true t1
        clear hc2
        go_wp2_with fail
        go_quiet (fail)
        go_wp2_with fail
        go_ret
        exact ⟨ret_bool (by unfold risI; rw [HN.out]; exact (Hf.out (by rw [decide_eq_false (show ¬ prvI zs k < x by have := Hv.out; omega)]; rfl)).symm), HF.out _⟩
      · have d1 : decide (x < 0) = false := decide_eq_false t1
        by_cases t2 : c ≤ x
        · have d2 : decide (c ≤ x) = true := decide_eq_true t2
          clear hc2
          go_wp2_with fail
          go_quiet (fail)
          go_wp2_with fail
          go_ret
          exact ⟨ret_bool (by unfold risI; rw [HN.out]; exact (Hf.out (by rw [decide_eq_false (show ¬ x < c by omega), Bool.and_false])).symm), HF.out _⟩
        · have d2 : decide (c ≤ x) = false := decide_eq_false t2
          have HR := Lib.hid (show 0 ≤ x ∧ x < c by omega)
          by_cases hk0 : k = 0
          · have HK0 := Lib.hid hk0
            have d3 : decide ((0 : Int) < (k : Int)) = false := decide_eq_false (by omega)
            have d4 : ¬ (0 : Int) < (k : Int) := by omega
            have d5 : decide (0 < k) = false := decide_eq_false (by omega)
            have d6 : ¬ 0 < k := by omega
            clear hc2 hk0
            go_wp2_with fail
            go_quiet (fail)
            go_wp2_with fail
            go_roundw
            case rel => exact ⟨k + 1, by omega, by go_num, Lib.hid ⟨by rw [Hs.out, HW.out.1, show prvI zs k = -1 by unfold prvI; rw [if_pos HK0.out], decide_eq_true (show -1 < x by have := HR.out; omega), decide_eq_true HR.out.2]; rfl, HF.out _⟩⟩
            case measure => simp [intOf]; omega
          · obtain ⟨q, rfl⟩ : ∃ q, k = q + 1 := ⟨k - 1, by omega⟩
            have y0 := hc2 q (by omega)
            have Hp := Lib.hid (show prvI zs (q + 1) = iAt zs q by unfold prvI; rw [if_neg (by omega), Nat.add_sub_cancel])
            obtain ⟨y, hy⟩ : ∃ y, iAt zs q = y := ⟨_, rfl⟩
            rw [hy] at y0 Hp
            have hcy : ∀ a, (wk.drewN a).cell? ⟨b, o + q, none⟩ = some (.int .i64 y) := fun a => y0
            have i2 : (0 : Int) ≤ (q : Int) := by omega
            have i3 : (q : Int) < (n : Int) := by omega
            have i4 : (q : Int) + 1 < (n : Int) := by omega
            have i5 : (0 : Int) ≤ (q : Int) + 1 := by omega
            have i6 : (0 : Int) < (q : Int) + 1 := by omega
            have e1 : ((q : Int) + 1).toNat = q + 1 := by omega
            have e2 : ((q + 1 : Nat) : Int) = (q : Int) + 1 := by omega
            have w1 : IntKind.i64.wrap ((q : Int) + 1 - 1) = (q : Int) := by rw [IntKind.wrap_i64]; omega
            have w3 : IntKind.i64.wrap (q : Int) = (q : Int) := by rw [IntKind.wrap_i64]; omega
            clear hc2 hy
            by_cases t3 : x ≤ y
            · have d3 : decide (x ≤ y) = true := decide_eq_true t3
              go_wp2_with fail
              go_quiet (fail)
              go_wp2_with fail
              go_ret
              exact ⟨ret_bool (by unfold risI; rw [HN.out]; exact (Hf.out (by rw [Hp.out, decide_eq_false (show ¬ y < x by omega)]; rfl)).symm), HF.out _⟩
            · have d3 : decide (x ≤ y) = false := decide_eq_false t3
              have HXY := Lib.hid (show y < x by omega)
              go_wp2_with fail
              go_quiet (fail)
              go_wp2_with fail
              go_roundw
              case rel => exact ⟨q + 2, by omega, by go_num, Lib.hid ⟨by rw [show q + 2 = q + 1 + 1 from rfl, Hs.out, HW.out.1, Hp.out, decide_eq_true HXY.out, decide_eq_true HR.out.2]; rfl, HF.out _⟩⟩
              case measure => simp [intOf]; omega
    · go_wp2_with fail
      go_ret
      exact ⟨ret_bool (by unfold risI; rw [HN.out, ← HW.out.1]; congr 1; omega), HB.out⟩
section
attribute [local go_sem ↓] exec_app at_app
attribute [local go_sem] Oper.semAt_some
theorem below_eq {w w' : World} (h : w' = w) : Below w.heap.size w w' := by rw [h]; exact Below.refl _ _
theorem bad6 {l : NL} (h : l.N < 2 ∨ 40 < l.N ∨ 120 < (l.n : Int) ∨ (l.ln : Int) < 1 ∨ 10 < (l.ln : Int) ∨ (l.rn : Int) < 1 ∨ 10 < (l.rn : Int)) : chkL l = 6 := by
  refine chk_6 ?_
  rw [← Bool.not_eq_true]
  intro e
  simp only [Bool.and_eq_true, inB_iff, decide_eq_true_eq] at e
  omega
theorem good6 {l : NL} (h : ¬ l.N < 2 ∧ ¬ 40 < l.N ∧ ¬ 120 < (l.n : Int) ∧ ¬ (l.ln : Int) < 1 ∧ ¬ 10 < (l.ln : Int) ∧ ¬ (l.rn : Int) < 1 ∧ ¬ 10 < (l.rn : Int)) : (inB 2 40 l.N && decide (l.n ≤ 120) && (inB 1 10 l.ln && inB 1 10 l.rn)) = true := by
  simp only [Bool.and_eq_true, inB_iff, decide_eq_true_eq]
  omega
theorem okN_no {N : Int} {r : Nl} (h : r.one < 0 ∨ N ≤ r.one ∨ r.two < 0 ∨ N ≤ r.two ∨ r.one = r.two ∨ r.tr < 1 ∨ 1000000 < r.tr) : okN N r = false := by
  rw [← Bool.not_eq_true]
  intro e
  unfold okN at e
  simp only [Bool.and_eq_true, inB_iff, Bool.not_eq_true', decide_eq_false_iff_not] at e
  omega
theorem okN_yes {N : Int} {r : Nl} (h : ¬ r.one < 0 ∧ ¬ N ≤ r.one ∧ ¬ r.two < 0 ∧ ¬ N ≤ r.two ∧ ¬ r.one = r.two ∧ ¬ r.tr < 1 ∧ ¬ 1000000 < r.tr) : okN N r = true := by
  unfold okN
  simp only [Bool.and_eq_true, inB_iff, Bool.not_eq_true', decide_eq_false_iff_not]
  omega
theorem any_take' (p : Int → Bool) {zs : List Int} {k : Nat} (hk : k < zs.length) : (zs.take (k + 1)).any p = ((zs.take k).any p || p (iAt zs k)) := by
  rw [List.take_succ_eq_append_getElem hk, List.any_append, iAt_eq hk]; simp
set_option maxRecDepth 100000 in
set_option maxHeartbeats 16000000 in
theorem checkList18 (l : NL) (w : World) (h : NLs w l) :
    Calls Try.prog 18 #[.agg #[.int .i64 l.N, .slice l.A l.n l.cap, .slice l.LA l.ln l.lc, .slice l.RA l.rn l.rc]] w fun e w' => e = .returned (.int .i64 (chkL l)) ∧ Below w.heap.size w w' := by
  have hn6 := h.n6
  have hl6 := h.l6
  have hr6 := h.r6
  obtain ⟨R, hR⟩ : ∃ v, w.heap.size = v := ⟨_, rfl⟩
  have hb0 := below_alloc_ w (.cells #[.int .i64 l.N, .slice l.A l.n l.cap, .slice l.LA l.ln l.lc, .slice l.RA l.rn l.rc] 25)
  have hr0 := heap_alloc_new_ w (.cells #[.int .i64 l.N, .slice l.A l.n l.cap, .slice l.LA l.ln l.lc, .slice l.RA l.rn l.rc] 25)
  have hz0 : (w.alloc (.cells #[.int .i64 l.N, .slice l.A l.n l.cap, .slice l.LA l.ln l.lc, .slice l.RA l.rn l.rc] 25)).heap.size = w.heap.size + 1 := by simp
  obtain ⟨w0, hw0⟩ : ∃ v, w.alloc (.cells #[.int .i64 l.N, .slice l.A l.n l.cap, .slice l.LA l.ln l.lc, .slice l.RA l.rn l.rc] 25) = v := ⟨_, rfl⟩
  rw [hw0] at hb0 hr0 hz0
  rw [hR] at hr0 hz0
  have hB := hb0
  have S := Lib.hid (h.below hB (Nat.le_refl _))
  have X := Lib.hid hr0
  have HW0 := Lib.hid hw0
  have B := Lib.hid hB
  have HR := Lib.hid hR
  clear hB hR hb0 hr0 hz0 hw0 h
  have ltX : R < w0.heap.size := lt_of_block X.out
  have zX0 : w0.cell? ⟨R, 0, none⟩ = some (.int .i64 l.N) := by rw [cell_row X.out]; rfl
  have zX1 : w0.cell? ⟨R, 1, none⟩ = some (.slice l.A l.n l.cap) := by rw [cell_row X.out]; rfl
  have zX2 : w0.cell? ⟨R, 2, none⟩ = some (.slice l.LA l.ln l.lc) := by rw [cell_row X.out]; rfl
  have zX3 : w0.cell? ⟨R, 3, none⟩ = some (.slice l.RA l.rn l.rc) := by rw [cell_row X.out]; rfl
  by_cases D1 : l.N < 2
  · have dD1 : decide (l.N < 2) = true := decide_eq_true D1
    have HE := Lib.hid D1
    go_enter Try.func18, Try.ntmps18
    go_wp2_with fail
    try rw [HW0.out]
    try rw [HR.out]
    try simp only [Nat.add_assoc, Nat.reduceAdd]
    try go_wp2_with fail
    go_ret
    exact ⟨by rw [bad6 (by have := HE.out; omega)] <;> rfl, by first | exact B.out | (rw [← HR.out]; exact B.out)⟩
  have dD1 : decide (l.N < 2) = false := decide_eq_false D1
  by_cases D2 : 40 < l.N
  · have dD2 : decide (40 < l.N) = true := decide_eq_true D2
    have HE := Lib.hid D2
    go_enter Try.func18, Try.ntmps18
    go_wp2_with fail
    try rw [HW0.out]
    try rw [HR.out]
    try simp only [Nat.add_assoc, Nat.reduceAdd]
    try go_wp2_with fail
    go_ret
    exact ⟨by rw [bad6 (by have := HE.out; omega)] <;> rfl, by first | exact B.out | (rw [← HR.out]; exact B.out)⟩
  have dD2 : decide (40 < l.N) = false := decide_eq_false D2
  by_cases D3 : (120 : Int) < (l.n : Int)
  · have dD3 : decide ((120 : Int) < (l.n : Int)) = true := decide_eq_true D3
    have HE := Lib.hid D3
    go_enter Try.func18, Try.ntmps18
    go_wp2_with fail
    try rw [HW0.out]
    try rw [HR.out]
    try simp only [Nat.add_assoc, Nat.reduceAdd]
    try go_wp2_with fail
    go_ret
    exact ⟨by rw [bad6 (by have := HE.out; omega)] <;> rfl, by first | exact B.out | (rw [← HR.out]; exact B.out)⟩
  have dD3 : decide ((120 : Int) < (l.n : Int)) = false := decide_eq_false D3
  by_cases D4 : (l.ln : Int) < 1
  · have dD4 : decide ((l.ln : Int) < 1) = true := decide_eq_true D4
    have HE := Lib.hid D4
    go_enter Try.func18, Try.ntmps18
    go_wp2_with fail
    try rw [HW0.out]
    try rw [HR.out]
    try simp only [Nat.add_assoc, Nat.reduceAdd]
    try go_wp2_with fail
    go_ret
    exact ⟨by rw [bad6 (by have := HE.out; omega)] <;> rfl, by first | exact B.out | (rw [← HR.out]; exact B.out)⟩
  have dD4 : decide ((l.ln : Int) < 1) = false := decide_eq_false D4
  by_cases D5 : (10 : Int) < (l.ln : Int)
  · have dD5 : decide ((10 : Int) < (l.ln : Int)) = true := decide_eq_true D5
    have HE := Lib.hid D5
    go_enter Try.func18, Try.ntmps18
    go_wp2_with fail
    try rw [HW0.out]
    try rw [HR.out]
    try simp only [Nat.add_assoc, Nat.reduceAdd]
    try go_wp2_with fail
    go_ret
    exact ⟨by rw [bad6 (by have := HE.out; omega)] <;> rfl, by first | exact B.out | (rw [← HR.out]; exact B.out)⟩
  have dD5 : decide ((10 : Int) < (l.ln : Int)) = false := decide_eq_false D5
  by_cases D6 : (l.rn : Int) < 1
  · have dD6 : decide ((l.rn : Int) < 1) = true := decide_eq_true D6
    have HE := Lib.hid D6
    go_enter Try.func18, Try.ntmps18
    go_wp2_with fail
    try rw [HW0.out]
    try rw [HR.out]
    try simp only [Nat.add_assoc, Nat.reduceAdd]
    try go_wp2_with fail
    go_ret
    exact ⟨by rw [bad6 (by have := HE.out; omega)] <;> rfl, by first | exact B.out | (rw [← HR.out]; exact B.out)⟩
  have dD6 : decide ((l.rn : Int) < 1) = false := decide_eq_false D6
  by_cases D7 : (10 : Int) < (l.rn : Int)
  · have dD7 : decide ((10 : Int) < (l.rn : Int)) = true := decide_eq_true D7
    have HE := Lib.hid D7
    go_enter Try.func18, Try.ntmps18
    go_wp2_with fail
    try rw [HW0.out]
    try rw [HR.out]
    try simp only [Nat.add_assoc, Nat.reduceAdd]
    try go_wp2_with fail
    go_ret
    exact ⟨by rw [bad6 (by have := HE.out; omega)] <;> rfl, by first | exact B.out | (rw [← HR.out]; exact B.out)⟩
  have dD7 : decide ((10 : Int) < (l.rn : Int)) = false := decide_eq_false D7
  have HH := Lib.hid (good6 ⟨D1, D2, D3, D4, D5, D6, D7⟩)
  have hN2 : 2 ≤ l.N ∧ l.N ≤ 40 := by omega
  go_enter Try.func18, Try.ntmps18
  go_wp2_with fail
  try rw [HW0.out]
  try rw [HR.out]
  try simp only [Nat.add_assoc, Nat.reduceAdd]
  try go_wp2_with fail
  clear dD1 dD2 dD3 dD4 dD5 dD6 dD7 D1 D2 D3 D4 D5 D6 D7
  clear zX0 zX1 zX2 zX3 ltX
  go_loopw [3, 4] (fun i p wr => ∃ k : Nat, k ≤ l.n ∧ i = .int .i64 (k : Int) ∧ Hid ((l.zs.take k).all (okN l.N) = true) ∧ Hid (Below w0.heap.size w0 wr)) (fun i p _ => l.n - (intOf i).toNat)
  case atStart => exact ⟨0, Nat.zero_le _, rfl, Lib.hid rfl, Lib.hid (Below.refl _ _)⟩
  case round =>
    obtain ⟨k, hk9, rfl, Hw, HBl⟩ := hrel
    obtain ⟨wk, rfl⟩ : ∃ wk, wk = wr := ⟨_, rfl⟩
    have hb := HBl.out
    have Q := HBl
    replace S := Lib.hid (S.out.below hb (Nat.le_refl _))
    replace X := Lib.hid ((hb.block _ (lt_of_block X.out)).trans X.out)
    replace B := Lib.hid (B.out.trans (hb.mono B.out.size))
    clear hb
    by_cases hlt : k < l.n
    · obtain ⟨bz, oz, hA, hcz⟩ := S.out.zs.2 (by omega)
      obtain ⟨z0, z1, z2⟩ := hcz k hlt
      have Hs := Lib.hid (okN_take (N := l.N) (zs := l.zs) (k := k) (by rw [S.out.zs.1]; exact hlt))
      have Hf := Lib.hid (okN_stop (N := l.N) (zs := l.zs) (k := k) (by rw [S.out.zs.1]; exact hlt))
      obtain ⟨g, hg⟩ : ∃ g, lAt l.zs k = g := ⟨_, rfl⟩
      rw [hg] at z0 z1 z2 Hs Hf
      obtain ⟨gl, gh, gt⟩ := g
      simp only at z0 z1 z2
      have i0 : (0 : Int) ≤ (k : Int) := by omega
      have i1 : (k : Int) < (l.n : Int) := by omega
      clear hcz hg
      rw [hA] at X
      have ltX : R < wk.heap.size := lt_of_block X.out
      have zX0 : wk.cell? ⟨R, 0, none⟩ = some (.int .i64 l.N) := by rw [cell_row X.out]; rfl
      have zX1 : wk.cell? ⟨R, 1, none⟩ = some (.slice (some ⟨bz, oz, none⟩) l.n l.cap) := by rw [cell_row X.out]; rfl
      have zX2 : wk.cell? ⟨R, 2, none⟩ = some (.slice l.LA l.ln l.lc) := by rw [cell_row X.out]; rfl
      have zX3 : wk.cell? ⟨R, 3, none⟩ = some (.slice l.RA l.rn l.rc) := by rw [cell_row X.out]; rfl
      have hb := below_alloc_ wk (.cells #[.int .i64 gl, .int .i64 gh, .int .i64 gt] 60)
      have HB1 := Lib.hid (B.out.trans (hb.mono B.out.size))
      have Q1 := Lib.hid (Q.out.trans (hb.mono Q.out.size))
      clear hb
      by_cases C1 : gl < 0
      · have dC1 : decide (gl < 0) = true := decide_eq_true C1
        have HC := Lib.hid C1
        clear C1
        go_wp2_with fail
        go_ret
        exact ⟨by rw [chk_2 HH.out (Hf.out (okN_no (by have := HC.out; simp only; omega)))] <;> rfl, HB1.out⟩
      have dC1 : decide (gl < 0) = false := decide_eq_false C1
      by_cases C2 : l.N ≤ gl
      · have dC2 : decide (l.N ≤ gl) = true := decide_eq_true C2
        have HC := Lib.hid C2
        clear C2
        go_wp2_with fail
        go_ret
        exact ⟨by rw [chk_2 HH.out (Hf.out (okN_no (by have := HC.out; simp only; omega)))] <;> rfl, HB1.out⟩
      have dC2 : decide (l.N ≤ gl) = false := decide_eq_false C2
      by_cases C3 : gh < 0
      · have dC3 : decide (gh < 0) = true := decide_eq_true C3
        have HC := Lib.hid C3
        clear C3
        go_wp2_with fail
        go_ret
        exact ⟨by rw [chk_2 HH.out (Hf.out (okN_no (by have := HC.out; simp only; omega)))] <;> rfl, HB1.out⟩
      have dC3 : decide (gh < 0) = false := decide_eq_false C3
      by_cases C4 : l.N ≤ gh
      · have dC4 : decide (l.N ≤ gh) = true := decide_eq_true C4
        have HC := Lib.hid C4
        clear C4
        go_wp2_with fail
        go_ret
        exact ⟨by rw [chk_2 HH.out (Hf.out (okN_no (by have := HC.out; simp only; omega)))] <;> rfl, HB1.out⟩
      have dC4 : decide (l.N ≤ gh) = false := decide_eq_false C4
      by_cases C5 : gl = gh
      · have dC5 : (gl == gh) = true := by rw [beq_iff_eq]; exact C5
        have HC := Lib.hid C5
        clear C5
        go_wp2_with fail
        go_ret
        exact ⟨by rw [chk_2 HH.out (Hf.out (okN_no (by have := HC.out; simp only; omega)))] <;> rfl, HB1.out⟩
      have dC5 : (gl == gh) = false := by rw [beq_eq_false_iff_ne]; exact C5
      by_cases C6 : gt < 1
      · have dC6 : decide (gt < 1) = true := decide_eq_true C6
        have HC := Lib.hid C6
        clear C6
        go_wp2_with fail
        go_ret
        exact ⟨by rw [chk_2 HH.out (Hf.out (okN_no (by have := HC.out; simp only; omega)))] <;> rfl, HB1.out⟩
      have dC6 : decide (gt < 1) = false := decide_eq_false C6
      by_cases C7 : 1000000 < gt
      · have dC7 : decide (1000000 < gt) = true := decide_eq_true C7
        have HC := Lib.hid C7
        clear C7
        go_wp2_with fail
        go_ret
        exact ⟨by rw [chk_2 HH.out (Hf.out (okN_no (by have := HC.out; simp only; omega)))] <;> rfl, HB1.out⟩
      have dC7 : decide (1000000 < gt) = false := decide_eq_false C7
      have HY := Lib.hid (okN_yes (N := l.N) (r := ⟨gl, gh, gt⟩) ⟨C1, C2, C3, C4, C5, C6, C7⟩)
      clear C5
      go_wp2_with fail
      go_roundw
      case rel => exact ⟨k + 1, by omega, by go_num, Lib.hid (by rw [Hs.out, Hw.out, HY.out]; rfl), Q1.out⟩
      case measure => simp [intOf]; omega
    · have hA := Lib.hid (show l.zs.all (okN l.N) = true by have := Hw.out; rwa [List.take_of_length_le (by rw [S.out.zs.1]; omega)] at this)
      obtain ⟨b2, hb2⟩ : ∃ v, risI l.N l.ls = v := ⟨_, rfl⟩
      obtain ⟨b3, hb3⟩ : ∃ v, risI l.N l.rs = v := ⟨_, rfl⟩
      have HB2 := Lib.hid hb2
      have HB3 := Lib.hid hb3
      clear hb2 hb3
      have ltX : R < wk.heap.size := lt_of_block X.out
      have zX0 : wk.cell? ⟨R, 0, none⟩ = some (.int .i64 l.N) := by rw [cell_row X.out]; rfl
      have zX1 : wk.cell? ⟨R, 1, none⟩ = some (.slice l.A l.n l.cap) := by rw [cell_row X.out]; rfl
      have zX2 : wk.cell? ⟨R, 2, none⟩ = some (.slice l.LA l.ln l.lc) := by rw [cell_row X.out]; rfl
      have zX3 : wk.cell? ⟨R, 3, none⟩ = some (.slice l.RA l.rn l.rc) := by rw [cell_row X.out]; rfl
      go_wp2_with fail
      clear zX0 zX1 zX2 zX3 ltX
      refine (rising35 l.LA l.ln l.lc l.ls l.N wk S.out.ls S.out.l6).mono ?_
      rintro en wk1 ⟨rfl, hb⟩
      replace S := Lib.hid (S.out.below hb (Nat.le_refl _))
      replace X := Lib.hid ((hb.block _ (lt_of_block X.out)).trans X.out)
      replace B := Lib.hid (B.out.trans (hb.mono B.out.size))
      rw [HB2.out]
      try clear hb
      skip
      have ltX : R < wk1.heap.size := lt_of_block X.out
      have zX0 : wk1.cell? ⟨R, 0, none⟩ = some (.int .i64 l.N) := by rw [cell_row X.out]; rfl
      have zX1 : wk1.cell? ⟨R, 1, none⟩ = some (.slice l.A l.n l.cap) := by rw [cell_row X.out]; rfl
      have zX2 : wk1.cell? ⟨R, 2, none⟩ = some (.slice l.LA l.ln l.lc) := by rw [cell_row X.out]; rfl
      have zX3 : wk1.cell? ⟨R, 3, none⟩ = some (.slice l.RA l.rn l.rc) := by rw [cell_row X.out]; rfl
      rcases b2 with _ | _
      · go_wp2_with fail
        go_ret
        exact ⟨by rw [chk_3 HH.out hA.out (by rw [HB2.out]; rfl)] <;> rfl, B.out⟩
      go_wp2_with fail
      clear zX0 zX1 zX2 zX3 ltX
      refine (rising35 l.RA l.rn l.rc l.rs l.N wk1 S.out.rs S.out.r6).mono ?_
      rintro en wk2 ⟨rfl, hb⟩
      replace S := Lib.hid (S.out.below hb (Nat.le_refl _))
      replace X := Lib.hid ((hb.block _ (lt_of_block X.out)).trans X.out)
      replace B := Lib.hid (B.out.trans (hb.mono B.out.size))
      rw [HB3.out]
      try clear hb
      have ltX : R < wk2.heap.size := lt_of_block X.out
      have zX0 : wk2.cell? ⟨R, 0, none⟩ = some (.int .i64 l.N) := by rw [cell_row X.out]; rfl
      have zX1 : wk2.cell? ⟨R, 1, none⟩ = some (.slice l.A l.n l.cap) := by rw [cell_row X.out]; rfl
      have zX2 : wk2.cell? ⟨R, 2, none⟩ = some (.slice l.LA l.ln l.lc) := by rw [cell_row X.out]; rfl
      have zX3 : wk2.cell? ⟨R, 3, none⟩ = some (.slice l.RA l.rn l.rc) := by rw [cell_row X.out]; rfl
      rcases b3 with _ | _
      · go_wp2_with fail
        go_ret
        exact ⟨by rw [chk_3 HH.out hA.out (by rw [HB2.out, HB3.out]; rfl)] <;> rfl, B.out⟩
      go_wp2_with fail
      clear zX0 zX1 zX2 zX3 ltX
      go_loopw [5] (fun i wr => ∃ q : Nat, q ≤ l.ln ∧ i = .int .i64 (q : Int) ∧ Hid ((l.ls.take q).any (fun x => decide (x ∈ l.rs)) = false) ∧ Hid (Below wk2.heap.size wk2 wr)) (fun i _ => l.ln - (intOf i).toNat)
      case atStart => exact ⟨0, Nat.zero_le _, rfl, Lib.hid rfl, Lib.hid (Below.refl _ _)⟩
      case round =>
        obtain ⟨q, hq9, rfl, Hv, HBm⟩ := hrel
        obtain ⟨wq, rfl⟩ : ∃ wk, wk = wr := ⟨_, rfl⟩
        have hb := HBm.out
        have Q := HBm
        replace S := Lib.hid (S.out.below hb (Nat.le_refl _))
        replace X := Lib.hid ((hb.block _ (lt_of_block X.out)).trans X.out)
        replace B := Lib.hid (B.out.trans (hb.mono B.out.size))
        clear hb
        by_cases hlt2 : q < l.ln
        · obtain ⟨bz, oz, hA2, hcz⟩ := S.out.ls.2 (by omega)
          have z0 := hcz q hlt2
          have Hs := Lib.hid (any_take' (fun x => decide (x ∈ l.rs)) (zs := l.ls) (k := q) (by rw [S.out.ls.1]; exact hlt2))
          have Hm := Lib.hid (show iAt l.ls q ∈ l.rs → l.ls.any (fun x => decide (x ∈ l.rs)) = true from fun e => List.any_eq_true.2 ⟨iAt l.ls q, by rw [iAt_eq (by rw [S.out.ls.1]; exact hlt2)]; exact List.getElem_mem _, decide_eq_true e⟩)
          obtain ⟨g, hg⟩ : ∃ g, iAt l.ls q = g := ⟨_, rfl⟩
          rw [hg] at z0 Hs Hm
          have i0 : (0 : Int) ≤ (q : Int) := by omega
          have i1 : (q : Int) < (l.ln : Int) := by omega
          clear hcz hg
          rw [hA2] at X
          clear hA2
          obtain ⟨b4, hb4⟩ : ∃ v, decide (g ∈ l.rs) = v := ⟨_, rfl⟩
          have HB4 := Lib.hid hb4
          clear hb4
          have ltX : R < wq.heap.size := lt_of_block X.out
          have zX0 : wq.cell? ⟨R, 0, none⟩ = some (.int .i64 l.N) := by rw [cell_row X.out]; rfl
          have zX1 : wq.cell? ⟨R, 1, none⟩ = some (.slice l.A l.n l.cap) := by rw [cell_row X.out]; rfl
          have zX2 : wq.cell? ⟨R, 2, none⟩ = some (.slice (some ⟨bz, oz, none⟩) l.ln l.lc) := by rw [cell_row X.out]; rfl
          have zX3 : wq.cell? ⟨R, 3, none⟩ = some (.slice l.RA l.rn l.rc) := by rw [cell_row X.out]; rfl
          go_wp2_with fail
          refine wp_region_held_drew (S := fun w2 => Below wq.heap.size wq w2) (by kernel_rfl) (drew_b _ _) (fun hS0 => ?_)
          refine wpAnyH_take (i := 0) (oi := { dst := some 116, op := Go.Op.fieldAddr 25 (Go.Operand.tmp 1) 3, type := 0, pos := "ref.go:41", after := #[], guard := none }) (v := .pointer (some ⟨R, 3, none⟩)) rfl (by kernel_rfl) (by kernel_rfl) (by kernel_rfl) (fun _ _ _ h => h) (Or.inl ⟨by rfl, by intro w2 hSw; (try dsimp only at hSw); have yX0 := (hSw.cell (lt_of_cell zX0)).trans zX0; have yX1 := (hSw.cell (lt_of_cell zX1)).trans zX1; have yX2 := (hSw.cell (lt_of_cell zX2)).trans zX2; have yX3 := (hSw.cell (lt_of_cell zX3)).trans zX3; have yy := (hSw.cell (lt_of_cell z0)).trans z0; go_simp⟩) hS0 ?_
          try simp only [Act.put, List.setIfInBounds_toArray, List.set_cons_zero, List.set_cons_succ]
          refine wpAnyH_take (i := 1) (oi := { dst := some 117, op := Go.Op.load 23 (Go.Operand.tmp 116), type := 23, pos := "ref.go:41", after := #[{ on := 0, ground := Go.Ground.data }], guard := none }) (v := .slice l.RA l.rn l.rc) rfl (by kernel_rfl) (by kernel_rfl) (by kernel_rfl) (fun _ _ _ h => h) (Or.inl ⟨by rfl, by intro w2 hSw; (try dsimp only at hSw); have yX0 := (hSw.cell (lt_of_cell zX0)).trans zX0; have yX1 := (hSw.cell (lt_of_cell zX1)).trans zX1; have yX2 := (hSw.cell (lt_of_cell zX2)).trans zX2; have yX3 := (hSw.cell (lt_of_cell zX3)).trans zX3; have yy := (hSw.cell (lt_of_cell z0)).trans z0; go_simp⟩) hS0 ?_
          try simp only [Act.put, List.setIfInBounds_toArray, List.set_cons_zero, List.set_cons_succ]
          refine wpAnyH_take (i := 2) (oi := { dst := some 118, op := Go.Op.fieldAddr 25 (Go.Operand.tmp 1) 2, type := 0, pos := "ref.go:41", after := #[], guard := none }) (v := .pointer (some ⟨R, 2, none⟩)) rfl (by kernel_rfl) (by kernel_rfl) (by kernel_rfl) (fun _ _ _ h => h) (Or.inl ⟨by rfl, by intro w2 hSw; (try dsimp only at hSw); have yX0 := (hSw.cell (lt_of_cell zX0)).trans zX0; have yX1 := (hSw.cell (lt_of_cell zX1)).trans zX1; have yX2 := (hSw.cell (lt_of_cell zX2)).trans zX2; have yX3 := (hSw.cell (lt_of_cell zX3)).trans zX3; have yy := (hSw.cell (lt_of_cell z0)).trans z0; go_simp⟩) hS0 ?_
          try simp only [Act.put, List.setIfInBounds_toArray, List.set_cons_zero, List.set_cons_succ]
          refine wpAnyH_take (i := 3) (oi := { dst := some 119, op := Go.Op.load 23 (Go.Operand.tmp 118), type := 23, pos := "ref.go:41", after := #[{ on := 2, ground := Go.Ground.data }], guard := none }) (v := .slice (some ⟨bz, oz, none⟩) l.ln l.lc) rfl (by kernel_rfl) (by kernel_rfl) (by kernel_rfl) (fun _ _ _ h => h) (Or.inl ⟨by rfl, by intro w2 hSw; (try dsimp only at hSw); have yX0 := (hSw.cell (lt_of_cell zX0)).trans zX0; have yX1 := (hSw.cell (lt_of_cell zX1)).trans zX1; have yX2 := (hSw.cell (lt_of_cell zX2)).trans zX2; have yX3 := (hSw.cell (lt_of_cell zX3)).trans zX3; have yy := (hSw.cell (lt_of_cell z0)).trans z0; go_simp⟩) hS0 ?_
          try simp only [Act.put, List.setIfInBounds_toArray, List.set_cons_zero, List.set_cons_succ]
          refine wpAnyH_take (i := 4) (oi := { dst := some 120, op := Go.Op.move (Go.Operand.tmp 5), type := 3, pos := "ref.go:41", after := #[], guard := none }) (v := .int .i64 (q : Int)) rfl (by kernel_rfl) (by kernel_rfl) (by kernel_rfl) (fun _ _ _ h => h) (Or.inl ⟨by rfl, by intro w2 hSw; (try dsimp only at hSw); have yX0 := (hSw.cell (lt_of_cell zX0)).trans zX0; have yX1 := (hSw.cell (lt_of_cell zX1)).trans zX1; have yX2 := (hSw.cell (lt_of_cell zX2)).trans zX2; have yX3 := (hSw.cell (lt_of_cell zX3)).trans zX3; have yy := (hSw.cell (lt_of_cell z0)).trans z0; go_simp⟩) hS0 ?_
          try simp only [Act.put, List.setIfInBounds_toArray, List.set_cons_zero, List.set_cons_succ]
          refine wpAnyH_take (i := 5) (oi := { dst := some 121, op := Go.Op.indexAddr 23 (Go.Operand.tmp 119) (Go.Operand.tmp 120), type := 0, pos := "ref.go:41", after := #[{ on := 3, ground := Go.Ground.data }, { on := 4, ground := Go.Ground.data }], guard := none }) (v := .pointer (some ⟨bz, oz + q, none⟩)) rfl (by kernel_rfl) (by kernel_rfl) (by kernel_rfl) (fun _ _ _ h => h) (Or.inl ⟨by rfl, by intro w2 hSw; (try dsimp only at hSw); have yX0 := (hSw.cell (lt_of_cell zX0)).trans zX0; have yX1 := (hSw.cell (lt_of_cell zX1)).trans zX1; have yX2 := (hSw.cell (lt_of_cell zX2)).trans zX2; have yX3 := (hSw.cell (lt_of_cell zX3)).trans zX3; have yy := (hSw.cell (lt_of_cell z0)).trans z0; go_simp⟩) hS0 ?_
          try simp only [Act.put, List.setIfInBounds_toArray, List.set_cons_zero, List.set_cons_succ]
          refine wpAnyH_take (i := 6) (oi := { dst := some 122, op := Go.Op.load 3 (Go.Operand.tmp 121), type := 3, pos := "ref.go:41", after := #[{ on := 5, ground := Go.Ground.data }], guard := none }) (v := .int .i64 g) rfl (by kernel_rfl) (by kernel_rfl) (by kernel_rfl) (fun _ _ _ h => h) (Or.inl ⟨by rfl, by intro w2 hSw; (try dsimp only at hSw); have yX0 := (hSw.cell (lt_of_cell zX0)).trans zX0; have yX1 := (hSw.cell (lt_of_cell zX1)).trans zX1; have yX2 := (hSw.cell (lt_of_cell zX2)).trans zX2; have yX3 := (hSw.cell (lt_of_cell zX3)).trans zX3; have yy := (hSw.cell (lt_of_cell z0)).trans z0; go_simp⟩) hS0 ?_
          try simp only [Act.put, List.setIfInBounds_toArray, List.set_cons_zero, List.set_cons_succ]
          refine wpAnyH_ready (rs := [7]) (by kernel_rfl) (by simp) ?_
          refine AllReadyH.cons (o := { dst := some 123, op := Go.Op.call { callee := Go.Callee.value (Go.Operand.func 38), args := #[Go.Operand.tmp 117, Go.Operand.tmp 122], argTypes := #[23, 3] }, type := 4, pos := "ref.go:41", after := #[{ on := 1, ground := Go.Ground.data }, { on := 6, ground := Go.Ground.data }], guard := none }) rfl (fun K2 hK => ?_) AllReadyH.nil
          go_simp
          refine (in38 l.RA l.rn l.rc l.rs g _ (S.out.below hS0 (Nat.le_refl _)).rs S.out.r6).mono ?_
          rintro e9 wqv1 ⟨rfl, hb9⟩
          replace hb9 := below_eq hb9
          rw [HB4.out]
          (try go_simp)
          refine hK.out _ _ (hS0.trans (hb9.mono hS0.size)) (fun hS1 => ?_)
          clear hK K2 hb9
          try simp only [Act.put, List.setIfInBounds_toArray, List.set_cons_zero, List.set_cons_succ]
          refine wpAnyH_done (by kernel_rfl) ?_ _
          clear zX0 zX1 zX2 zX3 ltX
          have hb := hS1
          clear hS0 hS1
          replace S := Lib.hid (S.out.below hb (Nat.le_refl _))
          replace X := Lib.hid ((hb.block _ (lt_of_block X.out)).trans X.out)
          replace B := Lib.hid (B.out.trans (hb.mono B.out.size))
          replace Q := Lib.hid (Q.out.trans (hb.mono Q.out.size))
          clear hb
          rcases b4 with _ | _
          · go_wp2_with fail
            go_roundw
            case rel => exact ⟨q + 1, by omega, by go_num, Lib.hid (by rw [Hs.out, Hv.out, HB4.out]; rfl), Q.out⟩
            case measure => simp [intOf]; omega
          · go_wp2_with fail
            go_ret
            exact ⟨by rw [chk_21 HH.out hA.out (by rw [HB2.out, HB3.out]; rfl) (Hm.out (of_decide_eq_true HB4.out))] <;> rfl, B.out⟩
        · have hY := Lib.hid (show l.ls.any (fun x => decide (x ∈ l.rs)) = false by have := Hv.out; rwa [List.take_of_length_le (by rw [S.out.ls.1]; omega)] at this)
          have ltX : R < wq.heap.size := lt_of_block X.out
          have zX0 : wq.cell? ⟨R, 0, none⟩ = some (.int .i64 l.N) := by rw [cell_row X.out]; rfl
          have zX1 : wq.cell? ⟨R, 1, none⟩ = some (.slice l.A l.n l.cap) := by rw [cell_row X.out]; rfl
          have zX2 : wq.cell? ⟨R, 2, none⟩ = some (.slice l.LA l.ln l.lc) := by rw [cell_row X.out]; rfl
          have zX3 : wq.cell? ⟨R, 3, none⟩ = some (.slice l.RA l.rn l.rc) := by rw [cell_row X.out]; rfl
          go_wp2_with fail
          go_ret
          exact ⟨by rw [chk_0 HH.out hA.out (by rw [HB2.out, HB3.out]; rfl) hY.out] <;> rfl, B.out⟩
end
end
end Go.Proofs.Ytigohccehllmnaa
