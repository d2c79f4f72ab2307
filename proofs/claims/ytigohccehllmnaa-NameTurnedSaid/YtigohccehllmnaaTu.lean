/- Stage 6: lists that are turned: mathematics; a list of links that grows. -/
import Derived.Test.YtigohccehllmnaaLf
import Derived.Test.YtigohccehllmnaaLw
namespace Go.Proofs.Ytigohccehllmnaa
set_option linter.unusedSimpArgs false
set_option linter.unusedVariables false
open Go.RowKit Go.Shelf

theorem flatN_snoc (l : List Nl) (r : Nl) : flatN (l ++ [r]) = flatN l ++ [.int .i64 r.one, .int .i64 r.two, .int .i64 r.tr] := by simp [flatN, cellN]
/-- One link more. -/
theorem app_nl {W : World} {v : Value} {n : Nat} {xs : List Nl} (h : W.ownsRow 0 60 3 v n (flatN xs)) (r : Nl) (hn : n ≤ 100000) :
    ∃ g c W', runA Try.prog 22 v (.slice (some ⟨W.heap.size, 0, none⟩) 1 1) (W.alloc (.cells #[.int .i64 r.one, .int .i64 r.two, .int .i64 r.tr] 60)) = .ok (.value (.slice (some ⟨g, 0, none⟩) (n + 1) c)) W' ∧ W'.ownsRow 0 60 3 (.slice (some ⟨g, 0, none⟩) (n + 1) c) (n + 1) (flatN (xs ++ [r])) ∧ Keeps (fun k => v.ownBlock = some k) W W' ∧
      n + 1 ≤ c ∧ (v.ownBlock = some g ∨ (W.heap.size ≤ g ∧ g < W'.heap.size)) := by
  have hk := keep_alloc (fun _ => False) W (.cells #[.int .i64 r.one, .int .i64 r.two, .int .i64 r.tr] 60)
  obtain ⟨v', W', a1, a2, a3, a4⟩ := app_one (n := n) Try.underlying22 info60_ rfl (by omega) (by omega) (own_keep h hk (fun _ _ e => e)) (vals := [.int .i64 r.one, .int .i64 r.two, .int .i64 r.tr]) rfl (heap_alloc_new_ W (.cells #[.int .i64 r.one, .int .i64 r.two, .int .i64 r.tr] 60)) (by simp [Value.oneCell']) (by omega)
  obtain ⟨g, c, rfl, hc⟩ : ∃ g c, v' = .slice (some ⟨g, 0, none⟩) (n + 1) c ∧ n + 1 ≤ c := by
    rcases a2.2 with ⟨e, e2⟩ | ⟨g, cp, cur, e, hb, hg, hcc, _⟩
    · omega
    · exact ⟨_, _, e, hcc⟩
  rw [← flatN_snoc xs r] at a2
  refine ⟨g, c, W', run_app a1, a2, hk.none.trans a3, hc, ?_⟩
  have hs := hk.size
  have hlt := own_lt a2 g rfl
  rcases a4 with e' | ⟨e', _⟩
  · exact .inl e'.symm
  · have := Option.some.inj e'; change g = _ at this; exact .inr ⟨by omega, hlt⟩
theorem nls_own {W : World} {v : Value} {n : Nat} {xs : List Nl} (hl : xs.length = n) (h : W.ownsRow 0 60 3 v n (flatN xs)) : ∃ C cap, v = .slice C n cap ∧ n ≤ cap ∧ Nls W C n xs ∧ ∀ b o, C = some ⟨b, o, none⟩ → v.ownBlock = some b := by
  rcases h.2 with ⟨rfl, h0⟩ | ⟨g, cap, cur, rfl, hb, hg, hc, _, hsz, htake⟩
  · exact ⟨none, 0, by rw [h0], by omega, ⟨hl, fun e => by omega⟩, fun b o e => by cases e⟩
  · refine ⟨_, cap, rfl, hc, ⟨hl, fun _ => ⟨g, 0, rfl, fun j hj => ?_⟩⟩, fun b o e => by cases e; rfl⟩
    obtain ⟨a1, a2, a3⟩ := flatN_at xs j (by omega)
    have ha : ∀ i x, (flatN xs)[i]? = some x → i < n * 3 → cur[i]? = some x := fun i x e hi => by
      rw [← htake, List.getElem?_take_of_lt (by omega)] at e
      simpa using e
    refine ⟨?_, ?_, ?_⟩
    · rw [cell_row hg, Nat.zero_add]; exact ha _ _ a1 (by omega)
    · rw [cell_row hg, Nat.zero_add]; exact ha _ _ a2 (by omega)
    · rw [cell_row hg, Nat.zero_add]; exact ha _ _ a3 (by omega)
/-- The list with both ends exchanged. -/
def endX (l : NL) : NL := ⟨l.N, l.A, l.n, l.cap, l.zs, l.RA, l.rn, l.rc, l.rs, l.LA, l.ln, l.lc, l.ls⟩
theorem endX_nls {W : World} {l : NL} (h : NLs W l) : NLs W (endX l) := ⟨h.zs, h.rs, h.ls, h.nc, h.rc, h.lc, h.n6, h.r6, h.l6⟩
theorem endX_chk {l : NL} (h : chkL l = 0) : chkL (endX l) = 0 := by
  obtain ⟨h1, h2, h3, h4, h5, h6, h7, h8⟩ := chk_zero h
  refine chk_0 ?_ h5 ?_ ?_
  · simp only [Bool.and_eq_true, inB_iff, decide_eq_true_eq]
    refine ⟨⟨?_, h2⟩, ?_, ?_⟩
    · exact h1
    · show (1 : Int) ≤ (l.rn : Int) ∧ (l.rn : Int) ≤ 10; omega
    · show (1 : Int) ≤ (l.ln : Int) ∧ (l.ln : Int) ≤ 10; omega
  · show (risI l.N l.rs && risI l.N l.ls) = true
    rw [h6, h7]; rfl
  · show l.rs.any (fun x => decide (x ∈ l.ls)) = false
    rw [List.any_eq_false]
    intro y hy
    simp only [decide_eq_true_eq]
    exact fun e => h8 y e hy
theorem cost_not (zs : List Nl) (S : Int → Bool) : costS zs (fun y => !S y) = costS zs S := sumN_congr fun k _ => by
  unfold cutB
  dsimp only
  cases S (lAt zs k).one <;> cases S (lAt zs k).two <;> rfl
theorem side_not {L R : List Int} {S : Int → Bool} (h : IsSd L R S) : IsSd R L (fun y => !S y) := ⟨fun y hy => by simp [h.2 y hy], fun y hy => by simp [h.1 y hy]⟩
theorem not_not_fun (S : Int → Bool) : (fun y => !!S y) = S := funext fun y => Bool.not_not _
theorem cheap_not {zs : List Nl} {L R : List Int} {S : Int → Bool} (h : Cheap zs L R S) : Cheap zs R L (fun y => !S y) :=
  ⟨side_not h.1, fun T hT => by
    have := h.2 _ (side_not hT)
    rw [cost_not] at this ⊢
    exact this⟩
theorem endX_all {l : NL} {R : Int → Bool} : AllC (endX l) R ↔ NoneC l R := by
  refine forall_congr' fun x => iff_congr Iff.rfl ⟨fun h S hS => ?_, fun h S hS => ?_⟩
  · have := h _ (cheap_not hS); simpa using this
  · have := h _ (cheap_not hS); simpa using this
theorem endX_none {l : NL} {R : Int → Bool} : NoneC (endX l) R ↔ AllC l R := by
  refine forall_congr' fun x => iff_congr Iff.rfl ⟨fun h S hS => ?_, fun h S hS => ?_⟩
  · have := h _ (cheap_not hS); simpa using this
  · have := h _ (cheap_not hS); simpa using this
theorem endX_cost {l : NL} {R Q : Int → Bool} (h : Cheap l.zs l.ls l.rs R) (k : Cheap (endX l).zs (endX l).ls (endX l).rs Q) : costS l.zs Q = costS l.zs R := by
  rw [← cost_not]
  exact (cheap_not (zs := l.zs) (L := l.rs) (R := l.ls) k).same h
def swN (r : Nl) : Nl := ⟨r.two, r.one, r.tr⟩
/-- The links from the last one on, each with its names exchanged. -/
def rvN (zs : List Nl) : Nat → List Nl
  | 0 => []
  | k + 1 => rvN zs k ++ [swN (lAt zs (zs.length - 1 - k))]
theorem rvN_len (zs : List Nl) : ∀ k, (rvN zs k).length = k
  | 0 => rfl
  | k + 1 => by rw [rvN, List.length_append, rvN_len zs k]; rfl
theorem rvN_at (zs : List Nl) {j : Nat} : ∀ {k}, j < k → lAt (rvN zs k) j = swN (lAt zs (zs.length - 1 - j))
  | 0, h => by omega
  | k + 1, h => by
    rcases Nat.lt_or_ge j k with h2 | h2
    · have := rvN_at zs h2
      unfold lAt at this ⊢
      rw [rvN, List.getD_eq_getElem?_getD, List.getElem?_append_left (by rw [rvN_len]; exact h2), ← List.getD_eq_getElem?_getD]
      exact this
    · obtain rfl : j = k := by omega
      unfold lAt
      rw [rvN, List.getD_eq_getElem?_getD, List.getElem?_append_right (by rw [rvN_len]; exact Nat.le_refl _), rvN_len]
      simp
      rfl
theorem sumN_rev : ∀ (n : Nat) (g : Nat → Int), sumN n (fun k => g (n - 1 - k)) = sumN n g
  | 0, g => rfl
  | n + 1, g => by
    have h1 : ∀ (m : Nat) (f : Nat → Int), sumN (m + 1) f = f 0 + sumN m (fun k => f (k + 1)) := by
      intro m
      induction m with
      | zero => intro f; simp [sumN]
      | succ m ih => intro f; rw [sumN, ih f]; simp only [sumN]; omega
    rw [h1]
    have e : sumN n (fun k => g (n + 1 - 1 - (k + 1))) = sumN n (fun k => g (n - 1 - k)) := sumN_congr fun k _ => by congr 1; omega
    rw [e, sumN_rev n g]
    simp only [sumN]
    rw [show n + 1 - 1 - 0 = n by omega]; omega
theorem rv_cost (zs : List Nl) (S : Int → Bool) : costS (rvN zs zs.length) S = costS zs S := by
  unfold costS
  rw [rvN_len, ← sumN_rev zs.length (fun k => ind (cutB zs S k) (lAt zs k).tr)]
  refine sumN_congr fun k hk => ?_
  unfold cutB
  rw [rvN_at zs hk]
  unfold swN
  dsimp only
  cases S (lAt zs (zs.length - 1 - k)).one <;> cases S (lAt zs (zs.length - 1 - k)).two <;> rfl
theorem rv_cheap {zs : List Nl} {L R : List Int} {S : Int → Bool} : Cheap (rvN zs zs.length) L R S ↔ Cheap zs L R S := by
  unfold Cheap
  simp only [rv_cost]
theorem rv_ok {N : Int} {zs : List Nl} (h : zs.all (okN N) = true) : (rvN zs zs.length).all (okN N) = true := by
  rw [List.all_eq_true] at h ⊢
  intro r hr
  obtain ⟨j, hj, e⟩ := List.mem_iff_getElem.1 hr
  rw [rvN_len] at hj
  have e2 := rvN_at zs hj
  rw [lAt_eq (by rw [rvN_len]; exact hj)] at e2
  have h3 := h (lAt zs (zs.length - 1 - j)) (by rw [lAt_eq (by omega)]; exact List.getElem_mem _)
  rw [← e, e2]
  unfold okN swN at *
  simp only [Bool.and_eq_true, Bool.not_eq_true', decide_eq_false_iff_not] at h3 ⊢
  exact ⟨⟨⟨h3.1.1.2, h3.1.1.1⟩, fun e => h3.1.2 e.symm⟩, h3.2⟩
/-- The list with other links. -/
def lkX (l : NL) (A : Option Addr) (cap : Nat) (zs : List Nl) : NL := ⟨l.N, A, zs.length, cap, zs, l.LA, l.ln, l.lc, l.ls, l.RA, l.rn, l.rc, l.rs⟩
theorem lkX_chk {l : NL} (h : chkL l = 0) (A : Option Addr) (cap : Nat) (zs : List Nl) (hz : zs.all (okN l.N) = true) (hn : zs.length ≤ 120) : chkL (lkX l A cap zs) = 0 := by
  obtain ⟨h1, h2, h3, h4, h5, h6, h7, h8⟩ := chk_zero h
  refine chk_0 ?_ hz ?_ ?_
  · simp only [Bool.and_eq_true, inB_iff, decide_eq_true_eq]
    refine ⟨⟨h1, hn⟩, ?_, ?_⟩
    · show (1 : Int) ≤ (l.ln : Int) ∧ (l.ln : Int) ≤ 10; omega
    · show (1 : Int) ≤ (l.rn : Int) ∧ (l.rn : Int) ≤ 10; omega
  · show (risI l.N l.ls && risI l.N l.rs) = true
    rw [h6, h7]; rfl
  · show l.ls.any (fun x => decide (x ∈ l.rs)) = false
    rw [List.any_eq_false]
    intro y hy
    simp only [decide_eq_true_eq]
    exact h8 y hy
theorem lkX_nls {W : World} {l : NL} (h : NLs W l) {A : Option Addr} {cap : Nat} {zs : List Nl} (hz : Nls W A zs.length zs) (hc : zs.length ≤ cap) (h6 : zs.length ≤ 1000000) : NLs W (lkX l A cap zs) :=
  ⟨hz, h.ls, h.rs, hc, h.lc, h.rc, h6, h.l6, h.r6⟩
theorem sdV_neg {R R' : Int → Bool} {x : Int} (h : R' x = true → R x = false) : sdV R' R x = -sdV R R' x := by
  unfold sdV
  cases e1 : R x <;> cases e2 : R' x
  · rfl
  · rfl
  · rfl
  · rw [h e2] at e1; cases e1
end Go.Proofs.Ytigohccehllmnaa
