/- Stage 5: a sheet without a link. -/
import Derived.Test.YtnodkgejggnehaaIt
import Derived.Test.YtnodkgejggnehaaKn
import Derived.Test.YtnodkgejggnehaaKw
import Derived.LoopIn
import Derived.Test.YtnodkgejggnehaaSc
namespace Go.Proofs.Ytnodkgejggnehaa
set_option linter.unusedSimpArgs false
set_option linter.unusedVariables false
open Go.RowKit Go.Shelf
attribute [local go_sem ↓] exec_app at_app
attribute [local go_sem] Oper.semAt_some
theorem info55_ : (Try.prog.info? 55).map (fun i => (i.zero, i.size, i.bytes)) = some (some (.agg #[.int .i64 0, .int .i64 0]), 2, 16) := by kernel_rfl
/-- A row of links grows by one. -/
theorem app_ln {W : World} {v : Value} {n : Nat} {xs : List Rg} (h : W.ownsRow 0 55 2 v n (flatR xs)) (x y : Int) (hn : n ≤ 100000) {W0 : World} {P : Nat} (hP : W.heap[P]? = some (.cells #[.int .i64 x, .int .i64 y] 55 (0, 0))) :
    ∃ C c W', runA Try.prog 22 v (.slice (some ⟨P, 0, none⟩) 1 1) W = .ok (.value (.slice C (n + 1) c)) W' ∧ W'.ownsRow 0 55 2 (.slice C (n + 1) c) (n + 1) (flatR (xs ++ [⟨x, y⟩])) ∧ Keeps (fun k => v.ownBlock = some k) W W' ∧
      ∀ g, (Value.slice C (n + 1) c).ownBlock = some g → v.ownBlock = some g ∨ (W.heap.size ≤ g ∧ g < W'.heap.size) := by
  obtain ⟨v', W', a1, a2, a3, a4⟩ := app_one (n := n) Try.underlying22 info55_ rfl (by omega) (by omega) h (vals := [.int .i64 x, .int .i64 y]) rfl hP (by simp [Value.oneCell']) (by omega)
  obtain ⟨C, c, rfl⟩ : ∃ C c, v' = .slice C (n + 1) c := by
    rcases a2.2 with ⟨e, e2⟩ | ⟨g, cp, cur, e, _⟩
    · omega
    · exact ⟨_, _, e⟩
  rw [← flatR_snoc xs ⟨x, y⟩] at a2
  refine ⟨C, c, W', run_app a1, a2, a3, fun g e => ?_⟩
  have hlt := own_lt a2 g e
  rcases a4 with e' | ⟨e', _⟩
  · rw [e'] at e; exact .inl e
  · rw [e'] at e; have := Option.some.inj e; exact .inr ⟨by omega, hlt⟩
/-- The first links without one. -/
def wzP (k : Nat) (zs : List Rg) (q : Nat) : List Rg := ((List.range q).filter fun j => j != k).map (gAt zs)
theorem wzP_yes {k : Nat} {zs : List Rg} {q : Nat} (h : q ≠ k) : wzP k zs (q + 1) = wzP k zs q ++ [gAt zs q] := by
  unfold wzP; rw [List.range_succ, List.filter_append, List.filter_cons, if_pos (by simpa using h)]; simp
theorem wzP_no {k : Nat} {zs : List Rg} {q : Nat} (h : q = k) : wzP k zs (q + 1) = wzP k zs q := by
  unfold wzP; rw [List.range_succ, List.filter_append, List.filter_cons, if_neg (by simp [h])]; simp
theorem wzP_len (k : Nat) (zs : List Rg) (q : Nat) : (wzP k zs q).length ≤ q := by
  unfold wzP; rw [List.length_map]
  exact Nat.le_trans (List.length_filter_le _ _) (by simp)
def wkP (k : Nat) (ks : List Int) (q : Nat) : List Int := (List.range q).map fun j => if (k : Int) < iAt ks j then iAt ks j - 1 else iAt ks j
theorem wkP_succ (k : Nat) (ks : List Int) (q : Nat) : wkP k ks (q + 1) = wkP k ks q ++ [if (k : Int) < iAt ks q then iAt ks q - 1 else iAt ks q] := by simp [wkP, List.range_succ]
theorem wkP_len (k : Nat) (ks : List Int) (q : Nat) : (wkP k ks q).length = q := by simp [wkP]
/-- The sheet that grows. -/
structure WoI (X b : Nat) (sl sr : Int) (w : World) (lZ : List Rg) (lK : List Int) (W : World) : Prop where
  ex : ∃ vL vK : Value, W.heap[X]? = some (.cells #[.int .i64 sl, .int .i64 sr, vL, vK] 25 (0, 0)) ∧ W.ownsRow 0 55 2 vL lZ.length (flatR lZ) ∧ W.ownsRow 0 3 1 vK lK.length (flatI lK) ∧ (∀ g, vL.ownBlock = some g → b ≤ g) ∧ (∀ g, vK.ownBlock = some g → b ≤ g) ∧ ∀ g, vL.ownBlock = some g → vK.ownBlock ≠ some g
  keep : Keeps (fun j => j = X) w W
theorem WoI.link {X b : Nat} {sl sr : Int} {w W : World} {lZ : List Rg} {lK : List Int} (h : WoI X b sl sr w lZ lK W) (hXb : X < b) (hbw : b = w.heap.size) (hl : lZ.length ≤ 1000) (x y : Int) :
    ∃ vL vK, W.heap[X]? = some (.cells #[.int .i64 sl, .int .i64 sr, vL, vK] 25 (0, 0)) ∧ (∀ g, vL.ownBlock = some g → b ≤ g) ∧ ∀ V P, Keeps (fun _ => False) W V → V.heap[P]? = some (.cells #[.int .i64 x, .int .i64 y] 55 (0, 0)) → ∃ C c W1, runA Try.prog 22 vL (.slice (some ⟨P, 0, none⟩) 1 1) V = .ok (.value (.slice C (lZ.length + 1) c)) W1 ∧ W1.heap[X]? = some (.cells #[.int .i64 sl, .int .i64 sr, vL, vK] 25 (0, 0)) ∧ Keeps (fun j => b ≤ j) W W1 ∧
      WoI X b sl sr w (lZ ++ [⟨x, y⟩]) lK (W1.setCell ⟨X, 2, none⟩ (.slice C (lZ.length + 1) c)) := by
  obtain ⟨vL, vK, h1, h2, h3, h4, h5, h6⟩ := h.ex
  refine ⟨vL, vK, h1, h4, fun V P hV hP => ?_⟩
  obtain ⟨C, c, W1, r1, o1, k1, d1⟩ := app_ln (W0 := W) (own_keep h2 hV (fun _ _ e => e)) x y (by omega) hP
  have kb : Keeps (fun j => b ≤ j) W W1 := hV.none.trans (k1.mono (fun j _ e => h4 j e))
  have hX1 := (kb.block _ (lt_of_block h1) (by omega)).trans h1
  have hk2 := keeps_setCell W1 X 2 (.slice C (lZ.length + 1) c)
  have o3 := own_keep (own_keep h3 hV (fun _ _ e => e)) k1 (fun g e e2 => h6 g e2 e)
  have hlW := own_lt h3
  have hVs := hV.size
  have hks := h.keep.size
  refine ⟨C, c, W1, r1, hX1, kb, ⟨⟨.slice C (lZ.length + 1) c, vK, set_same 2 _ hX1, ?_, own_keep o3 hk2 (fun g e (e2 : g = X) => by have := h5 g e; omega), fun g e => ?_, h5, fun g e e2 => ?_⟩, keeps_old3 h.keep ((kb.mono (fun j _ e => .inl (by omega))).trans (hk2.mono (fun j _ e => .inr e)))⟩⟩
  · have hnew : ∀ g, (Value.slice C (lZ.length + 1) c).ownBlock = some g → g ≠ X := fun g e => by
      rcases d1 g e with e2 | e2
      · have := h4 g e2; omega
      · omega
    have := own_keep o1 hk2 (fun g e => hnew g e)
    rw [List.length_append]; exact this
  · rcases d1 g e with e2 | e2
    · exact h4 g e2
    · omega
  · rcases d1 g e with e3 | e3
    · exact h6 g e3 e2
    · have := hlW g e2; omega
theorem WoI.known {X b : Nat} {sl sr : Int} {w W : World} {lZ : List Rg} {lK : List Int} (h : WoI X b sl sr w lZ lK W) (hXb : X < b) (hbw : b = w.heap.size) (hl : lK.length ≤ 1000) (x : Int) :
    ∃ vL vK C c W1, W.heap[X]? = some (.cells #[.int .i64 sl, .int .i64 sr, vL, vK] 25 (0, 0)) ∧ runA Try.prog 23 vK (.slice (some ⟨W.heap.size, 0, none⟩) 1 1) (W.alloc (.cells #[.int .i64 x] 3)) = .ok (.value (.slice C (lK.length + 1) c)) W1 ∧ W1.heap[X]? = some (.cells #[.int .i64 sl, .int .i64 sr, vL, vK] 25 (0, 0)) ∧
      WoI X b sl sr w lZ (lK ++ [x]) (W1.setCell ⟨X, 3, none⟩ (.slice C (lK.length + 1) c)) := by
  obtain ⟨vL, vK, h1, h2, h3, h4, h5, h6⟩ := h.ex
  obtain ⟨C, c, W1, r1, o1, k1, d1⟩ := app_int h3 x (by omega)
  have kb : Keeps (fun j => b ≤ j) W W1 := k1.mono (fun j _ e => h5 j e)
  have hX1 := (kb.block _ (lt_of_block h1) (by omega)).trans h1
  have hk2 := keeps_setCell W1 X 3 (.slice C (lK.length + 1) c)
  have o3 := own_keep h2 k1 (fun g e e2 => h6 g e e2)
  have hlW := own_lt h2
  have hks := h.keep.size
  refine ⟨vL, vK, C, c, W1, h1, r1, hX1, ⟨⟨vL, .slice C (lK.length + 1) c, set_same 3 _ hX1, own_keep o3 hk2 (fun g e (e2 : g = X) => by have := h4 g e; omega), ?_, h4, fun g e => ?_, fun g e e2 => ?_⟩, keeps_old3 h.keep ((kb.mono (fun j _ e => .inl (by omega))).trans (hk2.mono (fun j _ e => .inr e)))⟩⟩
  · have hnew : ∀ g, (Value.slice C (lK.length + 1) c).ownBlock = some g → g ≠ X := fun g e => by
      rcases d1 g e with e2 | e2
      · have := h5 g e2; omega
      · omega
    have := own_keep o1 hk2 (fun g e => hnew g e)
    rw [List.length_append]; exact this
  · rcases d1 g e with e2 | e2
    · exact h5 g e2
    · omega
  · rcases d1 g e2 with e3 | e3
    · exact h6 g e e3
    · have := hlW g e; omega
end Go.Proofs.Ytnodkgejggnehaa
