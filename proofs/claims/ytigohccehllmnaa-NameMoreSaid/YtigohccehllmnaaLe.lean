/- Stage 6: the least side and the sides of names, as they are asked for. -/
import Derived.Test.YtigohccehllmnaaGl
namespace Go.Proofs.Ytigohccehllmnaa
set_option linter.unusedSimpArgs false
set_option linter.unusedVariables false
open Go.RowKit Go.Shelf

/-- A name that all cheapest sides have. -/
def AllC (l : NL) (R : Int → Bool) : Prop := ∀ x, R x = true ↔ ∀ S, Cheap l.zs l.ls l.rs S → S x = true
theorem csK_least {l : NL} {W : World} (hn : NLs W l) (hch : chkL l = 0) (S : Int → Bool) : csK l.zs (nmK S l.N.toNat) l.n = costS l.zs S := by
  have hl := hn.zs.1
  have hz := okl_list hn hch
  have e : csK l.zs (nmK S l.N.toNat) l.n = costS l.zs (sB (nmK S l.N.toNat)) := by rw [← hl]; rfl
  rw [e]
  exact cost_congr hz fun x hx => by
    unfold sB
    rw [Bool.eq_iff_iff, decide_eq_true_iff, mem_nmK]
    exact ⟨fun h => h.2.2, fun h => ⟨by omega, by omega, h⟩⟩
theorem leastA (l : NL) (w : World) (h : NLs w l) (hch : chkL l = 0) :
    Calls Try.prog 30 #[.agg #[.int .i64 l.N, .slice l.A l.n l.cap, .slice l.LA l.ln l.lc, .slice l.RA l.rn l.rc]] w fun e w' => ∃ Q R, e = .returned (.tuple #[.slice (some ⟨Q, 0, none⟩) (nmK R l.N.toNat).length (nmK R l.N.toNat).length, .int .i64 (costS l.zs R), .int .i64 0]) ∧ Ints w' (some ⟨Q, 0, none⟩) (nmK R l.N.toNat).length (nmK R l.N.toNat) ∧ Cheap l.zs l.ls l.rs R ∧ AllC l R ∧ Below w.heap.size w w' := by
  refine (least30 l w h).mono ?_
  rintro e w' ⟨hh, hb⟩
  rcases hh with ⟨h0, -⟩ | ⟨-, f, Q, R, rfl, hI, hf, ⟨S0, hc0, hs0⟩, hR⟩
  · exact absurd hch h0
  · have hz := okl_list h hch
    refine ⟨Q, R, by rw [csK_least h hch], hI, rs_cheap hz hf hs0 hc0 hR, fun x => rs_all hz hf hs0 hc0 hR x, hb⟩
theorem Cheap.same {zs : List Nl} {L R : List Int} {S T : Int → Bool} (h : Cheap zs L R S) (k : Cheap zs L R T) : costS zs S = costS zs T := by
  have := h.2 T k.1; have := k.2 S h.1; omega
end Go.Proofs.Ytigohccehllmnaa
