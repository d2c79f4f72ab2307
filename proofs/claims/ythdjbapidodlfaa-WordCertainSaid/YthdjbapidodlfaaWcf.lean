/- Stage 4: what WordCertain asks of passages and grades (mathematics). -/
import Derived.Test.YthdjbapidodlfaaHr
import Derived.Test.YthdjbapidodlfaaGrf
namespace Go.Proofs.Ythdjbapidodlfaa
set_option linter.unusedSimpArgs false
set_option linter.unusedVariables false
open Go.RowKit Go.Shelf
/-- One of the longest passages, as it is answered. -/
def Lg (nm : List Int) (L : List (List Int)) (m : Nat) (p : List (List Int)) : Prop := ∃ q ∈ lngS nm L m, p = q.map (·.take m)
theorem hasB_mem {l : List (List Int)} {x : List Int} (h : x ∈ l) : hasB l x = true := by
  unfold hasB
  rw [List.any_eq_true]
  exact ⟨x, h, decide_eq_true rfl⟩
theorem lg_has {nm : List Int} {L p : List (List Int)} {m : Nat} (hL : LV L m) (hp : Lg nm L m p) {i : Nat} (hi : i < ((crtS nm L m (mtS nm L)).map (·.take m)).length) : hasB p (lAt ((crtS nm L m (mtS nm L)).map (·.take m)) i) = true := by
  obtain ⟨q, hq, rfl⟩ := hp
  refine hasB_mem ?_
  rw [List.length_map] at hi
  rw [lAt_take, lAt_eq hi]
  exact List.mem_map.2 ⟨_, ((mem_crt hL _).1 (List.getElem_mem hi)).2 _ hq, rfl⟩
theorem crt_at {nm : List Int} {L : List (List Int)} {m h : Nat} (hL : LV L m) (hh : h < m) {i : Nat} (hi : i < ((crtS nm L m (mtS nm L)).map (·.take m)).length) :
    (lAt ((crtS nm L m (mtS nm L)).map (·.take m)) i).length = m ∧ ∃ u : Nat, iAt (lAt ((crtS nm L m (mtS nm L)).map (·.take m)) i) h = (u : Int) ∧ u < (lAt L h).length ∧ iAt (grS nm L m h) u = 2 := by
  rw [List.length_map] at hi
  rw [lAt_take, lAt_eq hi]
  have hx := List.getElem_mem hi
  have hm := ((mem_crt hL _).1 hx).1
  have hr := ((mem_mtS hL _).1 hm).rng h hh
  have hlen := (mtS_len hL).2 _ hm
  have hhi := hL.hi
  refine ⟨by rw [List.length_take]; omega, (iAt (crtS nm L m (mtS nm L))[i] h).toNat, by rw [iAt_take2 hh]; omega, by omega, ?_⟩
  exact gr_crt hL hh (by omega) hx (by omega)
theorem hrs_hr {q : List (List Int)} {m h : Nat} (hh : h < m) (i : Nat) : hrsB (q.map (·.take m)) h (i : Int) q.length = hrQ h i q := by
  rw [Bool.eq_iff_iff]
  unfold hrsB hrQ
  rw [List.any_eq_true, List.any_eq_true]
  constructor
  · rintro ⟨j, hj, he⟩
    rw [List.mem_range] at hj
    rw [lAt_take, lAt_eq hj, iAt_take2 hh] at he
    exact ⟨_, List.getElem_mem hj, he⟩
  · rintro ⟨x, hx, he⟩
    obtain ⟨j, hj, rfl⟩ := List.getElem_of_mem hx
    exact ⟨j, List.mem_range.2 hj, by rw [lAt_take, lAt_eq hj, iAt_take2 hh]; exact he⟩
theorem lg_says {nm : List Int} {L p : List (List Int)} {m h i : Nat} (hL : LV L m) (hh : h < m) (hi : i < (lAt L h).length) (hp : Lg nm L m p) :
    (iAt (grS nm L m h) i = 2 → hrsB p h (i : Int) p.length = true) ∧ (iAt (grS nm L m h) i = 0 → hrsB p h (i : Int) p.length = false) := by
  obtain ⟨q, hq, rfl⟩ := hp
  rw [List.length_map, hrs_hr hh]
  exact ⟨fun e => gr_two hL hh hi e q hq, fun e => gr_zero hL hh hi e q hq⟩
theorem gr_rng {nm : List Int} {L : List (List Int)} {m h i : Nat} (hi : i < (lAt L h).length) : 0 ≤ iAt (grS nm L m h) i ∧ iAt (grS nm L m h) i ≤ 2 := by
  rw [grS_at hi]
  exact grV_rng _ _
theorem cnt_pos {nm : List Int} {L : List (List Int)} {m : Nat} (hL : LV L m) : 1 ≤ cntS (allK (mtS nm L) m) := by
  rw [← lng_cnt hL]
  have := List.length_pos_of_mem (fst_lng (nm := nm) hL)
  omega
theorem chQ_lens {nm : List Int} {L p : List (List Int)} {m : Nat} (hL : LV L m) (h : ChQ ((mtS nm L).map (·.take m)) m p) : ∀ j, j < p.length → (lAt p j).length = m := fun j hj => ((mem_ml hL _).1 (h.1 j hj)).1
theorem topK_le {nm : List Int} {L : List (List Int)} {m : Nat} (hL : LV L m) : topK nm L m ≤ 9 := by
  have := all_nn (nm := nm) hL
  unfold topK
  omega
end Go.Proofs.Ythdjbapidodlfaa
