/- Stage 5: slices.Sort at numbers. -/
import Derived.Test.YtnodkgejggnehaaAp
import Derived.Shelf.SortG.Plain
import Derived.Shelf.SortG.SortNone
namespace Go.Proofs.Ytnodkgejggnehaa
set_option linter.unusedSimpArgs false
set_option linter.unusedVariables false
open Go.RowKit Go.Shelf Go.Sort
attribute [local go_sem ↓] exec_app

def srtI_ren : Go.Shelf.Ren := ⟨fun | 53 => 73 | 63 => 88 | 64 => 89 | 70 => 93 | 71 => 94 | 72 => 95 | 73 => 96 | 74 => 97 | 75 => 98 | 59 => 99 | 76 => 100 | 77 => 101 | 78 => 102 | 79 => 103 | 88 => 104 | 89 => 105 | 90 => 106 | 91 => 107 | 92 => 108 | 68 => 109 | 96 => 110 | n => n, fun | 0 => 0 | 3 => 3 | 4 => 4 | 5 => 5 | 9 => 9 | 22 => 23 | 23 => 3 | 44 => 131 | 51 => 121 | 60 => 125 | 61 => 126 | 67 => 134 | 69 => 136 | 75 => 137 | 79 => 141 | 83 => 143 | 84 => 144 | n => n, fun n => n⟩
theorem srtI : SlLaysN.n53 Try.prog srtI_ren where
  mixed := by kernel_rfl
  f53 := ⟨"slices.Sort[[]int,int]", by decide, Try.func73.trans (congrArg some (by kernel_rfl))⟩
  f59 := ⟨"cmp.Less[int]", by decide, Try.func99.trans (congrArg some (by kernel_rfl))⟩
  f63 := ⟨"slices.pdqsortOrdered[int]", by decide, Try.func88.trans (congrArg some (by kernel_rfl))⟩
  f64 := Try.func89.trans (congrArg some (by kernel_rfl))
  f68 := ⟨"cmp.isNaN[int]", by decide, Try.func109.trans (congrArg some (by kernel_rfl))⟩
  f70 := ⟨"slices.insertionSortOrdered[int]", by decide, Try.func93.trans (congrArg some (by kernel_rfl))⟩
  f71 := ⟨"slices.heapSortOrdered[int]", by decide, Try.func94.trans (congrArg some (by kernel_rfl))⟩
  f72 := ⟨"slices.breakPatternsOrdered[int]", by decide, Try.func95.trans (congrArg some (by kernel_rfl))⟩
  f73 := ⟨"slices.choosePivotOrdered[int]", by decide, Try.func96.trans (congrArg some (by kernel_rfl))⟩
  f74 := ⟨"slices.reverseRangeOrdered[int]", by decide, Try.func97.trans (congrArg some (by kernel_rfl))⟩
  f75 := ⟨"slices.partialInsertionSortOrdered[int]", by decide, Try.func98.trans (congrArg some (by kernel_rfl))⟩
  f76 := ⟨"slices.partitionEqualOrdered[int]", by decide, Try.func100.trans (congrArg some (by kernel_rfl))⟩
  f77 := ⟨"slices.partitionOrdered[int]", by decide, Try.func101.trans (congrArg some (by kernel_rfl))⟩
  f78 := Try.func102.trans (congrArg some (by kernel_rfl))
  f79 := Try.func103.trans (congrArg some (by kernel_rfl))
  f88 := ⟨"slices.siftDownOrdered[int]", by decide, Try.func104.trans (congrArg some (by kernel_rfl))⟩
  f89 := Try.func105.trans (congrArg some (by kernel_rfl))
  f90 := Try.func106.trans (congrArg some (by kernel_rfl))
  f91 := ⟨"slices.medianAdjacentOrdered[int]", by decide, Try.func107.trans (congrArg some (by kernel_rfl))⟩
  f92 := ⟨"slices.medianOrdered[int]", by decide, Try.func108.trans (congrArg some (by kernel_rfl))⟩
  f96 := ⟨"slices.order2Ordered[int]", by decide, Try.func110.trans (congrArg some (by kernel_rfl))⟩
  t0 := Try.underlying0
  a0 := Try.isAgg0
  z0 := Try.sizeOf0
  v0 := Try.zeroValue0
  t3 := Try.underlying3
  a3 := Try.isAgg3
  z3 := Try.sizeOf3
  v3 := Try.zeroValue3
  t4 := Try.underlying4
  a4 := Try.isAgg4
  z4 := Try.sizeOf4
  v4 := Try.zeroValue4
  t5 := Try.underlying5
  a5 := Try.isAgg5
  z5 := Try.sizeOf5
  v5 := Try.zeroValue5
  t9 := Try.underlying9
  a9 := Try.isAgg9
  z9 := Try.sizeOf9
  v9 := Try.zeroValue9
  t22 := Try.underlying23
  a22 := Try.isAgg23
  z22 := Try.sizeOf23
  v22 := Try.zeroValue23
  t23 := Try.underlying3
  a23 := Try.isAgg3
  z23 := Try.sizeOf3
  v23 := Try.zeroValue3
  t44 := Try.underlying131
  a44 := Try.isAgg131
  z44 := Try.sizeOf131
  v44 := Try.zeroValue131
  t51 := Try.underlying121
  a51 := Try.isAgg121
  z51 := Try.sizeOf121
  v51 := Try.zeroValue121
  t60 := Try.underlying125
  a60 := Try.isAgg125
  z60 := Try.sizeOf125
  v60 := Try.zeroValue125
  t61 := Try.underlying126
  a61 := Try.isAgg126
  z61 := Try.sizeOf126
  v61 := Try.zeroValue126
  t67 := Try.underlying134
  a67 := Try.isAgg134
  z67 := Try.sizeOf134
  v67 := Try.zeroValue134
  t69 := Try.underlying136
  a69 := Try.isAgg136
  z69 := Try.sizeOf136
  v69 := Try.zeroValue136
  t75 := Try.underlying137
  a75 := Try.isAgg137
  z75 := Try.sizeOf137
  v75 := Try.zeroValue137
  t79 := Try.underlying141
  a79 := Try.isAgg141
  z79 := Try.sizeOf141
  v79 := Try.zeroValue141
  t83 := Try.underlying143
  a83 := Try.isAgg143
  z83 := Try.sizeOf143
  v83 := Try.zeroValue143
  t84 := Try.underlying144
  a84 := Try.isAgg144
  z84 := Try.sizeOf144
  v84 := Try.zeroValue144
/-- A list of numbers, sorted. -/
def srtL (l : List Int) : List Int := l.mergeSort fun x y => decide (x ≤ y)
theorem srtL_perm (l : List Int) : (srtL l).Perm l := List.mergeSort_perm _ _
theorem srtL_len (l : List Int) : (srtL l).length = l.length := (srtL_perm l).length_eq
theorem srtL_sorted (l : List Int) : (srtL l).Pairwise (· ≤ ·) := by
  have h := List.pairwise_mergeSort (le := fun x y : Int => decide (x ≤ y)) (fun a b c h1 h2 => by simp at *; omega) (fun a b => by simp; omega) l
  exact h.imp (fun hh => by simpa using hh)
theorem holds_own {W : World} {e : TypeId} {g n cp : Nat} {l : List Int} (hl : l.length = n) (h : W.ownsRow 0 e 1 (.slice (some ⟨g, 0, none⟩) n cp) n (flatI l)) : Holds (Value.int .i64) W g 0 l.toArray := by
  subst hl
  rcases h.2 with ⟨e1, _⟩ | ⟨g', cap, cur, e1, hb, hg, hc, _, hsz, htake⟩
  · cases e1
  · cases e1
    intro j hj
    simp only [List.size_toArray] at hj
    rw [Nat.zero_add]
    refine ⟨?_, frozen_row hg⟩
    rw [cell_row hg, ← Array.getElem?_toList, ← List.getElem?_take_of_lt (show j < l.length * 1 by omega), htake]
    simp [flatI, hj]
theorem keeps_grow (W : World) (os : Array Obj) : Keeps (fun _ => False) W (grow W os) := ⟨rfl, rfl, rfl, by simp [grow], fun k hk _ => by simp [grow, Array.getElem?_append_left hk]⟩
theorem keeps_putRow (W : World) (n g : Nat) (d : Array Int) : Keeps (fun k => k = g) W (putRow (Value.int .i64) (Sort.ahead W n) g 0 d) := by
  refine ⟨rfl, rfl, rfl, ?_, fun k hk hm => ?_⟩
  · rw [size_putRow]; exact Nat.le_refl _
  · have hne : ¬ g = k := fun e => hm e.symm
    simp [putRow, mapBlock, Sort.ahead, Array.getElem?_modify, hne]
/-- What is owned is sorted. -/
theorem sort_own {e : TypeId} {F : Nat} {ren : Go.Shelf.Ren} (L : SlLaysN.n53 Try.prog ren) (hF : ren.f 53 = F) {W : World} {v : Value} {n : Nat} {l : List Int} (hl : l.length = n) (hn : n ≤ 1000000) (h : W.ownsRow 0 e 1 v n (flatI l)) :
    Calls Try.prog F #[v] W fun en W' => en = .returned (.tuple #[]) ∧ (∃ C cp, v = .slice C n cp ∧ Ints W' C n (srtL l)) ∧ Keeps (fun k => v.ownBlock = some k) W W' := by
  rw [← hF]
  have h' := h
  rcases h.2 with ⟨rfl, h0⟩ | ⟨g, cap, cur, rfl, hb, hg, hc, _, hsz, htake⟩
  · subst h0
    refine (AnyG.slices_Sort_int_none L none 0 W).mono ?_
    rintro en W' ⟨rfl, rfl⟩
    have e0 : l = [] := List.eq_nil_of_length_eq_zero hl
    exact ⟨rfl, ⟨none, 0, rfl, by rw [e0]; exact ⟨by simp [srtL], fun hc => absurd hc (by omega)⟩⟩, Keeps.refl _ _⟩
  · have hH := holds_own hl h'
    have hgl := lt_of_block hg
    subst hl
    refine (AnyG.slices_Sort_int L g 0 cap l W hH hgl (by omega)).mono ?_
    rintro en W' ⟨rfl, q, os, rfl⟩
    have hH2 : Holds (Value.int .i64) (putRow (Value.int .i64) (Sort.ahead W q) g 0 (srtL l).toArray) g 0 (srtL l).toArray := holds_putRow (Value.int .i64) (Sort.ahead W q) g 0 l.toArray (srtL l).toArray hH (by simp [srtL_len])
    have hK := keeps_putRow W q g (srtL l).toArray
    have hH3 := holds_grow (Value.int .i64) _ os g 0 _ (Nat.lt_of_lt_of_le hgl hK.size) hH2
    refine ⟨rfl, ⟨_, cap, rfl, srtL_len l, fun _ => ⟨g, 0, rfl, fun j hj => ?_⟩⟩, ?_⟩
    · have h1 := (hH3 j (by simp [srtL_len]; exact hj)).1
      refine Eq.trans h1 ?_
      have hj2 : j < (srtL l).length := by rw [srtL_len]; exact hj
      simp [iAt_eq hj2, hj2]
    · exact (hK.trans (keeps_grow _ _).none).mono (fun k _ e => by rw [e]; rfl)
end Go.Proofs.Ytnodkgejggnehaa
