/- The frame and the relation of spread's great loop. -/
import Derived.Test.YtiankphkemakeaaMarks
namespace Go.Proofs.Ytiankphkemakeaa
set_option linter.unusedSimpArgs false
set_option linter.unusedVariables false
open Go.RowKit Go.Shelf
attribute [local go_sem] Oper.semAt_some

/-- The first loop of spread has come to k. -/
def farTo (k : Nat) : List Int := List.replicate k 1099511627776 ++ List.replicate (21 - k) 0
theorem farTo_length (k : Nat) (h : k ≤ 21) : (farTo k).length = 21 := by simp [farTo]; omega
theorem farTo_set (k : Nat) (h : k < 21) : (farTo k).set k 1099511627776 = farTo (k + 1) := by
  unfold farTo
  rw [List.set_append_right _ _ (by simp), List.length_replicate, Nat.sub_self, show 21 - k = (20 - k) + 1 by omega, List.replicate_succ, List.set_cons_zero, show 21 - (k + 1) = 20 - k by omega, List.replicate_succ', List.append_assoc]
  rfl
theorem farTo_all : farTo 21 = List.replicate 21 1099511627776 := by simp [farTo]

theorem size3 (W : World) (a b c : Obj) : W.heap.size + 1 + 1 + 1 = (((W.alloc a).alloc b).alloc c).heap.size := by simp

theorem store22 {W : World} {B M : Nat} (hB : B = W.heap.size) :
    (Instr.storeAt 97 (.pointer (some ⟨B, 0, none⟩)) (.agg #[.int .i64 0, .int .i64 0, .int .i64 0, .int .i64 0, .int .i64 0, .int .i64 0, .int .i64 0, .int .i64 0, .int .i64 0, .int .i64 0, .int .i64 0, .int .i64 0, .int .i64 0, .int .i64 0, .int .i64 0, .int .i64 0, .int .i64 0, .int .i64 0, .int .i64 0, .int .i64 0, .int .i64 0, .map (some M)])).run Try.prog (W.alloc (.cells #[.int .i64 0, .int .i64 0, .int .i64 0, .int .i64 0, .int .i64 0, .int .i64 0, .int .i64 0, .int .i64 0, .int .i64 0, .int .i64 0, .int .i64 0, .int .i64 0, .int .i64 0, .int .i64 0, .int .i64 0, .int .i64 0, .int .i64 0, .int .i64 0, .int .i64 0, .int .i64 0, .int .i64 0, .map none] 97)) = .ok () (W.alloc (.cells (fv (farTo 0) M) 97)) :=
  store97_new (cs := fv (farTo 0) M) hB rfl rfl (all_oneCell_toArray (fv_one _ _))

def Held (p : Prop) : Prop := p
theorem holdStore {F : Fence} {n : Nat} {P : Program} {ops : Array Oper} {rest : List Oper} {o : Oper} {a : Act} {w : World} {Q : Exit → Act → World → Prop} (ty : TypeId) (x y : Operand) (ho : o.op = .store ty x y) (h : Held (wpListIn F n P ops Q (o :: rest) a w)) : wpListIn F n P ops Q (o :: rest) a w := h
theorem holdLoad {F : Fence} {n : Nat} {P : Program} {ops : Array Oper} {rest : List Oper} {o : Oper} {a : Act} {w : World} {Q : Exit → Act → World → Prop} (ty : TypeId) (x : Operand) (ho : o.op = .load ty x) (h : Held (wpListIn F n P ops Q (o :: rest) a w)) : wpListIn F n P ops Q (o :: rest) a w := h

theorem grown_of_alloc (W : World) (o : Obj) : W.grownBy (W.alloc o) none := World.grownBy_alloc W o none
theorem grown_trans {a b c : World} {row : Option Nat} (h : a.grownBy b row) (k : b.grownBy c row) : a.grownBy c row :=
  ⟨k.os.trans h.os, k.tape.trans h.tape, k.output.trans h.output, Nat.le_trans h.size k.size, fun i hi hne => (k.block i (Nat.lt_of_lt_of_le hi h.size) hne).trans (h.block i hi hne)⟩

/-- What holds at the head of each round of spread's great loop. -/
structure Rel2 (high : Bool) (ws : List R) (T x M G : Nat) (W4 : World) (k : Nat) (s : St) (nn : Nat) (Ds : List Nat) (wr : World) : Prop where
  hk : k ≤ T + 1
  hs : spread high T ws x = rounds high ws (T + 1 - k) s
  hw : Within (1000 * k) s
  hblk : wr.heap[G]? = some (.cells (fv s.1 M) 97 (0, 0))
  hcame : CameAt wr M s.2 nn
  hnn : nn ≤ 1000 * k
  hmarks : MarksOk wr W4.heap.size Ds
  hbut : But G M W4 wr

/-- The frame at the head of each round of spread's great loop. -/
def Inv2 (high : Bool) (ws : List R) (T x M G B g : Nat) (lb : Array Value) (W4 : World) (a : Act) (wr : World) : Prop :=
  a.tmps.size = 75 ∧ a.tmps.getD 2 undef = .func (.func g) #[] lb ∧ a.tmps.getD 3 undef = .pointer (some ⟨B, 0, none⟩) ∧ a.tmps.getD 6 undef = .pointer (some ⟨B + 1, 0, none⟩) ∧ a.tmps.getD 8 undef = .pointer (some ⟨G, 0, none⟩) ∧ a.tmps.getD 28 undef = .int .i64 ((T : Int) + 1) ∧
  ∃ (k : Nat) (s : St) (nn : Nat) (Ds : List Nat), a.tmps.getD 29 undef = .int .i64 (k : Int) ∧ a.defers = marks Ds ∧ Rel2 high ws T x M G W4 k s nn Ds wr
set_option maxRecDepth 100000 in
theorem Inv2.open_ {high : Bool} {ws : List R} {T x M G B g : Nat} {lb : Array Value} {W4 : World} {a : Act} {wr : World} (h : Inv2 high ws T x M G B g lb W4 a wr) :
    ∃ (z : Nat → Value) (k : Nat) (s : St) (nn : Nat) (Ds : List Nat), Rel2 high ws T x M G W4 k s nn Ds wr ∧ a = { tmps := #[z 0, z 1, .func (.func g) #[] lb, .pointer (some ⟨B, 0, none⟩), z 4, z 5, .pointer (some ⟨B + 1, 0, none⟩), z 7, .pointer (some ⟨G, 0, none⟩), z 9, z 10, z 11, z 12, z 13, z 14, z 15, z 16, z 17, z 18, z 19, z 20, z 21, z 22, z 23, z 24, z 25, z 26, z 27, .int .i64 ((T : Int) + 1), .int .i64 (k : Int), z 30, z 31, z 32, z 33, z 34, z 35, z 36, z 37, z 38, z 39, z 40, z 41, z 42, z 43, z 44, z 45, z 46, z 47, z 48, z 49, z 50, z 51, z 52, z 53, z 54, z 55, z 56, z 57, z 58, z 59, z 60, z 61, z 62, z 63, z 64, z 65, z 66, z 67, z 68, z 69, z 70, z 71, z 72, z 73, z 74], defers := marks Ds } := by
  obtain ⟨hsz, h2, h3, h6, h8, h28, k, s, nn, Ds, h29, hd, hrel⟩ := h
  obtain ⟨⟨l⟩, d⟩ := a
  match l, hsz with
  | y0 :: y1 :: y2 :: y3 :: y4 :: y5 :: y6 :: y7 :: y8 :: y9 :: y10 :: y11 :: y12 :: y13 :: y14 :: y15 :: y16 :: y17 :: y18 :: y19 :: y20 :: y21 :: y22 :: y23 :: y24 :: y25 :: y26 :: y27 :: y28 :: y29 :: y30 :: y31 :: y32 :: y33 :: y34 :: y35 :: y36 :: y37 :: y38 :: y39 :: y40 :: y41 :: y42 :: y43 :: y44 :: y45 :: y46 :: y47 :: y48 :: y49 :: y50 :: y51 :: y52 :: y53 :: y54 :: y55 :: y56 :: y57 :: y58 :: y59 :: y60 :: y61 :: y62 :: y63 :: y64 :: y65 :: y66 :: y67 :: y68 :: y69 :: y70 :: y71 :: y72 :: y73 :: y74 :: [], _ =>
    simp at h2 h3 h6 h8 h28 h29 hd
    subst h2 h3 h6 h8 h28 h29 hd
    exact ⟨fun i => [y0, y1, undef, undef, y4, y5, undef, y7, undef, y9, y10, y11, y12, y13, y14, y15, y16, y17, y18, y19, y20, y21, y22, y23, y24, y25, y26, y27, undef, undef, y30, y31, y32, y33, y34, y35, y36, y37, y38, y39, y40, y41, y42, y43, y44, y45, y46, y47, y48, y49, y50, y51, y52, y53, y54, y55, y56, y57, y58, y59, y60, y61, y62, y63, y64, y65, y66, y67, y68, y69, y70, y71, y72, y73, y74].getD i undef, k, s, nn, Ds, hrel, rfl⟩

end Go.Proofs.Ytiankphkemakeaa
