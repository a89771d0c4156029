/- A block that holds an array of numbers (NumAt), loaded, stored, filled one by one; the table of primes in the variable's block (Pr). -/
import Derived.Test.YtopilgedcnbdaaaDoorTz
import Derived.Test.YtopilgedcnbdaaaDoorShaLawA
namespace Go.Proofs.YtopilgedcnbdaaaDoor
set_option maxRecDepth 1000000
set_option maxHeartbeats 8000000
open Go.RowKit
set_option linter.unusedVariables false
theorem arrN_set (k : IntKind) (xs : List Nat) (j y : Nat) : (arrN k xs).setIfInBounds j (.int k (y : Int)) = arrN k (xs.set j y) := by
 unfold arrN
 rw [List.setIfInBounds_toArray, List.map_set]; rfl
theorem arrN_zeros (k : IntKind) (n : Nat) : arrN k (List.replicate n 0) = Array.replicate n (Value.int k 0) := by
 unfold arrN
 rw [List.map_replicate]
 exact List.toArray_replicate ..
def NumAt (T : TypeId) (k : IntKind) (w : World) (g : Nat) (xs : List Nat) : Prop := w.heap[g]? = some (.cells (arrN k xs) T (0, 0))
theorem NumAt.lt {T : TypeId} {k : IntKind} {w : World} {g : Nat} {xs : List Nat} (h : NumAt T k w g xs) : g < w.heap.size := heap_at_lt h
theorem NumAt.below {T : TypeId} {k : IntKind} {w w' : World} {B g : Nat} {xs : List Nat} (h : NumAt T k w g xs) (hb : Below B w w') (hg : g < B) : NumAt T k w' g xs := by
 unfold NumAt
 rw [hb.block g hg]; exact h
theorem NumAt.to {T : TypeId} {k : IntKind} {w w' : World} {g : Nat} {xs : List Nat} (h : NumAt T k w g xs) (hb : Below w.heap.size w w') : NumAt T k w' g xs := h.below hb h.lt
theorem NumAt.cell {T : TypeId} {k : IntKind} {w : World} {g j : Nat} {xs : List Nat} (h : NumAt T k w g xs) (hj : j < xs.length) : w.cell? ⟨g, j, none⟩ = some (.int k (nx xs j : Int)) ∧ w.frozen? ⟨g, j, none⟩ = false := by
 have h' : w.heap[g]? = some (.cells (arrN k xs) T (0, 0)) := h
 refine ⟨?_, by simp [World.frozen?, h']⟩
 rw [cell_of_row _ _ j _ _ (0, 0) h']
 exact arrN_at hj
theorem NumAt.set {T : TypeId} {k : IntKind} {w : World} {g j : Nat} {xs : List Nat} (h : NumAt T k w g xs) (y : Nat) : NumAt T k (w.setCell ⟨g, j, none⟩ (.int k (y : Int))) g (xs.set j y) := by
 unfold NumAt
 rw [heap_setCell_same _ _ _ _ _ _ h, arrN_set]
theorem NumAt.other {T : TypeId} {k : IntKind} {w : World} {g : Nat} {xs : List Nat} (h : NumAt T k w g xs) (a : Addr) (v : Value) (hne : g ≠ a.block) : NumAt T k (w.setCell a v) g xs :=
 (Below.heap_setCell w a v g hne).trans h
theorem NumAt.rd {T : TypeId} {k : IntKind} {w : World} {g : Nat} {xs : List Nat} (h : NumAt T k w g xs) : RdK k w w.heap.size (some ⟨g, 0, none⟩) xs.length xs :=
 ⟨rfl, fun _ => ⟨g, 0, rfl, h.lt, fun j hj => by rw [Nat.zero_add]; exact (h.cell hj).1⟩⟩
theorem NumAt.new (T : TypeId) (k : IntKind) (w : World) (xs : List Nat) : NumAt T k (w.alloc (.cells (arrN k xs) T)) w.heap.size xs := heap_alloc_last w _
theorem NumAt.alloc {T : TypeId} {k : IntKind} {w : World} {g : Nat} {xs : List Nat} (h : NumAt T k w g xs) (o : Obj) : NumAt T k (w.alloc o) g xs := h.to ((Below.refl _ _).alloc (Nat.le_refl _) o)
theorem NumAt.drew {T : TypeId} {k : IntKind} {w : World} {g : Nat} {xs : List Nat} (h : NumAt T k w g xs) : NumAt T k w.drew g xs := h
theorem two_nums (T : TypeId) (k : IntKind) (w : World) (xs ys : List Nat) : NumAt T k ((w.alloc (.cells (arrN k xs) T)).alloc (.cells (arrN k ys) T)) w.heap.size xs ∧ NumAt T k ((w.alloc (.cells (arrN k xs) T)).alloc (.cells (arrN k ys) T)) (w.heap.size + 1) ys :=
 ⟨(two_blocks w _ _ _).1, (two_blocks w _ _ _).2⟩
theorem NumAt.setRow {T : TypeId} {k : IntKind} {w : World} {g : Nat} {old xs : List Nat} (h : NumAt T k w g old) : NumAt T k (w.setRow g (arrN k xs)) g xs := setRow_heap _ _ _ _ _ _ h
theorem NumAt.setRowOther {T : TypeId} {k : IntKind} {w : World} {g g' : Nat} {xs : List Nat} (h : NumAt T k w g xs) (cs : Array Value) (hne : g ≠ g') : NumAt T k (w.setRow g' cs) g xs := by
 unfold NumAt
 rw [setRow_other w g' g cs hne]; exact h
def fillN (xs : List Nat) (m : Nat) : List Nat := xs.take m ++ List.replicate (xs.length - m) 0
theorem fillN_len {xs : List Nat} {m : Nat} (h : m ≤ xs.length) : (fillN xs m).length = xs.length := by simp [fillN]; omega
theorem fillN_zero (xs : List Nat) : fillN xs 0 = List.replicate xs.length 0 := by simp [fillN]
theorem fillN_all (xs : List Nat) : fillN xs xs.length = xs := by simp [fillN]
theorem fillN_set {xs : List Nat} {m : Nat} (h : m < xs.length) : (fillN xs m).set m (nx xs m) = fillN xs (m + 1) := by
 unfold fillN
 have e : xs.take (m + 1) = xs.take m ++ [xs[m]] := List.take_succ_eq_append_getElem h
 rw [List.set_append_right _ _ (by simp; omega), e, nx_of_lt h, show xs.length - m = (xs.length - (m + 1)) + 1 from by omega, List.replicate_succ, List.append_assoc]
 simp [Nat.min_eq_left (Nat.le_of_lt h)]
theorem fillN_at {xs : List Nat} {m j : Nat} (hj : j < m) (hm : m ≤ xs.length) : nx (fillN xs m) j = nx xs j := by
 unfold fillN
 rw [nx_left (by simp; omega)]
 simp [nx, List.getD, hj]
def primeL : List Nat := [2, 3, 5, 7, 11, 13, 17, 19, 23, 29, 31, 37, 41, 43, 47, 53, 59, 61, 67, 71, 73, 79, 83, 89, 97, 101, 103, 107, 109, 113, 127, 131,
 137, 139, 149, 151, 157, 163, 167, 173, 179, 181, 191, 193, 197, 199, 211, 223, 227, 229, 233, 239, 241, 251, 257, 263, 269, 271, 277, 281, 283, 293, 307, 311]
def Pr (w : World) : Prop := 0 < w.heap.size ∧ ∀ j, j < 64 → w.cell? ⟨0, j, none⟩ = some (.int .u64 (nx primeL j : Int))
theorem Pr.to {w w' : World} (h : Pr w) (hb : Below w.heap.size w w') : Pr w' :=
 ⟨Nat.lt_of_lt_of_le h.1 hb.size, fun j hj => (hb.cell h.1).trans (h.2 j hj)⟩
theorem Pr.drew {w : World} (h : Pr w) : Pr w.drew := h
theorem Pr.alloc {w : World} (h : Pr w) (o : Obj) : Pr (w.alloc o) := h.to ((Below.refl _ _).alloc (Nat.le_refl _) o)
end Go.Proofs.YtopilgedcnbdaaaDoor