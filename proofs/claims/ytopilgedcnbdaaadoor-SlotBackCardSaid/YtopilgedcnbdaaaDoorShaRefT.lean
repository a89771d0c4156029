/- Contracts of the document's own Tail and Print (citadelref03). -/
import Derived.Test.YtopilgedcnbdaaaDoorTz
import Derived.Test.YtopilgedcnbdaaaDoorShaRefE
import Derived.Deep.LoopGhost
namespace Go.Proofs.YtopilgedcnbdaaaDoor
set_option maxRecDepth 1000000
set_option maxHeartbeats 8000000
open Go.RowKit
set_option linter.unusedVariables false
def PadRow (j : Nat) : List UInt8 := 128 :: List.replicate j 0
theorem padRow_len (j : Nat) : (PadRow j).length = j + 1 := by simp [PadRow]
theorem padRow_snoc (j : Nat) : PadRow (j + 1) = PadRow j ++ [0] := by
 unfold PadRow; rw [List.replicate_succ', List.cons_append]
def fillB (bs : List UInt8) (m : Nat) : List UInt8 := bs.take m ++ List.replicate (bs.length - m) 0
theorem fillB_len {bs : List UInt8} {m : Nat} (h : m ≤ bs.length) : (fillB bs m).length = bs.length := by simp [fillB]; omega
theorem fillB_zero (bs : List UInt8) : fillB bs 0 = List.replicate bs.length 0 := by simp [fillB]
theorem fillB_all (bs : List UInt8) : fillB bs bs.length = bs := by simp [fillB]
theorem fillB_set {bs : List UInt8} {m : Nat} (h : m < bs.length) : (fillB bs m).set m (bs.getD m 0) = fillB bs (m + 1) := by
 unfold fillB
 rw [List.set_append_right _ _ (by simp; omega), take_snoc_getD h, show bs.length - m = (bs.length - (m + 1)) + 1 from by omega, List.replicate_succ]
 simp [Nat.min_eq_left (Nat.le_of_lt h)]
theorem printL_at : ∀ (s : List Nat) (k j : Nat), k < s.length → j < 4 → (printL s).getD (4 * k + j) 0 = (enc (nx s k) 4).getD j 0
 | [], _, _, h, _ => by simp at h
 | x :: s, 0, j, _, hj => by
  simp only [printL, List.map_cons, List.flatten_cons, Nat.mul_zero, Nat.zero_add, nx, List.getD_cons_zero]
  simp only [List.getD]
  rw [List.getElem?_append_left (by rw [enc_len]; exact hj)]
 | x :: s, k + 1, j, h, hj => by
  have ih := printL_at s k j (by simpa using h) hj
  simp only [printL, List.map_cons, List.flatten_cons, nx, List.getD_cons_succ] at ih ⊢
  rw [← ih]
  simp only [List.getD]
  rw [List.getElem?_append_right (by rw [enc_len]; omega), enc_len, show 4 * (k + 1) + j - 4 = 4 * k + j from by omega]
theorem arrB_zeros (n : Nat) : arrB (List.replicate n 0) = Array.replicate n (Value.int .u8 0) := by
 unfold arrB
 rw [List.map_replicate]
 exact List.toArray_replicate ..
theorem tag_info : (Tryd.prog.info? 41).map (fun i => (i.zero, i.size)) = some (some (.agg (Array.replicate 32 (.int .u8 0))), 32) := by kernel_rfl
def zeros32 : List UInt8 := List.replicate 32 0
theorem tag_zero (w : World) : (zeroValue 41).run Tryd.prog w = .ok (.agg (arrB zeros32)) w := by
 rw [zeros32, arrB_zeros]; exact (zero_of_info tag_info).1 w
theorem tag_size {bs : List UInt8} (h : bs.length = 32) : (Tryd.prog.info? 41).map (·.size) = some (arrB bs).size := by
 rw [arrB_size, h]; exact (zero_of_info tag_info).2
def TagAt (w : World) (g : Nat) (bs : List UInt8) : Prop := bs.length = 32 ∧ w.heap[g]? = some (.cells (arrB bs) 41 (0, 0))
theorem TagAt.below {w w' : World} {g : Nat} {bs : List UInt8} (h : TagAt w g bs) (hb : Below w.heap.size w w') : TagAt w' g bs := by
 refine ⟨h.1, ?_⟩
 have hlt := heap_at_lt h.2
 rw [hb.block g hlt]; exact h.2
theorem TagAt.cell {w : World} {g j : Nat} {bs : List UInt8} (h : TagAt w g bs) (hj : j < 32) : w.cell? ⟨g, j, none⟩ = some (.int .u8 (nth bs j : Int)) ∧ w.frozen? ⟨g, j, none⟩ = false := by
 refine ⟨?_, by simp [World.frozen?, h.2]⟩
 rw [cell_of_row _ _ j _ _ (0, 0) h.2]
 exact arrB_at (by rw [h.1]; exact hj)
theorem TagAt.set {w : World} {g j : Nat} {bs : List UInt8} (h : TagAt w g bs) (y : UInt8) : TagAt (w.setCell ⟨g, j, none⟩ (.int .u8 (y.toNat : Int))) g (bs.set j y) := by
 refine ⟨by rw [List.length_set]; exact h.1, ?_⟩
 rw [heap_setCell_same _ _ _ _ _ _ h.2, arrB_set]
theorem TagAt.other {w : World} {g : Nat} {bs : List UInt8} (h : TagAt w g bs) (a : Addr) (v : Value) (hne : g ≠ a.block) : TagAt (w.setCell a v) g bs :=
 ⟨h.1, (Below.heap_setCell w a v g hne).trans h.2⟩
theorem two_tags (w : World) (bs : List UInt8) (h : bs.length = 32) : TagAt ((w.alloc (.cells (arrB bs) 41)).alloc (.cells (arrB bs) 41)) w.heap.size bs ∧ TagAt ((w.alloc (.cells (arrB bs) 41)).alloc (.cells (arrB bs) 41)) (w.heap.size + 1) bs :=
 ⟨⟨h, (two_blocks w _ _ _).1⟩, ⟨h, (two_blocks w _ _ _).2⟩⟩
def PrintRel (w : World) (out : List UInt8) (i : Value) (wr : World) : Prop :=
 ∃ k : Nat, k ≤ 8 ∧ i = .int .i64 (k : Int) ∧ TagAt wr w.heap.size zeros32 ∧ TagAt wr (w.heap.size + 1) (fillB out (4 * k)) ∧ Below w.heap.size w wr
def PrintRel2 (w : World) (out : List UInt8) (k gz : Nat) (row : List UInt8) (i : Value) (wr : World) : Prop :=
 ∃ j : Nat, j ≤ 4 ∧ i = .int .i64 (j : Int) ∧ TagAt wr w.heap.size zeros32 ∧ TagAt wr (w.heap.size + 1) (fillB out (4 * k + j)) ∧ Rd wr (gz + 1) (some ⟨gz, 0, none⟩) 4 row ∧ Below w.heap.size w wr
end Go.Proofs.YtopilgedcnbdaaaDoor