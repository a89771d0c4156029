/- The contract of the document's own Hex (citadelref03). -/
import Derived.Test.YtopilgedcnbdaaaDoorTz
import Derived.Test.YtopilgedcnbdaaaDoorShaRefT
import Derived.Laws.BytesString
namespace Go.Proofs.YtopilgedcnbdaaaDoor
set_option maxRecDepth 1000000
set_option maxHeartbeats 8000000
open Go.RowKit
set_option linter.unusedVariables false
def hexD (d : Nat) : UInt8 := if d < 10 then UInt8.ofNat (48 + d) else UInt8.ofNat (87 + d)
def hex2 (b : UInt8) : List UInt8 := [hexD (b.toNat / 16), hexD (b.toNat % 16)]
def hexL (bs : List UInt8) : List UInt8 := (bs.map hex2).flatten
def strB (l : List UInt8) : ByteArray := ⟨l.toArray⟩
theorem strB_size (l : List UInt8) : (strB l).size = l.length := by simp [strB, ByteArray.size]
theorem strB_add (a b : List UInt8) : strB a ++ strB b = strB (a ++ b) := by
 apply ByteArray.ext
 simp [strB, ByteArray.data_append]
theorem strB_nums (l : List UInt8) : strOfNums (numsOf l) = strB l := by
 apply ByteArray.ext
 apply Array.toList_inj.1
 rw [strOfNums_data]
 show List.map _ (List.map _ l) = l
 rw [List.map_map]
 have : ((fun n : Int => UInt8.ofNat n.toNat) ∘ fun b : UInt8 => (b.toNat : Int)) = id := by funext b; simp
 rw [this, List.map_id]
theorem convB (w : World) (y : UInt8) : (convert 22 9 (.slice (some ⟨w.heap.size, 0, none⟩) 1 1)).run Tryd.prog (w.alloc (.cells #[.int .u8 (y.toNat : Int)] 5)) = .ok (.string (strB [y])) (w.alloc (.cells #[.int .u8 (y.toNat : Int)] 5)) := by
 have r := Rd.lit (w := w) [y] [.int .u8 (y.toNat : Int)] 5 rfl
 have h := r.conv 1 22 5 9 Tryd.underlying22 Tryd.underlying5 Tryd.underlying9
 rw [strB_nums] at h
 exact h
theorem hexL_snoc {bs : List UInt8} {k : Nat} (h : k < bs.length) : hexL (bs.take (k + 1)) = hexL (bs.take k) ++ [hexD (nth bs k / 16)] ++ [hexD (nth bs k % 16)] := by
 rw [take_snoc_b h, nth_of_lt h]
 unfold hexL
 rw [List.map_append, List.flatten_append, List.append_assoc]
 rfl
theorem hexL_len (bs : List UInt8) : (hexL bs).length = 2 * bs.length := by
 induction bs with
 | nil => rfl
 | cons b bs ih => simp only [hexL, List.map_cons, List.flatten_cons, List.length_append, List.length_cons] at ih ⊢; rw [ih]; simp [hex2]; omega
theorem hexD_lo {d : Nat} (h : d < 10) : 48 + (d : Int) = ((hexD d).toNat : Int) := by
 unfold hexD
 rw [if_pos h, ← u8_mod]; omega
theorem hexD_hi {d : Nat} (h : ¬ d < 10) (h16 : d < 16) : 97 + (d : Int) - 10 = ((hexD d).toNat : Int) := by
 unfold hexD
 rw [if_neg h, ← u8_mod]; omega
def HexRel2 (w : World) (bs : List UInt8) (k : Nat) (s i : Value) (wr : World) : Prop :=
 ∃ j : Nat, j ≤ 2 ∧ i = .int .i64 (j : Int) ∧ s = .string (strB (hexL (bs.take k) ++ (hex2 (bs.getD k 0)).take j)) ∧ TagAt wr w.heap.size bs ∧ Below w.heap.size w wr
def HexRel (w : World) (bs : List UInt8) (s i : Value) (wr : World) : Prop :=
 ∃ k : Nat, k ≤ 32 ∧ i = .int .i64 (k : Int) ∧ s = .string (strB (hexL (bs.take k))) ∧ TagAt wr w.heap.size bs ∧ Below w.heap.size w wr
end Go.Proofs.YtopilgedcnbdaaaDoor