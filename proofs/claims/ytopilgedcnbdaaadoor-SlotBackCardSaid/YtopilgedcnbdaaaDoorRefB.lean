/- Contracts of the document's own number functions (citadelref01): Put, Number, Load. -/
import Derived.Test.YtopilgedcnbdaaaDoorTz
import Derived.Test.YtopilgedcnbdaaaDoorRefA
import Derived.Test.YtopilgedcnbdaaaDoorNum
namespace Go.Proofs.YtopilgedcnbdaaaDoor
set_option maxRecDepth 1000000
set_option maxHeartbeats 8000000
open Go.RowKit
set_option linter.unusedVariables false
def PutRel (B n : Nat) (w : World) (x : Nat) (y v i : Value) (wr : World) : Prop :=
 ∃ k : Nat, k ≤ n ∧ i = .int .i64 k ∧ y = .int .u64 ((x / 256 ^ k : Nat) : Int) ∧ wr.ownsRow B 5 1 v k ((enc x k).reverse.map bval) ∧ Below B w wr
def PutRel2 (B n : Nat) (w : World) (bs : List UInt8) (v i : Value) (wr : World) : Prop :=
 ∃ j : Nat, j ≤ n ∧ i = .int .i64 ((n : Int) - 1 - j) ∧ wr.ownsRow B 5 1 v j ((bs.take j).map bval) ∧ Below B w wr
def RNumRel (n : Nat) (bs : List UInt8) (x u i : Value) : Prop :=
 ∃ j : Nat, j ≤ n ∧ i = .int .i64 ((n : Int) - 1 - j) ∧ x = .int .u64 ((num (bs.drop (n - j)) : Nat) : Int) ∧ u = .int .u64 ((256 ^ j % 18446744073709551616 : Nat) : Int)
def numOf (bs : List UInt8) : Nat := if bs.length = 0 ∨ 8 < bs.length then 0 else num bs
def numOk (bs : List UInt8) : Bool := decide (0 < bs.length ∧ bs.length ≤ 8)
def loadOf (bs : List UInt8) (at_ : Int) (k : Nat) : Nat := if 0 ≤ at_ ∧ at_ + k ≤ bs.length then num ((bs.drop at_.toNat).take k) else 0
def loadOk (bs : List UInt8) (at_ : Int) (k : Nat) : Bool := decide (0 ≤ at_ ∧ at_ + k ≤ bs.length)
theorem loadOf_no {bs : List UInt8} {at_ : Int} {k : Nat} (h : ¬ (0 ≤ at_ ∧ at_ + k ≤ bs.length)) : loadOf bs at_ k = 0 ∧ loadOk bs at_ k = false := by
 exact ⟨if_neg h, decide_eq_false h⟩
theorem loadOf_yes {bs : List UInt8} {p k : Nat} (h : p + k ≤ bs.length) (hk : 0 < k) (h8 : k ≤ 8) :
  loadOf bs p k = numOf ((bs.take (p + k)).drop p) ∧ loadOk bs p k = true ∧ numOk ((bs.take (p + k)).drop p) = true := by
 have h' : (0 : Int) ≤ (p : Int) ∧ (p : Int) + k ≤ bs.length := by omega
 have hl : ((bs.take (p + k)).drop p).length = k := by simp; omega
 refine ⟨?_, ?_, ?_⟩
 ·simp only [loadOf, if_pos h', numOf, hl]
  rw [if_neg (by omega), Int.toNat_natCast, List.drop_take]
  congr 2; omega
 ·simp only [loadOk]; exact decide_eq_true h'
 ·simp only [numOk, hl]; exact decide_eq_true ⟨hk, h8⟩
end Go.Proofs.YtopilgedcnbdaaaDoor