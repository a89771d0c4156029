/- The contract of the document's own numbers (citadelref03): the 64 numbers of a block. -/
import Derived.Test.YtopilgedcnbdaaaDoorTz
import Derived.Test.YtopilgedcnbdaaaDoorShaRefA
namespace Go.Proofs.YtopilgedcnbdaaaDoor
set_option maxRecDepth 1000000
set_option maxHeartbeats 8000000
open Go.RowKit
set_option linter.unusedVariables false
def NumsRel (B : Nat) (w : World) (blk : List UInt8) (v i : Value) (wr : World) : Prop :=
 ∃ k : Nat, k ≤ 64 ∧ i = .int .i64 (k : Int) ∧ wr.ownsRow B 65 1 v k ((numsW blk k).map (kv .u32)) ∧ Below B w wr
theorem loadOf_num {blk : List UInt8} {k : Nat} (hl : blk.length = 64) (hk : k < 16) : loadOf blk (4 * (k : Int)) 4 = nextW blk (numsW blk k) := by
 unfold loadOf nextW
 rw [numsW_len, if_pos (by omega), if_pos hk, show (4 * (k : Int)).toNat = 4 * k from by omega]
theorem nextW_lt (blk : List UInt8) (k : Nat) : nextW blk (numsW blk k) < 4294967296 := by
 have h := numsW_lt blk (k + 1) k
 rw [numsW] at h
 have e := nx_last (numsW blk k) (nextW blk (numsW blk k))
 rw [numsW_len] at e
 rw [e] at h; exact h
theorem u32_xors {a b c : Nat} (ha : a < 4294967296) (hb : b < 4294967296) (hc : c < 4294967296) :
  bits .xor .u32 (bits .xor .u32 (a : Int) (b : Int)) (c : Int) = ((a ^^^ b ^^^ c : Nat) : Int) := by
 rw [u32_xor_nat _ _ ha hb, u32_xor_nat _ _ (Nat.xor_lt_two_pow (n := 32) ha hb) hc]
end Go.Proofs.YtopilgedcnbdaaaDoor