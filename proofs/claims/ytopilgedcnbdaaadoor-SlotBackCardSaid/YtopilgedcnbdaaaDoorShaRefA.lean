/- Contracts of the document's own SHA functions (citadelref03): turn, table, First, numbers. -/
import Derived.Test.YtopilgedcnbdaaaDoorTz
import Derived.Test.YtopilgedcnbdaaaDoorRefB
import Derived.Test.YtopilgedcnbdaaaDoorShaM
import Derived.Test.YtopilgedcnbdaaaDoorSlice
import Derived.Deep.RegionHeld3
namespace Go.Proofs.YtopilgedcnbdaaaDoor
set_option maxRecDepth 1000000
set_option maxHeartbeats 8000000
open Go.RowKit
set_option linter.unusedVariables false
theorem pow_lt32 {n : Nat} (h : n < 32) : 2 ^ n < 4294967296 := Nat.lt_of_le_of_lt (Nat.pow_le_pow_right (by decide) (show n ≤ 31 by omega)) (by decide)
theorem pow_int {n : Nat} (h : n < 32) : (2 : Int) ^ n % 4294967296 = ((2 ^ n : Nat) : Int) := by
 have h1 := pow_lt32 h
 have h2 : (2 : Int) ^ n = ((2 ^ n : Nat) : Int) := by norm_cast
 rw [h2]
 generalize 2 ^ n = p at h1 ⊢
 omega
theorem turn_val {x n : Nat} (h1 : 0 < n) (h2 : n < 32) :
  (((x : Int) / (2 ^ n % 4294967296) % 4294967296 + (x : Int) * (2 ^ (32 - n) % 4294967296) % 4294967296) % 4294967296) = (rotr x n : Int) := by
 rw [pow_int h2, pow_int (n := 32 - n) (by omega), ← Int.natCast_ediv, ← Int.natCast_mul]
 unfold rotr
 omega
end Go.Proofs.YtopilgedcnbdaaaDoor