/- Contracts of the document's own SHA functions (citadelref03): turn, table, First, numbers. -/
import Derived.Test.YtopilgedcnbdaaaGreatDoorTz
import Derived.Test.YtopilgedcnbdaaaGreatDoorRefB
import Derived.Test.YtopilgedcnbdaaaGreatDoorShaM
import Derived.Test.YtopilgedcnbdaaaGreatDoorSlice
import Derived.Deep.RegionHeld3
namespace Go.Proofs.YtopilgedcnbdaaaGreatDoor
set_option maxRecDepth 1000000
set_option maxHeartbeats 8000000
open Go.RowKit
set_option linter.unusedVariables false
theorem isU32 : KT Tryz.prog 83 100 .u32 4 := ⟨Tryz.underlying83, by kernel_rfl, by decide⟩
theorem pow_lt32 {n : Nat} (h : n < 32) : 2 ^ n < 4294967296 := Nat.lt_of_le_of_lt (Nat.pow_le_pow_right (by decide) (show n ≤ 31 by omega)) (by decide)
theorem pow_int {n : Nat} (h : n < 32) : (2 : Int) ^ n % 4294967296 = ((2 ^ n : Nat) : Int) := by
 have h1 := pow_lt32 h
 have h2 : (2 : Int) ^ n = ((2 ^ n : Nat) : Int) := by norm_cast
 rw [h2]
 generalize 2 ^ n = p at h1 ⊢
 omega
theorem turn_val {x n : Nat} (h1 : 0 < n) (h2 : n < 32) :
  (((x : Int) / (2 ^ n % 4294967296) % 4294967296 + (x : Int) * (2 ^ (32 - n) % 4294967296) % 4294967296) % 4294967296) = (rotr x n : Int) := by
 rw [pow_int h2, pow_int (n := 32 - n) (by omega), ← Int.natCast_ediv, ← Int.natCast_mul]
 unfold rotr
 omega
theorem rTurn (x n : Nat) (w : World) (hx : x < 4294967296) (h1 : 0 < n) (h2 : n < 32) :
  Calls Tryz.prog 64 #[.int .u32 (x : Int), .int .u64 (n : Int)] w fun e w' => e = .returned (.int .u32 (rotr x n : Int)) ∧ w = w' := by
 have hv := qH (turn_val (x := x) h1 h2)
 have hz : ¬ ((2 : Int) ^ n % 4294967296 = 0) := by
  rw [pow_int h2]
  have := Nat.pow_pos (n := n) (show 0 < 2 by decide)
  generalize 2 ^ n = p at this ⊢
  omega
 go_enter Tryz.func64, Tryz.ntmps64
 go_wp2
 go_ret
 exact ⟨by rw [← hv.out]; rfl, rfl⟩
theorem wFirstRow (w : World) : Calls Tryz.prog 40 #[] w fun e w' => RetK .u32 100 w shaF e w' := by
 go_enter Tryz.func40, Tryz.ntmps40
 go_wp2
 go_ret
 exact RetK.mk (own_top (shaF.map (kv .u32)) 100 (Nat.le_refl _) (kvs_one _ _) (by decide)) ((Below.refl _ _).alloc (Nat.le_refl _) _)
theorem rTable (w : World) : Calls Tryz.prog 63 #[] w fun e w' => RetK .u32 100 w shaK e w' := by
 go_enter Tryz.func63, Tryz.ntmps63
 go_wp2
 go_ret
 exact RetK.mk (own_top (shaK.map (kv .u32)) 100 (Nat.le_refl _) (kvs_one _ _) (by decide)) ((Below.refl _ _).alloc (Nat.le_refl _) _)
end Go.Proofs.YtopilgedcnbdaaaGreatDoor