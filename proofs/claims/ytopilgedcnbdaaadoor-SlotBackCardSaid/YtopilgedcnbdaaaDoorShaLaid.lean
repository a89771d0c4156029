/- The listed variable: what the row's condition says of it (the table of primes), and a start at which it holds. -/
import Derived.Test.YtopilgedcnbdaaaDoorTz
import Derived.Test.YtopilgedcnbdaaaDoorRows
import Derived.Test.YtopilgedcnbdaaaDoorArrAt
import Derived.Lib.LaidTab
import Derived.LaidMore
import Derived.MakeChecks
import Derived.Stop.Joined
import Derived.LaidLaws
namespace Go.Proofs.YtopilgedcnbdaaaDoor
set_option maxRecDepth 1000000
set_option maxHeartbeats 8000000
open Go.RowKit
set_option linter.unusedVariables false
def primeZ : List Int := primeL.map Int.ofNat
theorem primes_listed {H : Type} : (Rows.laid_citadel_sha_primes : DataW H) = Lib.tabData .u64 primeZ := by kernel_rfl
theorem primes_named : Tryd.prog.globalNamed "citadel/sha.primes" = some 0 := by kernel_rfl
theorem primes_typed : (Tryd.prog.globals[0]?).map (·.type) = some 88 := by kernel_rfl
theorem pr_of_laid {W : World} (h : laidMetH Tryd.prog [("citadel/sha.primes", Rows.laid_citadel_sha_primes)] W) : Pr W := by
 rw [MakeChecks.laidMetH_plain _ _ _ (by kernel_rfl)] at h
 rw [primes_listed] at h
 have hT := Lib.tabIs_of_head primes_named primes_typed Tryd.underlying88 Tryd.underlying87 (by kernel_rfl) (by kernel_rfl) h
 have hc : ∀ j, j < 64 → W.cell? ⟨0, j, none⟩ = some (.int .u64 (nx primeL j : Int)) := fun j hj => by
  rw [hT.cell primes_named j (by show j < 64; exact hj)]
  have : ∀ j, j < 64 → primeZ.getD j 0 = (nx primeL j : Int) := by decide +kernel
  rw [this j hj]
 exact ⟨cell_block (hc 0 (by decide)), hc⟩
theorem door_met (os : Os) (args : Array Value) : laidMetH Tryd.prog [("citadel/sha.primes", Rows.laid_citadel_sha_primes)] ((World.doorLaid Tryd.prog 400 os).forCall (fun _ _ => 0) ⟨#[], args, []⟩).memory :=
 laidMetH_of_parts3 (fuel := 8) (laidMet_of_run' 8 (by kernel_rfl) (by kernel_rfl)) (by kernel_rfl) (by kernel_rfl)
end Go.Proofs.YtopilgedcnbdaaaDoor