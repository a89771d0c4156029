/- Contracts of the document's own byte-slice functions (citadelref01): Cat, Copy, order, Same, Ahead: what each returns for slices that read as given lists. -/
import Derived.Test.YtopilgedcnbdaaaDoorTz
import Derived.Test.YtopilgedcnbdaaaDoorChecked
import Derived.Test.YtopilgedcnbdaaaDoorBase
namespace Go.Proofs.YtopilgedcnbdaaaDoor
set_option maxRecDepth 1000000
set_option maxHeartbeats 8000000
open Go.RowKit
set_option linter.unusedVariables false
theorem isU8 : U8 Tryd.prog 22 5 := ⟨Tryd.underlying22, by kernel_rfl⟩
def CatRel (B n p : Nat) (w : World) (pre bs : List UInt8) (v i : Value) (wr : World) : Prop :=
 ∃ k : Nat, k ≤ n ∧ i = .int .i64 k ∧ wr.ownsRow B 5 1 v (p + k) ((pre ++ bs.take k).map bval) ∧ Below B w wr
def OrdRel (n m : Nat) (w : World) (xs ys : List UInt8) (i : Value) (wr : World) : Prop :=
 ∃ k : Nat, k ≤ n ∧ k ≤ m ∧ i = .int .i64 k ∧ xs.take k = ys.take k ∧ ∃ q, wr = w.drewN q
end Go.Proofs.YtopilgedcnbdaaaDoor