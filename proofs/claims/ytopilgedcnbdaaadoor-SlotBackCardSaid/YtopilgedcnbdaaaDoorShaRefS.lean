/- Contracts of the document's own Sum and Chain (citadelref03). -/
import Derived.Test.YtopilgedcnbdaaaDoorTz
import Derived.Test.YtopilgedcnbdaaaDoorShaRefT
namespace Go.Proofs.YtopilgedcnbdaaaDoor
set_option maxRecDepth 1000000
set_option maxHeartbeats 8000000
open Go.RowKit
set_option linter.unusedVariables false
def SumRel (w1 : World) (all : List UInt8) (m : Nat) (s i : Value) (wr : World) : Prop :=
 ∃ (k : Nat) (A : Option Addr) (c : Nat), k ≤ m ∧ i = .int .i64 ((64 * k : Nat) : Int) ∧ s = .slice A 8 c ∧ RdK .u32 wr wr.heap.size A 8 (eatAll shaF all k) ∧ Below w1.heap.size w1 wr
end Go.Proofs.YtopilgedcnbdaaaDoor