/- Contracts of the statements' own row and same (citadellaw03): a state as a row of numbers; is a state what a row says? -/
import Derived.Test.YtopilgedcnbdaaaDoorTz
import Derived.Test.YtopilgedcnbdaaaDoorShaRefE
import Derived.Test.YtopilgedcnbdaaaDoorOpen
namespace Go.Proofs.YtopilgedcnbdaaaDoor
set_option maxRecDepth 1000000
set_option maxHeartbeats 8000000
open Go.RowKit
set_option linter.unusedVariables false
def arrN (k : IntKind) (xs : List Nat) : Array Value := (xs.map (kv k)).toArray
theorem arrN_size (k : IntKind) (xs : List Nat) : (arrN k xs).size = xs.length := by simp [arrN]
theorem arrN_at {k : IntKind} {xs : List Nat} {j : Nat} (h : j < xs.length) : (arrN k xs)[j]? = some (.int k (nx xs j : Int)) := by
 simp [arrN, h, nx_of_lt h, kv]
theorem arrN_one (k : IntKind) (xs : List Nat) : (arrN k xs).all (·.oneCell') = true := by
 rw [Array.all_eq_true]
 intro i hi
 simp [arrN, kv]
 rfl
def RowRel3 (w : World) (s : List Nat) (v i : Value) (wr : World) : Prop :=
 ∃ k : Nat, k ≤ 8 ∧ i = .int .i64 (k : Int) ∧ wr.ownsRow (w.heap.size + 1) 65 1 v k ((s.take k).map (kv .u32)) ∧ wr.heap[w.heap.size]? = some (.cells (arrN .u32 s) 81 (0, 0)) ∧ Below (w.heap.size + 1) (w.alloc (.cells (arrN .u32 s) 81)) wr
def SameRel (w : World) (s l : List Nat) (i : Value) (wr : World) : Prop :=
 ∃ k : Nat, k ≤ 8 ∧ i = .int .i64 (k : Int) ∧ s.take k = l.take k ∧ ∃ q, wr = (w.alloc (.cells (arrN .u32 s) 81)).drewN q
end Go.Proofs.YtopilgedcnbdaaaDoor