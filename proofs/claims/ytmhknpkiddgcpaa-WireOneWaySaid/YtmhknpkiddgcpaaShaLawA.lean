/- Contracts of the statements' own row and same (citadellaw03): a state as a row of numbers; is a state what a row says? -/
import Derived.Test.YtmhknpkiddgcpaaShaRefE
import Derived.Test.YtmhknpkiddgcpaaOpen
namespace Go.Proofs.Ytmhknpkiddgcpaa
open Go.RowKit
set_option linter.unusedVariables false

/-- The cells of an array of numbers. -/
def arrN (k : IntKind) (xs : List Nat) : Array Value := (xs.map (kv k)).toArray
theorem arrN_size (k : IntKind) (xs : List Nat) : (arrN k xs).size = xs.length := by simp [arrN]
theorem arrN_at {k : IntKind} {xs : List Nat} {j : Nat} (h : j < xs.length) : (arrN k xs)[j]? = some (.int k (nx xs j : Int)) := by
  simp [arrN, h, nx_of_lt h, kv]
theorem arrN_one (k : IntKind) (xs : List Nat) : (arrN k xs).all (·.oneCell') = true := by
  rw [Array.all_eq_true]
  intro i hi
  simp [arrN, kv]
  rfl

end Go.Proofs.Ytmhknpkiddgcpaa
