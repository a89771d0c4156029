/- Slots: bytes and an error's number, handed back. -/
import Derived.Test.YtopilgedcnbdaaaTz
import Derived.Test.YtopilgedcnbdaaaRefA
namespace Go.Proofs.Ytopilgedcnbdaaa
set_option maxRecDepth 1000000
set_option maxHeartbeats 8000000
open Go.RowKit
set_option linter.unusedVariables false
def RetE (w : World) (x : List UInt8 × Int) (e : Ending) (w' : World) : Prop :=
 ∃ A m c, e = .returned (.tuple #[.slice A m c, .int .i64 x.2]) ∧ Rd w' w'.heap.size A m x.1 ∧ m ≤ c ∧ c ≤ 9223372036854775807 ∧ Below w.heap.size w w'
theorem res_twoS {fn : Func} {p q : Tmp} (h : fn.results = #[.tmp p, .tmp q]) (tmps : Array Value) (w : World) (u v : Value) (hp : tmps.getD p undef = u) (hq : tmps.getD q undef = v) : (results fn tmps).run Try.prog w = .ok (.tuple #[u, v]) w := by
 have hp' : tmps[p]?.getD undef = u := by simpa using hp
 have hq' : tmps[q]?.getD undef = v := by simpa using hq
 simp [results, h, hp', hq']
end Go.Proofs.Ytopilgedcnbdaaa