/-
  No cell of these rows narrows 'for every input' (looked for: loops, veiled, ifaces, maps, wideKeys, modest, calm, conditions, laid).
  DERIVED. THE GIVEN ROWS OF THIS SEAT. 5 by the template 'for every input the law returns true; each argument reads behind the call as it read before'; 0 by the template 'total and deterministic' (their statements: YtecedmjhhaabgaaTotals.lean).
  GIVEN WITH THE SEED: the statements are not yours to turn. If you find one false, say at which input.
  Laid BY PROGRAM, IN A SANDBOX (cutbox-rows.mjs): the forced cells as the released guide's own fill.sh prints them over the translation 5e3b1a0da58db6be… (all of the seat's roots in one cut). By AI agents, Wed Nov 11 2026. No macro, syntax, notation, axiom, sorry.
-/
import Derived.Test.YtecedmjhhaabgaaChecked
import GoSem.Claim
import GoSem.ClaimJoined
import GoSem.ClaimMapViews
import Derived.JoinedTies
import Derived.KernelRfl
namespace Go.Proofs.Ytecedmjhhaabgaa
/- THE CELL 'sum', in the pinned program and in every row, IS THE sha256 OF THE DUMP (.gsa) THAT YtecedmjhhaabgaaProg.lean LOADS. Nothing in Lean hashes anything: it is a label: what it is worth is what the hold of that sum in a sandbox is worth. -/
noncomputable def Try.pinned : Pinned := { name := "ytecedmjhhaabgaa", sum := "5e3b1a0da58db6bedb2173bb7ce2bb6e80b3d967eb8a0a404cab203551f56d99", checked := Try.checked }
namespace Rows
def none {H : Type} : Left H := { results := [], args := [] }

/-- 'citadellaw13.CompatChecks': WHATEVER THE INPUT: true; the input reads as it did. -/
def compatChecksSpec : ChangeSpec := { name := "compatChecks", fn := fun _ => fun
  | [d1, d2, d3] => { results := [.lit (.bool true)], args := [d1, d2, d3] }
  | _ => none }
def compatChecksRow : OpenClaim := { program := "ytecedmjhhaabgaa", sum := "5e3b1a0da58db6bedb2173bb7ce2bb6e80b3d967eb8a0a404cab203551f56d99", func := "citadel/citadellaw13.CompatChecks", spec := "compatChecks", unfollowed := true, recurses := true, apart := false }
def CompatChecksSaid : Prop := compatChecksRow.holds Try.pinned (OpenSpec.ofChange compatChecksSpec)

/-- ITS FALSE NEIGHBOUR: 'it returns false'. Refute it at one input. -/
def compatChecksWrong : ChangeSpec := { name := "compatChecks", fn := fun _ => fun
  | [d1, d2, d3] => { results := [.lit (.bool false)], args := [d1, d2, d3] }
  | _ => none }
def CompatChecksWrongFalsely : Prop := compatChecksRow.holds Try.pinned (OpenSpec.ofChange compatChecksWrong)

/-- 'citadellaw13.CompatLists': WHATEVER THE INPUT: true; the input reads as it did. -/
def compatListsSpec : ChangeSpec := { name := "compatLists", fn := fun _ => fun
  | [d1, d2] => { results := [.lit (.bool true)], args := [d1, d2] }
  | _ => none }
def compatListsRow : OpenClaim := { program := "ytecedmjhhaabgaa", sum := "5e3b1a0da58db6bedb2173bb7ce2bb6e80b3d967eb8a0a404cab203551f56d99", func := "citadel/citadellaw13.CompatLists", spec := "compatLists", unfollowed := true, recurses := true, apart := false }
def CompatListsSaid : Prop := compatListsRow.holds Try.pinned (OpenSpec.ofChange compatListsSpec)

/-- ITS FALSE NEIGHBOUR: 'it returns false'. Refute it at one input. -/
def compatListsWrong : ChangeSpec := { name := "compatLists", fn := fun _ => fun
  | [d1, d2] => { results := [.lit (.bool false)], args := [d1, d2] }
  | _ => none }
def CompatListsWrongFalsely : Prop := compatListsRow.holds Try.pinned (OpenSpec.ofChange compatListsWrong)

/-- 'citadellaw13.CompatTurned': WHATEVER THE INPUT: true; the input reads as it did. -/
def compatTurnedSpec : ChangeSpec := { name := "compatTurned", fn := fun _ => fun
  | [d1, d2] => { results := [.lit (.bool true)], args := [d1, d2] }
  | _ => none }
def compatTurnedRow : OpenClaim := { program := "ytecedmjhhaabgaa", sum := "5e3b1a0da58db6bedb2173bb7ce2bb6e80b3d967eb8a0a404cab203551f56d99", func := "citadel/citadellaw13.CompatTurned", spec := "compatTurned", unfollowed := true, recurses := true, apart := false }
def CompatTurnedSaid : Prop := compatTurnedRow.holds Try.pinned (OpenSpec.ofChange compatTurnedSpec)

/-- ITS FALSE NEIGHBOUR: 'it returns false'. Refute it at one input. -/
def compatTurnedWrong : ChangeSpec := { name := "compatTurned", fn := fun _ => fun
  | [d1, d2] => { results := [.lit (.bool false)], args := [d1, d2] }
  | _ => none }
def CompatTurnedWrongFalsely : Prop := compatTurnedRow.holds Try.pinned (OpenSpec.ofChange compatTurnedWrong)

/-- 'citadellaw13.CompatSelf': WHATEVER THE INPUT: true; the input reads as it did. -/
def compatSelfSpec : ChangeSpec := { name := "compatSelf", fn := fun _ => fun
  | [d] => { results := [.lit (.bool true)], args := [d] }
  | _ => none }
def compatSelfRow : OpenClaim := { program := "ytecedmjhhaabgaa", sum := "5e3b1a0da58db6bedb2173bb7ce2bb6e80b3d967eb8a0a404cab203551f56d99", func := "citadel/citadellaw13.CompatSelf", spec := "compatSelf", unfollowed := true, recurses := true, apart := false }
def CompatSelfSaid : Prop := compatSelfRow.holds Try.pinned (OpenSpec.ofChange compatSelfSpec)

/-- ITS FALSE NEIGHBOUR: 'it returns false'. Refute it at one input. -/
def compatSelfWrong : ChangeSpec := { name := "compatSelf", fn := fun _ => fun
  | [d] => { results := [.lit (.bool false)], args := [d] }
  | _ => none }
def CompatSelfWrongFalsely : Prop := compatSelfRow.holds Try.pinned (OpenSpec.ofChange compatSelfWrong)

/-- 'citadellaw13.CompatSplit': WHATEVER THE INPUT: true; the input reads as it did. -/
def compatSplitSpec : ChangeSpec := { name := "compatSplit", fn := fun _ => fun
  | [d1, d2] => { results := [.lit (.bool true)], args := [d1, d2] }
  | _ => none }
def compatSplitRow : OpenClaim := { program := "ytecedmjhhaabgaa", sum := "5e3b1a0da58db6bedb2173bb7ce2bb6e80b3d967eb8a0a404cab203551f56d99", func := "citadel/citadellaw13.CompatSplit", spec := "compatSplit", unfollowed := true, recurses := true, apart := false }
def CompatSplitSaid : Prop := compatSplitRow.holds Try.pinned (OpenSpec.ofChange compatSplitSpec)

/-- ITS FALSE NEIGHBOUR: 'it returns false'. Refute it at one input. -/
def compatSplitWrong : ChangeSpec := { name := "compatSplit", fn := fun _ => fun
  | [d1, d2] => { results := [.lit (.bool false)], args := [d1, d2] }
  | _ => none }
def CompatSplitWrongFalsely : Prop := compatSplitRow.holds Try.pinned (OpenSpec.ofChange compatSplitWrong)

/- THE SECOND FORM. 'bulk': how many values and letters a reading holds, each counted each time it is reached (what is shared counts as often as it is met; a slice's spare places count too). A statement '..UptoSaid' is the law's where the arguments, and the package variables that the reading takes, are together of bulk at most 1048576: NARROWER than '..Said'. Prove '..Said' where nothing that the law and all that it calls make is longer than what came in: it says more and counts as full. Else prove '..UptoSaid'. A law counts once. -/
mutual
def uptoBulk {H : Type} : DataW H → Nat
  | .lit (.string bytes) => bytes.length + 1
  | .lit _ => 1
  | .nil => 1
  | .ptr d => uptoBulk d + 1
  | .slice elems spare => uptoBulkAll elems + uptoBulkAll spare + 1
  | .agg parts => uptoBulkAll parts + 1
  | .iface _ d => uptoBulk d + 1
  | .map entries => uptoBulkEntries entries + 1
  | .held _ => 1
def uptoBulkAll {H : Type} : List (DataW H) → Nat
  | [] => 0
  | d :: r => uptoBulk d + uptoBulkAll r
def uptoBulkEntries {H : Type} : List (Lit × DataW H) → Nat
  | [] => 0
  | x :: r => uptoBulkEntry x + uptoBulkEntries r
def uptoBulkEntry {H : Type} : Lit × DataW H → Nat
  | (.string bytes, d) => bytes.length + uptoBulk d + 1
  | (_, d) => uptoBulk d + 1
 end
def uptoSmall : (H : Type) → List (DataW H) → Bool := fun _ ds => decide (uptoBulkAll ds ≤ 1048576)
def OpenSpec.upto (s : _root_.Go.ChangeSpec) : _root_.Go.OpenSpec := { _root_.Go.OpenSpec.ofChange s with cond := some uptoSmall }

/-- 'citadellaw13.CompatChecks', WHERE WHAT IT READS IS OF BULK AT MOST 1048576: true; the input reads as it did. -/
def compatChecksUptoRow : OpenClaim := { program := "ytecedmjhhaabgaa", sum := "5e3b1a0da58db6bedb2173bb7ce2bb6e80b3d967eb8a0a404cab203551f56d99", func := "citadel/citadellaw13.CompatChecks", spec := "compatChecks", unfollowed := true, recurses := true, apart := false, narrowed := true }
def CompatChecksUptoSaid : Prop := compatChecksUptoRow.holds Try.pinned (OpenSpec.upto compatChecksSpec)

/-- 'citadellaw13.CompatLists', WHERE WHAT IT READS IS OF BULK AT MOST 1048576: true; the input reads as it did. -/
def compatListsUptoRow : OpenClaim := { program := "ytecedmjhhaabgaa", sum := "5e3b1a0da58db6bedb2173bb7ce2bb6e80b3d967eb8a0a404cab203551f56d99", func := "citadel/citadellaw13.CompatLists", spec := "compatLists", unfollowed := true, recurses := true, apart := false, narrowed := true }
def CompatListsUptoSaid : Prop := compatListsUptoRow.holds Try.pinned (OpenSpec.upto compatListsSpec)

/-- 'citadellaw13.CompatTurned', WHERE WHAT IT READS IS OF BULK AT MOST 1048576: true; the input reads as it did. -/
def compatTurnedUptoRow : OpenClaim := { program := "ytecedmjhhaabgaa", sum := "5e3b1a0da58db6bedb2173bb7ce2bb6e80b3d967eb8a0a404cab203551f56d99", func := "citadel/citadellaw13.CompatTurned", spec := "compatTurned", unfollowed := true, recurses := true, apart := false, narrowed := true }
def CompatTurnedUptoSaid : Prop := compatTurnedUptoRow.holds Try.pinned (OpenSpec.upto compatTurnedSpec)

/-- 'citadellaw13.CompatSelf', WHERE WHAT IT READS IS OF BULK AT MOST 1048576: true; the input reads as it did. -/
def compatSelfUptoRow : OpenClaim := { program := "ytecedmjhhaabgaa", sum := "5e3b1a0da58db6bedb2173bb7ce2bb6e80b3d967eb8a0a404cab203551f56d99", func := "citadel/citadellaw13.CompatSelf", spec := "compatSelf", unfollowed := true, recurses := true, apart := false, narrowed := true }
def CompatSelfUptoSaid : Prop := compatSelfUptoRow.holds Try.pinned (OpenSpec.upto compatSelfSpec)

/-- 'citadellaw13.CompatSplit', WHERE WHAT IT READS IS OF BULK AT MOST 1048576: true; the input reads as it did. -/
def compatSplitUptoRow : OpenClaim := { program := "ytecedmjhhaabgaa", sum := "5e3b1a0da58db6bedb2173bb7ce2bb6e80b3d967eb8a0a404cab203551f56d99", func := "citadel/citadellaw13.CompatSplit", spec := "compatSplit", unfollowed := true, recurses := true, apart := false, narrowed := true }
def CompatSplitUptoSaid : Prop := compatSplitUptoRow.holds Try.pinned (OpenSpec.upto compatSplitSpec)

end Rows
end Go.Proofs.Ytecedmjhhaabgaa
