/-
  No cell of these rows narrows 'for every input' (looked for: loops, veiled, ifaces, maps, wideKeys, modest, calm, conditions, laid).
  DERIVED. THE GIVEN ROWS OF THIS SEAT. 6 by the template 'for every input the law returns true; each argument reads behind the call as it read before'; 0 by the template 'total and deterministic' (their statements: YtffdjnhhmfpkgaaGreatTotals.lean).
  GIVEN WITH THE SEED: the statements are not yours to turn. If you find one false, say at which input.
  Laid BY PROGRAM, IN A SANDBOX (cutbox-rows.mjs): the forced cells as the released guide's own fill.sh prints them over the translation ff6e110890a41c78… (all of the seat's roots in one cut). By AI agents, Wed Nov 11 2026. No macro, syntax, notation, axiom, sorry.
-/
import Derived.Test.YtffdjnhhmfpkgaaGreatChecked
import GoSem.Claim
import GoSem.ClaimJoined
import GoSem.ClaimMapViews
import Derived.JoinedTies
import Derived.KernelRfl
namespace Go.Proofs.YtffdjnhhmfpkgaaGreat
/- THE CELL 'sum', in the pinned program and in every row, IS THE sha256 OF THE DUMP (.gsa) THAT YtffdjnhhmfpkgaaGreatProg.lean LOADS. Nothing in Lean hashes anything: it is a label: what it is worth is what the hold of that sum in a sandbox is worth. -/
noncomputable def Tryz.pinned : Pinned := { name := "ytffdjnhhmfpkgaagreat", sum := "ff6e110890a41c78858d2bb2b7e8d4e7b0228cc9ea427f0684f0a8c16f58a2e6", checked := Tryz.checked }
namespace Rows
def none {H : Type} : Left H := { results := [], args := [] }

/-- 'citadellaw16.CommitPlays': WHATEVER THE INPUT: true; the input reads as it did. -/
def commitPlaysSpec : ChangeSpec := { name := "commitPlays", fn := fun _ => fun
  | [d1, d2] => { results := [.lit (.bool true)], args := [d1, d2] }
  | _ => none }
def commitPlaysRow : OpenClaim := { program := "ytffdjnhhmfpkgaagreat", sum := "ff6e110890a41c78858d2bb2b7e8d4e7b0228cc9ea427f0684f0a8c16f58a2e6", func := "citadel/citadellaw16.CommitPlays", spec := "commitPlays", unfollowed := true, recurses := true, apart := false }
def CommitPlaysSaid : Prop := commitPlaysRow.holds Tryz.pinned (OpenSpec.ofChange commitPlaysSpec)

/-- ITS FALSE NEIGHBOUR: 'it returns false'. Refute it at one input. -/
def commitPlaysWrong : ChangeSpec := { name := "commitPlays", fn := fun _ => fun
  | [d1, d2] => { results := [.lit (.bool false)], args := [d1, d2] }
  | _ => none }
def CommitPlaysWrongFalsely : Prop := commitPlaysRow.holds Tryz.pinned (OpenSpec.ofChange commitPlaysWrong)

/-- 'citadellaw16.CommitNil': WHATEVER THE INPUT: true; the input reads as it did. -/
def commitNilSpec : ChangeSpec := { name := "commitNil", fn := fun _ => fun
  | [d] => { results := [.lit (.bool true)], args := [d] }
  | _ => none }
def commitNilRow : OpenClaim := { program := "ytffdjnhhmfpkgaagreat", sum := "ff6e110890a41c78858d2bb2b7e8d4e7b0228cc9ea427f0684f0a8c16f58a2e6", func := "citadel/citadellaw16.CommitNil", spec := "commitNil", unfollowed := true, recurses := true, apart := false }
def CommitNilSaid : Prop := commitNilRow.holds Tryz.pinned (OpenSpec.ofChange commitNilSpec)

/-- ITS FALSE NEIGHBOUR: 'it returns false'. Refute it at one input. -/
def commitNilWrong : ChangeSpec := { name := "commitNil", fn := fun _ => fun
  | [d] => { results := [.lit (.bool false)], args := [d] }
  | _ => none }
def CommitNilWrongFalsely : Prop := commitNilRow.holds Tryz.pinned (OpenSpec.ofChange commitNilWrong)

/-- 'citadellaw16.CommitOne': WHATEVER THE INPUT: true; the input reads as it did. -/
def commitOneSpec : ChangeSpec := { name := "commitOne", fn := fun _ => fun
  | [d1, d2, d3, d4, d5] => { results := [.lit (.bool true)], args := [d1, d2, d3, d4, d5] }
  | _ => none }
def commitOneRow : OpenClaim := { program := "ytffdjnhhmfpkgaagreat", sum := "ff6e110890a41c78858d2bb2b7e8d4e7b0228cc9ea427f0684f0a8c16f58a2e6", func := "citadel/citadellaw16.CommitOne", spec := "commitOne", unfollowed := true, recurses := true, apart := false }
def CommitOneSaid : Prop := commitOneRow.holds Tryz.pinned (OpenSpec.ofChange commitOneSpec)

/-- ITS FALSE NEIGHBOUR: 'it returns false'. Refute it at one input. -/
def commitOneWrong : ChangeSpec := { name := "commitOne", fn := fun _ => fun
  | [d1, d2, d3, d4, d5] => { results := [.lit (.bool false)], args := [d1, d2, d3, d4, d5] }
  | _ => none }
def CommitOneWrongFalsely : Prop := commitOneRow.holds Tryz.pinned (OpenSpec.ofChange commitOneWrong)

/-- 'citadellaw16.CommitBack': WHATEVER THE INPUT: true; the input reads as it did. -/
def commitBackSpec : ChangeSpec := { name := "commitBack", fn := fun _ => fun
  | [d1, d2] => { results := [.lit (.bool true)], args := [d1, d2] }
  | _ => none }
def commitBackRow : OpenClaim := { program := "ytffdjnhhmfpkgaagreat", sum := "ff6e110890a41c78858d2bb2b7e8d4e7b0228cc9ea427f0684f0a8c16f58a2e6", func := "citadel/citadellaw16.CommitBack", spec := "commitBack", unfollowed := true, recurses := true, apart := false }
def CommitBackSaid : Prop := commitBackRow.holds Tryz.pinned (OpenSpec.ofChange commitBackSpec)

/-- ITS FALSE NEIGHBOUR: 'it returns false'. Refute it at one input. -/
def commitBackWrong : ChangeSpec := { name := "commitBack", fn := fun _ => fun
  | [d1, d2] => { results := [.lit (.bool false)], args := [d1, d2] }
  | _ => none }
def CommitBackWrongFalsely : Prop := commitBackRow.holds Tryz.pinned (OpenSpec.ofChange commitBackWrong)

/-- 'citadellaw16.CommitGap': WHATEVER THE INPUT: true; the input reads as it did. -/
def commitGapSpec : ChangeSpec := { name := "commitGap", fn := fun _ => fun
  | [d1, d2] => { results := [.lit (.bool true)], args := [d1, d2] }
  | _ => none }
def commitGapRow : OpenClaim := { program := "ytffdjnhhmfpkgaagreat", sum := "ff6e110890a41c78858d2bb2b7e8d4e7b0228cc9ea427f0684f0a8c16f58a2e6", func := "citadel/citadellaw16.CommitGap", spec := "commitGap", unfollowed := true, recurses := true, apart := false }
def CommitGapSaid : Prop := commitGapRow.holds Tryz.pinned (OpenSpec.ofChange commitGapSpec)

/-- ITS FALSE NEIGHBOUR: 'it returns false'. Refute it at one input. -/
def commitGapWrong : ChangeSpec := { name := "commitGap", fn := fun _ => fun
  | [d1, d2] => { results := [.lit (.bool false)], args := [d1, d2] }
  | _ => none }
def CommitGapWrongFalsely : Prop := commitGapRow.holds Tryz.pinned (OpenSpec.ofChange commitGapWrong)

/-- 'citadellaw16.CommitOther': WHATEVER THE INPUT: true; the input reads as it did. -/
def commitOtherSpec : ChangeSpec := { name := "commitOther", fn := fun _ => fun
  | [d1, d2, d3, d4] => { results := [.lit (.bool true)], args := [d1, d2, d3, d4] }
  | _ => none }
def commitOtherRow : OpenClaim := { program := "ytffdjnhhmfpkgaagreat", sum := "ff6e110890a41c78858d2bb2b7e8d4e7b0228cc9ea427f0684f0a8c16f58a2e6", func := "citadel/citadellaw16.CommitOther", spec := "commitOther", unfollowed := true, recurses := true, apart := false }
def CommitOtherSaid : Prop := commitOtherRow.holds Tryz.pinned (OpenSpec.ofChange commitOtherSpec)

/-- ITS FALSE NEIGHBOUR: 'it returns false'. Refute it at one input. -/
def commitOtherWrong : ChangeSpec := { name := "commitOther", fn := fun _ => fun
  | [d1, d2, d3, d4] => { results := [.lit (.bool false)], args := [d1, d2, d3, d4] }
  | _ => none }
def CommitOtherWrongFalsely : Prop := commitOtherRow.holds Tryz.pinned (OpenSpec.ofChange commitOtherWrong)

/- THE SECOND FORM. 'bulk': how many values and letters a reading holds, each counted each time it is reached (what is shared counts as often as it is met; a slice's spare places count too). A statement '..UptoSaid' is the law's where the arguments, and the package variables that the reading takes, are together of bulk at most 1048576: NARROWER than '..Said'. Prove '..Said' where nothing that the law and all that it calls make is longer than what came in: it says more and counts as full. Else prove '..UptoSaid'. A law counts once. -/
mutual
def uptoBulk {H : Type} : DataW H → Nat
  | .lit (.string bytes) => bytes.length + 1
  | .lit _ => 1
  | .nil => 1
  | .ptr d => uptoBulk d + 1
  | .slice elems spare => uptoBulkAll elems + uptoBulkAll spare + 1
  | .agg parts => uptoBulkAll parts + 1
  | .iface _ d => uptoBulk d + 1
  | .map entries => uptoBulkEntries entries + 1
  | .held _ => 1
def uptoBulkAll {H : Type} : List (DataW H) → Nat
  | [] => 0
  | d :: r => uptoBulk d + uptoBulkAll r
def uptoBulkEntries {H : Type} : List (Lit × DataW H) → Nat
  | [] => 0
  | x :: r => uptoBulkEntry x + uptoBulkEntries r
def uptoBulkEntry {H : Type} : Lit × DataW H → Nat
  | (.string bytes, d) => bytes.length + uptoBulk d + 1
  | (_, d) => uptoBulk d + 1
 end
def uptoSmall : (H : Type) → List (DataW H) → Bool := fun _ ds => decide (uptoBulkAll ds ≤ 1048576)
def OpenSpec.upto (s : _root_.Go.ChangeSpec) : _root_.Go.OpenSpec := { _root_.Go.OpenSpec.ofChange s with cond := some uptoSmall }

/-- 'citadellaw16.CommitPlays', WHERE WHAT IT READS IS OF BULK AT MOST 1048576: true; the input reads as it did. -/
def commitPlaysUptoRow : OpenClaim := { program := "ytffdjnhhmfpkgaagreat", sum := "ff6e110890a41c78858d2bb2b7e8d4e7b0228cc9ea427f0684f0a8c16f58a2e6", func := "citadel/citadellaw16.CommitPlays", spec := "commitPlays", unfollowed := true, recurses := true, apart := false, narrowed := true }
def CommitPlaysUptoSaid : Prop := commitPlaysUptoRow.holds Tryz.pinned (OpenSpec.upto commitPlaysSpec)

/-- 'citadellaw16.CommitNil', WHERE WHAT IT READS IS OF BULK AT MOST 1048576: true; the input reads as it did. -/
def commitNilUptoRow : OpenClaim := { program := "ytffdjnhhmfpkgaagreat", sum := "ff6e110890a41c78858d2bb2b7e8d4e7b0228cc9ea427f0684f0a8c16f58a2e6", func := "citadel/citadellaw16.CommitNil", spec := "commitNil", unfollowed := true, recurses := true, apart := false, narrowed := true }
def CommitNilUptoSaid : Prop := commitNilUptoRow.holds Tryz.pinned (OpenSpec.upto commitNilSpec)

/-- 'citadellaw16.CommitOne', WHERE WHAT IT READS IS OF BULK AT MOST 1048576: true; the input reads as it did. -/
def commitOneUptoRow : OpenClaim := { program := "ytffdjnhhmfpkgaagreat", sum := "ff6e110890a41c78858d2bb2b7e8d4e7b0228cc9ea427f0684f0a8c16f58a2e6", func := "citadel/citadellaw16.CommitOne", spec := "commitOne", unfollowed := true, recurses := true, apart := false, narrowed := true }
def CommitOneUptoSaid : Prop := commitOneUptoRow.holds Tryz.pinned (OpenSpec.upto commitOneSpec)

/-- 'citadellaw16.CommitBack', WHERE WHAT IT READS IS OF BULK AT MOST 1048576: true; the input reads as it did. -/
def commitBackUptoRow : OpenClaim := { program := "ytffdjnhhmfpkgaagreat", sum := "ff6e110890a41c78858d2bb2b7e8d4e7b0228cc9ea427f0684f0a8c16f58a2e6", func := "citadel/citadellaw16.CommitBack", spec := "commitBack", unfollowed := true, recurses := true, apart := false, narrowed := true }
def CommitBackUptoSaid : Prop := commitBackUptoRow.holds Tryz.pinned (OpenSpec.upto commitBackSpec)

/-- 'citadellaw16.CommitGap', WHERE WHAT IT READS IS OF BULK AT MOST 1048576: true; the input reads as it did. -/
def commitGapUptoRow : OpenClaim := { program := "ytffdjnhhmfpkgaagreat", sum := "ff6e110890a41c78858d2bb2b7e8d4e7b0228cc9ea427f0684f0a8c16f58a2e6", func := "citadel/citadellaw16.CommitGap", spec := "commitGap", unfollowed := true, recurses := true, apart := false, narrowed := true }
def CommitGapUptoSaid : Prop := commitGapUptoRow.holds Tryz.pinned (OpenSpec.upto commitGapSpec)

/-- 'citadellaw16.CommitOther', WHERE WHAT IT READS IS OF BULK AT MOST 1048576: true; the input reads as it did. -/
def commitOtherUptoRow : OpenClaim := { program := "ytffdjnhhmfpkgaagreat", sum := "ff6e110890a41c78858d2bb2b7e8d4e7b0228cc9ea427f0684f0a8c16f58a2e6", func := "citadel/citadellaw16.CommitOther", spec := "commitOther", unfollowed := true, recurses := true, apart := false, narrowed := true }
def CommitOtherUptoSaid : Prop := commitOtherUptoRow.holds Tryz.pinned (OpenSpec.upto commitOtherSpec)

end Rows
end Go.Proofs.YtffdjnhhmfpkgaaGreat
