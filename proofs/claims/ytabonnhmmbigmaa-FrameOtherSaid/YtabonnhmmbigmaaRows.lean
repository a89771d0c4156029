/-
  No cell of these rows narrows 'for every input' (looked for: loops, veiled, ifaces, maps, wideKeys, modest, calm, conditions, laid).
  DERIVED. THE GIVEN ROWS OF THIS SEAT. 5 by the template 'for every input the law returns true; each argument reads behind the call as it read before'; 0 by the template 'total and deterministic' (their statements: YtabonnhmmbigmaaTotals.lean).
  GIVEN WITH THE SEED: the statements are not yours to turn. If you find one false, say at which input.
  Laid BY PROGRAM, IN A SANDBOX (cutbox-rows.mjs): the forced cells as the released guide's own fill.sh prints them over the translation b5d3034262e64a87… (all of the seat's roots in one cut). By AI agents, Wed Nov 11 2026. No macro, syntax, notation, axiom, sorry.
-/
import Derived.Test.YtabonnhmmbigmaaChecked
import GoSem.Claim
import GoSem.ClaimJoined
import GoSem.ClaimMapViews
import Derived.JoinedTies
import Derived.KernelRfl
namespace Go.Proofs.Ytabonnhmmbigmaa
/- THE CELL 'sum', in the pinned program and in every row, IS THE sha256 OF THE DUMP (.gsa) THAT YtabonnhmmbigmaaProg.lean LOADS. Nothing in Lean hashes anything: it is a label: what it is worth is what the hold of that sum in a sandbox is worth. -/
noncomputable def Try.pinned : Pinned := { name := "ytabonnhmmbigmaa", sum := "b5d3034262e64a8727aebeeb52883da5d9b0661bfdc2f4482d3e00e126b4342c", checked := Try.checked }
namespace Rows
def none {H : Type} : Left H := { results := [], args := [] }

/-- 'citadellaw07.FrameSeal': WHATEVER THE INPUT: true; the input reads as it did. -/
def frameSealSpec : ChangeSpec := { name := "frameSeal", fn := fun _ => fun
  | [d1, d2] => { results := [.lit (.bool true)], args := [d1, d2] }
  | _ => none }
def frameSealRow : OpenClaim := { program := "ytabonnhmmbigmaa", sum := "b5d3034262e64a8727aebeeb52883da5d9b0661bfdc2f4482d3e00e126b4342c", func := "citadel/citadellaw07.FrameSeal", spec := "frameSeal", apart := false }
def FrameSealSaid : Prop := frameSealRow.holds Try.pinned (OpenSpec.ofChange frameSealSpec)

/-- ITS FALSE NEIGHBOUR: 'it returns false'. Refute it at one input. -/
def frameSealWrong : ChangeSpec := { name := "frameSeal", fn := fun _ => fun
  | [d1, d2] => { results := [.lit (.bool false)], args := [d1, d2] }
  | _ => none }
def FrameSealWrongFalsely : Prop := frameSealRow.holds Try.pinned (OpenSpec.ofChange frameSealWrong)

/-- 'citadellaw07.FrameOpen': WHATEVER THE INPUT: true; the input reads as it did. -/
def frameOpenSpec : ChangeSpec := { name := "frameOpen", fn := fun _ => fun
  | [d1, d2] => { results := [.lit (.bool true)], args := [d1, d2] }
  | _ => none }
def frameOpenRow : OpenClaim := { program := "ytabonnhmmbigmaa", sum := "b5d3034262e64a8727aebeeb52883da5d9b0661bfdc2f4482d3e00e126b4342c", func := "citadel/citadellaw07.FrameOpen", spec := "frameOpen", unfollowed := true, recurses := true, apart := false }
def FrameOpenSaid : Prop := frameOpenRow.holds Try.pinned (OpenSpec.ofChange frameOpenSpec)

/-- ITS FALSE NEIGHBOUR: 'it returns false'. Refute it at one input. -/
def frameOpenWrong : ChangeSpec := { name := "frameOpen", fn := fun _ => fun
  | [d1, d2] => { results := [.lit (.bool false)], args := [d1, d2] }
  | _ => none }
def FrameOpenWrongFalsely : Prop := frameOpenRow.holds Try.pinned (OpenSpec.ofChange frameOpenWrong)

/-- 'citadellaw07.FrameBack': WHATEVER THE INPUT: true; the input reads as it did. -/
def frameBackSpec : ChangeSpec := { name := "frameBack", fn := fun _ => fun
  | [d1, d2, d3, d4] => { results := [.lit (.bool true)], args := [d1, d2, d3, d4] }
  | _ => none }
def frameBackRow : OpenClaim := { program := "ytabonnhmmbigmaa", sum := "b5d3034262e64a8727aebeeb52883da5d9b0661bfdc2f4482d3e00e126b4342c", func := "citadel/citadellaw07.FrameBack", spec := "frameBack", unfollowed := true, recurses := true, apart := false }
def FrameBackSaid : Prop := frameBackRow.holds Try.pinned (OpenSpec.ofChange frameBackSpec)

/-- ITS FALSE NEIGHBOUR: 'it returns false'. Refute it at one input. -/
def frameBackWrong : ChangeSpec := { name := "frameBack", fn := fun _ => fun
  | [d1, d2, d3, d4] => { results := [.lit (.bool false)], args := [d1, d2, d3, d4] }
  | _ => none }
def FrameBackWrongFalsely : Prop := frameBackRow.holds Try.pinned (OpenSpec.ofChange frameBackWrong)

/-- 'citadellaw07.FrameOther': WHATEVER THE INPUT: true; the input reads as it did. -/
def frameOtherSpec : ChangeSpec := { name := "frameOther", fn := fun _ => fun
  | [d1, d2, d3, d4] => { results := [.lit (.bool true)], args := [d1, d2, d3, d4] }
  | _ => none }
def frameOtherRow : OpenClaim := { program := "ytabonnhmmbigmaa", sum := "b5d3034262e64a8727aebeeb52883da5d9b0661bfdc2f4482d3e00e126b4342c", func := "citadel/citadellaw07.FrameOther", spec := "frameOther", unfollowed := true, recurses := true, apart := false }
def FrameOtherSaid : Prop := frameOtherRow.holds Try.pinned (OpenSpec.ofChange frameOtherSpec)

/-- ITS FALSE NEIGHBOUR: 'it returns false'. Refute it at one input. -/
def frameOtherWrong : ChangeSpec := { name := "frameOther", fn := fun _ => fun
  | [d1, d2, d3, d4] => { results := [.lit (.bool false)], args := [d1, d2, d3, d4] }
  | _ => none }
def FrameOtherWrongFalsely : Prop := frameOtherRow.holds Try.pinned (OpenSpec.ofChange frameOtherWrong)

/-- 'citadellaw07.FrameSize': WHATEVER THE INPUT: true; the input reads as it did. -/
def frameSizeSpec : ChangeSpec := { name := "frameSize", fn := fun _ => fun
  | [d1, d2, d3, d4] => { results := [.lit (.bool true)], args := [d1, d2, d3, d4] }
  | _ => none }
def frameSizeRow : OpenClaim := { program := "ytabonnhmmbigmaa", sum := "b5d3034262e64a8727aebeeb52883da5d9b0661bfdc2f4482d3e00e126b4342c", func := "citadel/citadellaw07.FrameSize", spec := "frameSize", unfollowed := true, recurses := true, apart := false }
def FrameSizeSaid : Prop := frameSizeRow.holds Try.pinned (OpenSpec.ofChange frameSizeSpec)

/-- ITS FALSE NEIGHBOUR: 'it returns false'. Refute it at one input. -/
def frameSizeWrong : ChangeSpec := { name := "frameSize", fn := fun _ => fun
  | [d1, d2, d3, d4] => { results := [.lit (.bool false)], args := [d1, d2, d3, d4] }
  | _ => none }
def FrameSizeWrongFalsely : Prop := frameSizeRow.holds Try.pinned (OpenSpec.ofChange frameSizeWrong)

/- THE SECOND FORM. 'bulk': how many values and letters a reading holds, each counted each time it is reached (what is shared counts as often as it is met; a slice's spare places count too). A statement '..UptoSaid' is the law's where the arguments, and the package variables that the reading takes, are together of bulk at most 1048576: NARROWER than '..Said'. Prove '..Said' where nothing that the law and all that it calls make is longer than what came in: it says more and counts as full. Else prove '..UptoSaid'. A law counts once. -/
mutual
def uptoBulk {H : Type} : DataW H → Nat
  | .lit (.string bytes) => bytes.length + 1
  | .lit _ => 1
  | .nil => 1
  | .ptr d => uptoBulk d + 1
  | .slice elems spare => uptoBulkAll elems + uptoBulkAll spare + 1
  | .agg parts => uptoBulkAll parts + 1
  | .iface _ d => uptoBulk d + 1
  | .map entries => uptoBulkEntries entries + 1
  | .held _ => 1
def uptoBulkAll {H : Type} : List (DataW H) → Nat
  | [] => 0
  | d :: r => uptoBulk d + uptoBulkAll r
def uptoBulkEntries {H : Type} : List (Lit × DataW H) → Nat
  | [] => 0
  | x :: r => uptoBulkEntry x + uptoBulkEntries r
def uptoBulkEntry {H : Type} : Lit × DataW H → Nat
  | (.string bytes, d) => bytes.length + uptoBulk d + 1
  | (_, d) => uptoBulk d + 1
 end
def uptoSmall : (H : Type) → List (DataW H) → Bool := fun _ ds => decide (uptoBulkAll ds ≤ 1048576)
def OpenSpec.upto (s : _root_.Go.ChangeSpec) : _root_.Go.OpenSpec := { _root_.Go.OpenSpec.ofChange s with cond := some uptoSmall }

/-- 'citadellaw07.FrameSeal', WHERE WHAT IT READS IS OF BULK AT MOST 1048576: true; the input reads as it did. -/
def frameSealUptoRow : OpenClaim := { program := "ytabonnhmmbigmaa", sum := "b5d3034262e64a8727aebeeb52883da5d9b0661bfdc2f4482d3e00e126b4342c", func := "citadel/citadellaw07.FrameSeal", spec := "frameSeal", apart := false, narrowed := true }
def FrameSealUptoSaid : Prop := frameSealUptoRow.holds Try.pinned (OpenSpec.upto frameSealSpec)

/-- 'citadellaw07.FrameOpen', WHERE WHAT IT READS IS OF BULK AT MOST 1048576: true; the input reads as it did. -/
def frameOpenUptoRow : OpenClaim := { program := "ytabonnhmmbigmaa", sum := "b5d3034262e64a8727aebeeb52883da5d9b0661bfdc2f4482d3e00e126b4342c", func := "citadel/citadellaw07.FrameOpen", spec := "frameOpen", unfollowed := true, recurses := true, apart := false, narrowed := true }
def FrameOpenUptoSaid : Prop := frameOpenUptoRow.holds Try.pinned (OpenSpec.upto frameOpenSpec)

/-- 'citadellaw07.FrameBack', WHERE WHAT IT READS IS OF BULK AT MOST 1048576: true; the input reads as it did. -/
def frameBackUptoRow : OpenClaim := { program := "ytabonnhmmbigmaa", sum := "b5d3034262e64a8727aebeeb52883da5d9b0661bfdc2f4482d3e00e126b4342c", func := "citadel/citadellaw07.FrameBack", spec := "frameBack", unfollowed := true, recurses := true, apart := false, narrowed := true }
def FrameBackUptoSaid : Prop := frameBackUptoRow.holds Try.pinned (OpenSpec.upto frameBackSpec)

/-- 'citadellaw07.FrameOther', WHERE WHAT IT READS IS OF BULK AT MOST 1048576: true; the input reads as it did. -/
def frameOtherUptoRow : OpenClaim := { program := "ytabonnhmmbigmaa", sum := "b5d3034262e64a8727aebeeb52883da5d9b0661bfdc2f4482d3e00e126b4342c", func := "citadel/citadellaw07.FrameOther", spec := "frameOther", unfollowed := true, recurses := true, apart := false, narrowed := true }
def FrameOtherUptoSaid : Prop := frameOtherUptoRow.holds Try.pinned (OpenSpec.upto frameOtherSpec)

/-- 'citadellaw07.FrameSize', WHERE WHAT IT READS IS OF BULK AT MOST 1048576: true; the input reads as it did. -/
def frameSizeUptoRow : OpenClaim := { program := "ytabonnhmmbigmaa", sum := "b5d3034262e64a8727aebeeb52883da5d9b0661bfdc2f4482d3e00e126b4342c", func := "citadel/citadellaw07.FrameSize", spec := "frameSize", unfollowed := true, recurses := true, apart := false, narrowed := true }
def FrameSizeUptoSaid : Prop := frameSizeUptoRow.holds Try.pinned (OpenSpec.upto frameSizeSpec)

end Rows
end Go.Proofs.Ytabonnhmmbigmaa
