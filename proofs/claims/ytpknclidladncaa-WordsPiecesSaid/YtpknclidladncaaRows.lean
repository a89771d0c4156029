/-
  No cell of these rows narrows 'for every input' (looked for: loops, veiled, ifaces, maps, wideKeys, modest, calm, conditions, laid).
  DERIVED. THE GIVEN ROWS OF THIS SEAT. 6 by the template 'for every input the law returns true; each argument reads behind the call as it read before'; 0 by the template 'total and deterministic' (their statements: YtpknclidladncaaTotals.lean).
  GIVEN WITH THE SEED: the statements are not yours to turn. If you find one false, say at which input.
  Laid BY PROGRAM, IN A SANDBOX (cutbox-rows.mjs): the forced cells as the released guide's own fill.sh prints them over the translation 3f6caefa96a06fab… (all of the seat's roots in one cut). By AI agents, Wed Nov 11 2026. No macro, syntax, notation, axiom, sorry.
-/
import Derived.Test.YtpknclidladncaaChecked
import GoSem.Claim
import GoSem.ClaimJoined
import GoSem.ClaimMapViews
import Derived.JoinedTies
import Derived.KernelRfl
namespace Go.Proofs.Ytpknclidladncaa
/- THE CELL 'sum', in the pinned program and in every row, IS THE sha256 OF THE DUMP (.gsa) THAT YtpknclidladncaaProg.lean LOADS. Nothing in Lean hashes anything: it is a label: what it is worth is what the hold of that sum in a sandbox is worth. -/
noncomputable def Try.pinned : Pinned := { name := "ytpknclidladncaa", sum := "3f6caefa96a06fabef2cddcaad801b0b41537fc1828093092f27c910b50b9557", checked := Try.checked }
namespace Rows
def none {H : Type} : Left H := { results := [], args := [] }

/-- 'citadellaw01.WordsRows': WHATEVER THE INPUT: true; the input reads as it did. -/
def wordsRowsSpec : ChangeSpec := { name := "wordsRows", fn := fun _ => fun
  | [d1, d2, d3, d4] => { results := [.lit (.bool true)], args := [d1, d2, d3, d4] }
  | _ => none }
def wordsRowsRow : OpenClaim := { program := "ytpknclidladncaa", sum := "3f6caefa96a06fabef2cddcaad801b0b41537fc1828093092f27c910b50b9557", func := "citadel/citadellaw01.WordsRows", spec := "wordsRows", apart := false }
def WordsRowsSaid : Prop := wordsRowsRow.holds Try.pinned (OpenSpec.ofChange wordsRowsSpec)

/-- ITS FALSE NEIGHBOUR: 'it returns false'. Refute it at one input. -/
def wordsRowsWrong : ChangeSpec := { name := "wordsRows", fn := fun _ => fun
  | [d1, d2, d3, d4] => { results := [.lit (.bool false)], args := [d1, d2, d3, d4] }
  | _ => none }
def WordsRowsWrongFalsely : Prop := wordsRowsRow.holds Try.pinned (OpenSpec.ofChange wordsRowsWrong)

/-- 'citadellaw01.WordsPieces': WHATEVER THE INPUT: true; the input reads as it did. -/
def wordsPiecesSpec : ChangeSpec := { name := "wordsPieces", fn := fun _ => fun
  | [d1, d2, d3] => { results := [.lit (.bool true)], args := [d1, d2, d3] }
  | _ => none }
def wordsPiecesRow : OpenClaim := { program := "ytpknclidladncaa", sum := "3f6caefa96a06fabef2cddcaad801b0b41537fc1828093092f27c910b50b9557", func := "citadel/citadellaw01.WordsPieces", spec := "wordsPieces", unfollowed := true, recurses := true, apart := false }
def WordsPiecesSaid : Prop := wordsPiecesRow.holds Try.pinned (OpenSpec.ofChange wordsPiecesSpec)

/-- ITS FALSE NEIGHBOUR: 'it returns false'. Refute it at one input. -/
def wordsPiecesWrong : ChangeSpec := { name := "wordsPieces", fn := fun _ => fun
  | [d1, d2, d3] => { results := [.lit (.bool false)], args := [d1, d2, d3] }
  | _ => none }
def WordsPiecesWrongFalsely : Prop := wordsPiecesRow.holds Try.pinned (OpenSpec.ofChange wordsPiecesWrong)

/-- 'citadellaw01.WordsOrder': WHATEVER THE INPUT: true; the input reads as it did. -/
def wordsOrderSpec : ChangeSpec := { name := "wordsOrder", fn := fun _ => fun
  | [d1, d2, d3] => { results := [.lit (.bool true)], args := [d1, d2, d3] }
  | _ => none }
def wordsOrderRow : OpenClaim := { program := "ytpknclidladncaa", sum := "3f6caefa96a06fabef2cddcaad801b0b41537fc1828093092f27c910b50b9557", func := "citadel/citadellaw01.WordsOrder", spec := "wordsOrder", inPlace := ["internal/bytealg.Compare"], apart := false }
def WordsOrderSaid : Prop := wordsOrderRow.holds Try.pinned (OpenSpec.ofChange wordsOrderSpec)

/-- ITS FALSE NEIGHBOUR: 'it returns false'. Refute it at one input. -/
def wordsOrderWrong : ChangeSpec := { name := "wordsOrder", fn := fun _ => fun
  | [d1, d2, d3] => { results := [.lit (.bool false)], args := [d1, d2, d3] }
  | _ => none }
def WordsOrderWrongFalsely : Prop := wordsOrderRow.holds Try.pinned (OpenSpec.ofChange wordsOrderWrong)

/-- 'citadellaw01.WordsBoth': WHATEVER THE INPUT: true; the input reads as it did. -/
def wordsBothSpec : ChangeSpec := { name := "wordsBoth", fn := fun _ => fun
  | [d1, d2, d3] => { results := [.lit (.bool true)], args := [d1, d2, d3] }
  | _ => none }
def wordsBothRow : OpenClaim := { program := "ytpknclidladncaa", sum := "3f6caefa96a06fabef2cddcaad801b0b41537fc1828093092f27c910b50b9557", func := "citadel/citadellaw01.WordsBoth", spec := "wordsBoth", inPlace := ["internal/bytealg.Compare"], unfollowed := true, recurses := true, apart := false }
def WordsBothSaid : Prop := wordsBothRow.holds Try.pinned (OpenSpec.ofChange wordsBothSpec)

/-- ITS FALSE NEIGHBOUR: 'it returns false'. Refute it at one input. -/
def wordsBothWrong : ChangeSpec := { name := "wordsBoth", fn := fun _ => fun
  | [d1, d2, d3] => { results := [.lit (.bool false)], args := [d1, d2, d3] }
  | _ => none }
def WordsBothWrongFalsely : Prop := wordsBothRow.holds Try.pinned (OpenSpec.ofChange wordsBothWrong)

/-- 'citadellaw01.WordsCounts': WHATEVER THE INPUT: true; the input reads as it did. -/
def wordsCountsSpec : ChangeSpec := { name := "wordsCounts", fn := fun _ => fun
  | [d1, d2, d3, d4, d5, d6] => { results := [.lit (.bool true)], args := [d1, d2, d3, d4, d5, d6] }
  | _ => none }
def wordsCountsRow : OpenClaim := { program := "ytpknclidladncaa", sum := "3f6caefa96a06fabef2cddcaad801b0b41537fc1828093092f27c910b50b9557", func := "citadel/citadellaw01.WordsCounts", spec := "wordsCounts", inPlace := ["internal/bytealg.Compare"], unfollowed := true, recurses := true, apart := false }
def WordsCountsSaid : Prop := wordsCountsRow.holds Try.pinned (OpenSpec.ofChange wordsCountsSpec)

/-- ITS FALSE NEIGHBOUR: 'it returns false'. Refute it at one input. -/
def wordsCountsWrong : ChangeSpec := { name := "wordsCounts", fn := fun _ => fun
  | [d1, d2, d3, d4, d5, d6] => { results := [.lit (.bool false)], args := [d1, d2, d3, d4, d5, d6] }
  | _ => none }
def WordsCountsWrongFalsely : Prop := wordsCountsRow.holds Try.pinned (OpenSpec.ofChange wordsCountsWrong)

/-- 'citadellaw01.WordsPadded': WHATEVER THE INPUT: true; the input reads as it did. -/
def wordsPaddedSpec : ChangeSpec := { name := "wordsPadded", fn := fun _ => fun
  | [d1, d2] => { results := [.lit (.bool true)], args := [d1, d2] }
  | _ => none }
def wordsPaddedRow : OpenClaim := { program := "ytpknclidladncaa", sum := "3f6caefa96a06fabef2cddcaad801b0b41537fc1828093092f27c910b50b9557", func := "citadel/citadellaw01.WordsPadded", spec := "wordsPadded", inPlace := ["internal/bytealg.Compare"], unfollowed := true, recurses := true, apart := false }
def WordsPaddedSaid : Prop := wordsPaddedRow.holds Try.pinned (OpenSpec.ofChange wordsPaddedSpec)

/-- ITS FALSE NEIGHBOUR: 'it returns false'. Refute it at one input. -/
def wordsPaddedWrong : ChangeSpec := { name := "wordsPadded", fn := fun _ => fun
  | [d1, d2] => { results := [.lit (.bool false)], args := [d1, d2] }
  | _ => none }
def WordsPaddedWrongFalsely : Prop := wordsPaddedRow.holds Try.pinned (OpenSpec.ofChange wordsPaddedWrong)

/- THE SECOND FORM. 'bulk': how many values and letters a reading holds, each counted each time it is reached (what is shared counts as often as it is met; a slice's spare places count too). A statement '..UptoSaid' is the law's where the arguments, and the package variables that the reading takes, are together of bulk at most 1048576: NARROWER than '..Said'. Prove '..Said' where nothing that the law and all that it calls make is longer than what came in: it says more and counts as full. Else prove '..UptoSaid'. A law counts once. -/
mutual
def uptoBulk {H : Type} : DataW H → Nat
  | .lit (.string bytes) => bytes.length + 1
  | .lit _ => 1
  | .nil => 1
  | .ptr d => uptoBulk d + 1
  | .slice elems spare => uptoBulkAll elems + uptoBulkAll spare + 1
  | .agg parts => uptoBulkAll parts + 1
  | .iface _ d => uptoBulk d + 1
  | .map entries => uptoBulkEntries entries + 1
  | .held _ => 1
def uptoBulkAll {H : Type} : List (DataW H) → Nat
  | [] => 0
  | d :: r => uptoBulk d + uptoBulkAll r
def uptoBulkEntries {H : Type} : List (Lit × DataW H) → Nat
  | [] => 0
  | x :: r => uptoBulkEntry x + uptoBulkEntries r
def uptoBulkEntry {H : Type} : Lit × DataW H → Nat
  | (.string bytes, d) => bytes.length + uptoBulk d + 1
  | (_, d) => uptoBulk d + 1
 end
def uptoSmall : (H : Type) → List (DataW H) → Bool := fun _ ds => decide (uptoBulkAll ds ≤ 1048576)
def OpenSpec.upto (s : _root_.Go.ChangeSpec) : _root_.Go.OpenSpec := { _root_.Go.OpenSpec.ofChange s with cond := some uptoSmall }

/-- 'citadellaw01.WordsRows', WHERE WHAT IT READS IS OF BULK AT MOST 1048576: true; the input reads as it did. -/
def wordsRowsUptoRow : OpenClaim := { program := "ytpknclidladncaa", sum := "3f6caefa96a06fabef2cddcaad801b0b41537fc1828093092f27c910b50b9557", func := "citadel/citadellaw01.WordsRows", spec := "wordsRows", apart := false, narrowed := true }
def WordsRowsUptoSaid : Prop := wordsRowsUptoRow.holds Try.pinned (OpenSpec.upto wordsRowsSpec)

/-- 'citadellaw01.WordsPieces', WHERE WHAT IT READS IS OF BULK AT MOST 1048576: true; the input reads as it did. -/
def wordsPiecesUptoRow : OpenClaim := { program := "ytpknclidladncaa", sum := "3f6caefa96a06fabef2cddcaad801b0b41537fc1828093092f27c910b50b9557", func := "citadel/citadellaw01.WordsPieces", spec := "wordsPieces", unfollowed := true, recurses := true, apart := false, narrowed := true }
def WordsPiecesUptoSaid : Prop := wordsPiecesUptoRow.holds Try.pinned (OpenSpec.upto wordsPiecesSpec)

/-- 'citadellaw01.WordsOrder', WHERE WHAT IT READS IS OF BULK AT MOST 1048576: true; the input reads as it did. -/
def wordsOrderUptoRow : OpenClaim := { program := "ytpknclidladncaa", sum := "3f6caefa96a06fabef2cddcaad801b0b41537fc1828093092f27c910b50b9557", func := "citadel/citadellaw01.WordsOrder", spec := "wordsOrder", inPlace := ["internal/bytealg.Compare"], apart := false, narrowed := true }
def WordsOrderUptoSaid : Prop := wordsOrderUptoRow.holds Try.pinned (OpenSpec.upto wordsOrderSpec)

/-- 'citadellaw01.WordsBoth', WHERE WHAT IT READS IS OF BULK AT MOST 1048576: true; the input reads as it did. -/
def wordsBothUptoRow : OpenClaim := { program := "ytpknclidladncaa", sum := "3f6caefa96a06fabef2cddcaad801b0b41537fc1828093092f27c910b50b9557", func := "citadel/citadellaw01.WordsBoth", spec := "wordsBoth", inPlace := ["internal/bytealg.Compare"], unfollowed := true, recurses := true, apart := false, narrowed := true }
def WordsBothUptoSaid : Prop := wordsBothUptoRow.holds Try.pinned (OpenSpec.upto wordsBothSpec)

/-- 'citadellaw01.WordsCounts', WHERE WHAT IT READS IS OF BULK AT MOST 1048576: true; the input reads as it did. -/
def wordsCountsUptoRow : OpenClaim := { program := "ytpknclidladncaa", sum := "3f6caefa96a06fabef2cddcaad801b0b41537fc1828093092f27c910b50b9557", func := "citadel/citadellaw01.WordsCounts", spec := "wordsCounts", inPlace := ["internal/bytealg.Compare"], unfollowed := true, recurses := true, apart := false, narrowed := true }
def WordsCountsUptoSaid : Prop := wordsCountsUptoRow.holds Try.pinned (OpenSpec.upto wordsCountsSpec)

/-- 'citadellaw01.WordsPadded', WHERE WHAT IT READS IS OF BULK AT MOST 1048576: true; the input reads as it did. -/
def wordsPaddedUptoRow : OpenClaim := { program := "ytpknclidladncaa", sum := "3f6caefa96a06fabef2cddcaad801b0b41537fc1828093092f27c910b50b9557", func := "citadel/citadellaw01.WordsPadded", spec := "wordsPadded", inPlace := ["internal/bytealg.Compare"], unfollowed := true, recurses := true, apart := false, narrowed := true }
def WordsPaddedUptoSaid : Prop := wordsPaddedUptoRow.holds Try.pinned (OpenSpec.upto wordsPaddedSpec)

end Rows
end Go.Proofs.Ytpknclidladncaa
