/-
  No cell of these rows narrows 'for every input' (looked for: loops, veiled, ifaces, maps, wideKeys, modest, calm, conditions, laid).
  DERIVED. THE GIVEN ROWS OF THIS SEAT. 6 by the template 'for every input the law returns true; each argument reads behind the call as it read before'; 0 by the template 'total and deterministic' (their statements: YtljgliagciblbaaTotals.lean).
  GIVEN WITH THE SEED: the statements are not yours to turn. If you find one false, say at which input.
  Laid BY PROGRAM, IN A SANDBOX (cutbox-rows.mjs): the forced cells as the released guide's own fill.sh prints them over the translation 2e0fc83f023a60e7… (all of the seat's roots in one cut). By AI agents, Wed Nov 11 2026. No macro, syntax, notation, axiom, sorry.
-/
import Derived.Test.YtljgliagciblbaaChecked
import GoSem.Claim
import GoSem.ClaimJoined
import GoSem.ClaimMapViews
import Derived.JoinedTies
import Derived.KernelRfl
namespace Go.Proofs.Ytljgliagciblbaa
/- THE CELL 'sum', in the pinned program and in every row, IS THE sha256 OF THE DUMP (.gsa) THAT YtljgliagciblbaaProg.lean LOADS. Nothing in Lean hashes anything: it is a label: what it is worth is what the hold of that sum in a sandbox is worth. -/
noncomputable def Try.pinned : Pinned := { name := "ytljgliagciblbaa", sum := "2e0fc83f023a60e7b78ba61245909cd0682f4a24b3307bec23c5b0dd9a4cb34e", checked := Try.checked }
namespace Rows
def none {H : Type} : Left H := { results := [], args := [] }

/-- 'citadellaw11.ConfigPrints': WHATEVER THE INPUT: true; the input reads as it did. -/
def configPrintsSpec : ChangeSpec := { name := "configPrints", fn := fun _ => fun
  | [d] => { results := [.lit (.bool true)], args := [d] }
  | _ => none }
def configPrintsRow : OpenClaim := { program := "ytljgliagciblbaa", sum := "2e0fc83f023a60e7b78ba61245909cd0682f4a24b3307bec23c5b0dd9a4cb34e", func := "citadel/citadellaw11.ConfigPrints", spec := "configPrints", unfollowed := true, recurses := true, apart := false }
def ConfigPrintsSaid : Prop := configPrintsRow.holds Try.pinned (OpenSpec.ofChange configPrintsSpec)

/-- ITS FALSE NEIGHBOUR: 'it returns false'. Refute it at one input. -/
def configPrintsWrong : ChangeSpec := { name := "configPrints", fn := fun _ => fun
  | [d] => { results := [.lit (.bool false)], args := [d] }
  | _ => none }
def ConfigPrintsWrongFalsely : Prop := configPrintsRow.holds Try.pinned (OpenSpec.ofChange configPrintsWrong)

/-- 'citadellaw11.ConfigParses': WHATEVER THE INPUT: true; the input reads as it did. -/
def configParsesSpec : ChangeSpec := { name := "configParses", fn := fun _ => fun
  | [d1, d2, d3, d4, d5, d6] => { results := [.lit (.bool true)], args := [d1, d2, d3, d4, d5, d6] }
  | _ => none }
def configParsesRow : OpenClaim := { program := "ytljgliagciblbaa", sum := "2e0fc83f023a60e7b78ba61245909cd0682f4a24b3307bec23c5b0dd9a4cb34e", func := "citadel/citadellaw11.ConfigParses", spec := "configParses", unfollowed := true, recurses := true, apart := false }
def ConfigParsesSaid : Prop := configParsesRow.holds Try.pinned (OpenSpec.ofChange configParsesSpec)

/-- ITS FALSE NEIGHBOUR: 'it returns false'. Refute it at one input. -/
def configParsesWrong : ChangeSpec := { name := "configParses", fn := fun _ => fun
  | [d1, d2, d3, d4, d5, d6] => { results := [.lit (.bool false)], args := [d1, d2, d3, d4, d5, d6] }
  | _ => none }
def ConfigParsesWrongFalsely : Prop := configParsesRow.holds Try.pinned (OpenSpec.ofChange configParsesWrong)

/-- 'citadellaw11.ConfigFinds': WHATEVER THE INPUT: true; the input reads as it did. -/
def configFindsSpec : ChangeSpec := { name := "configFinds", fn := fun _ => fun
  | [d1, d2, d3] => { results := [.lit (.bool true)], args := [d1, d2, d3] }
  | _ => none }
def configFindsRow : OpenClaim := { program := "ytljgliagciblbaa", sum := "2e0fc83f023a60e7b78ba61245909cd0682f4a24b3307bec23c5b0dd9a4cb34e", func := "citadel/citadellaw11.ConfigFinds", spec := "configFinds", unfollowed := true, recurses := true, apart := false }
def ConfigFindsSaid : Prop := configFindsRow.holds Try.pinned (OpenSpec.ofChange configFindsSpec)

/-- ITS FALSE NEIGHBOUR: 'it returns false'. Refute it at one input. -/
def configFindsWrong : ChangeSpec := { name := "configFinds", fn := fun _ => fun
  | [d1, d2, d3] => { results := [.lit (.bool false)], args := [d1, d2, d3] }
  | _ => none }
def ConfigFindsWrongFalsely : Prop := configFindsRow.holds Try.pinned (OpenSpec.ofChange configFindsWrong)

/-- 'citadellaw11.ConfigBack': WHATEVER THE INPUT: true; the input reads as it did. -/
def configBackSpec : ChangeSpec := { name := "configBack", fn := fun _ => fun
  | [d1, d2] => { results := [.lit (.bool true)], args := [d1, d2] }
  | _ => none }
def configBackRow : OpenClaim := { program := "ytljgliagciblbaa", sum := "2e0fc83f023a60e7b78ba61245909cd0682f4a24b3307bec23c5b0dd9a4cb34e", func := "citadel/citadellaw11.ConfigBack", spec := "configBack", unfollowed := true, recurses := true, apart := false }
def ConfigBackSaid : Prop := configBackRow.holds Try.pinned (OpenSpec.ofChange configBackSpec)

/-- ITS FALSE NEIGHBOUR: 'it returns false'. Refute it at one input. -/
def configBackWrong : ChangeSpec := { name := "configBack", fn := fun _ => fun
  | [d1, d2] => { results := [.lit (.bool false)], args := [d1, d2] }
  | _ => none }
def ConfigBackWrongFalsely : Prop := configBackRow.holds Try.pinned (OpenSpec.ofChange configBackWrong)

/-- 'citadellaw11.ConfigForms': WHATEVER THE INPUT: true; the input reads as it did. -/
def configFormsSpec : ChangeSpec := { name := "configForms", fn := fun _ => fun
  | [d1, d2] => { results := [.lit (.bool true)], args := [d1, d2] }
  | _ => none }
def configFormsRow : OpenClaim := { program := "ytljgliagciblbaa", sum := "2e0fc83f023a60e7b78ba61245909cd0682f4a24b3307bec23c5b0dd9a4cb34e", func := "citadel/citadellaw11.ConfigForms", spec := "configForms", unfollowed := true, recurses := true, apart := false }
def ConfigFormsSaid : Prop := configFormsRow.holds Try.pinned (OpenSpec.ofChange configFormsSpec)

/-- ITS FALSE NEIGHBOUR: 'it returns false'. Refute it at one input. -/
def configFormsWrong : ChangeSpec := { name := "configForms", fn := fun _ => fun
  | [d1, d2] => { results := [.lit (.bool false)], args := [d1, d2] }
  | _ => none }
def ConfigFormsWrongFalsely : Prop := configFormsRow.holds Try.pinned (OpenSpec.ofChange configFormsWrong)

/-- 'citadellaw11.ConfigCut': WHATEVER THE INPUT: true; the input reads as it did. -/
def configCutSpec : ChangeSpec := { name := "configCut", fn := fun _ => fun
  | [d1, d2, d3] => { results := [.lit (.bool true)], args := [d1, d2, d3] }
  | _ => none }
def configCutRow : OpenClaim := { program := "ytljgliagciblbaa", sum := "2e0fc83f023a60e7b78ba61245909cd0682f4a24b3307bec23c5b0dd9a4cb34e", func := "citadel/citadellaw11.ConfigCut", spec := "configCut", unfollowed := true, recurses := true, apart := false }
def ConfigCutSaid : Prop := configCutRow.holds Try.pinned (OpenSpec.ofChange configCutSpec)

/-- ITS FALSE NEIGHBOUR: 'it returns false'. Refute it at one input. -/
def configCutWrong : ChangeSpec := { name := "configCut", fn := fun _ => fun
  | [d1, d2, d3] => { results := [.lit (.bool false)], args := [d1, d2, d3] }
  | _ => none }
def ConfigCutWrongFalsely : Prop := configCutRow.holds Try.pinned (OpenSpec.ofChange configCutWrong)

/- THE SECOND FORM. 'bulk': how many values and letters a reading holds, each counted each time it is reached (what is shared counts as often as it is met; a slice's spare places count too). A statement '..UptoSaid' is the law's where the arguments, and the package variables that the reading takes, are together of bulk at most 1048576: NARROWER than '..Said'. Prove '..Said' where nothing that the law and all that it calls make is longer than what came in: it says more and counts as full. Else prove '..UptoSaid'. A law counts once. -/
mutual
def uptoBulk {H : Type} : DataW H → Nat
  | .lit (.string bytes) => bytes.length + 1
  | .lit _ => 1
  | .nil => 1
  | .ptr d => uptoBulk d + 1
  | .slice elems spare => uptoBulkAll elems + uptoBulkAll spare + 1
  | .agg parts => uptoBulkAll parts + 1
  | .iface _ d => uptoBulk d + 1
  | .map entries => uptoBulkEntries entries + 1
  | .held _ => 1
def uptoBulkAll {H : Type} : List (DataW H) → Nat
  | [] => 0
  | d :: r => uptoBulk d + uptoBulkAll r
def uptoBulkEntries {H : Type} : List (Lit × DataW H) → Nat
  | [] => 0
  | x :: r => uptoBulkEntry x + uptoBulkEntries r
def uptoBulkEntry {H : Type} : Lit × DataW H → Nat
  | (.string bytes, d) => bytes.length + uptoBulk d + 1
  | (_, d) => uptoBulk d + 1
 end
def uptoSmall : (H : Type) → List (DataW H) → Bool := fun _ ds => decide (uptoBulkAll ds ≤ 1048576)
def OpenSpec.upto (s : _root_.Go.ChangeSpec) : _root_.Go.OpenSpec := { _root_.Go.OpenSpec.ofChange s with cond := some uptoSmall }

/-- 'citadellaw11.ConfigPrints', WHERE WHAT IT READS IS OF BULK AT MOST 1048576: true; the input reads as it did. -/
def configPrintsUptoRow : OpenClaim := { program := "ytljgliagciblbaa", sum := "2e0fc83f023a60e7b78ba61245909cd0682f4a24b3307bec23c5b0dd9a4cb34e", func := "citadel/citadellaw11.ConfigPrints", spec := "configPrints", unfollowed := true, recurses := true, apart := false, narrowed := true }
def ConfigPrintsUptoSaid : Prop := configPrintsUptoRow.holds Try.pinned (OpenSpec.upto configPrintsSpec)

/-- 'citadellaw11.ConfigParses', WHERE WHAT IT READS IS OF BULK AT MOST 1048576: true; the input reads as it did. -/
def configParsesUptoRow : OpenClaim := { program := "ytljgliagciblbaa", sum := "2e0fc83f023a60e7b78ba61245909cd0682f4a24b3307bec23c5b0dd9a4cb34e", func := "citadel/citadellaw11.ConfigParses", spec := "configParses", unfollowed := true, recurses := true, apart := false, narrowed := true }
def ConfigParsesUptoSaid : Prop := configParsesUptoRow.holds Try.pinned (OpenSpec.upto configParsesSpec)

/-- 'citadellaw11.ConfigFinds', WHERE WHAT IT READS IS OF BULK AT MOST 1048576: true; the input reads as it did. -/
def configFindsUptoRow : OpenClaim := { program := "ytljgliagciblbaa", sum := "2e0fc83f023a60e7b78ba61245909cd0682f4a24b3307bec23c5b0dd9a4cb34e", func := "citadel/citadellaw11.ConfigFinds", spec := "configFinds", unfollowed := true, recurses := true, apart := false, narrowed := true }
def ConfigFindsUptoSaid : Prop := configFindsUptoRow.holds Try.pinned (OpenSpec.upto configFindsSpec)

/-- 'citadellaw11.ConfigBack', WHERE WHAT IT READS IS OF BULK AT MOST 1048576: true; the input reads as it did. -/
def configBackUptoRow : OpenClaim := { program := "ytljgliagciblbaa", sum := "2e0fc83f023a60e7b78ba61245909cd0682f4a24b3307bec23c5b0dd9a4cb34e", func := "citadel/citadellaw11.ConfigBack", spec := "configBack", unfollowed := true, recurses := true, apart := false, narrowed := true }
def ConfigBackUptoSaid : Prop := configBackUptoRow.holds Try.pinned (OpenSpec.upto configBackSpec)

/-- 'citadellaw11.ConfigForms', WHERE WHAT IT READS IS OF BULK AT MOST 1048576: true; the input reads as it did. -/
def configFormsUptoRow : OpenClaim := { program := "ytljgliagciblbaa", sum := "2e0fc83f023a60e7b78ba61245909cd0682f4a24b3307bec23c5b0dd9a4cb34e", func := "citadel/citadellaw11.ConfigForms", spec := "configForms", unfollowed := true, recurses := true, apart := false, narrowed := true }
def ConfigFormsUptoSaid : Prop := configFormsUptoRow.holds Try.pinned (OpenSpec.upto configFormsSpec)

/-- 'citadellaw11.ConfigCut', WHERE WHAT IT READS IS OF BULK AT MOST 1048576: true; the input reads as it did. -/
def configCutUptoRow : OpenClaim := { program := "ytljgliagciblbaa", sum := "2e0fc83f023a60e7b78ba61245909cd0682f4a24b3307bec23c5b0dd9a4cb34e", func := "citadel/citadellaw11.ConfigCut", spec := "configCut", unfollowed := true, recurses := true, apart := false, narrowed := true }
def ConfigCutUptoSaid : Prop := configCutUptoRow.holds Try.pinned (OpenSpec.upto configCutSpec)

end Rows
end Go.Proofs.Ytljgliagciblbaa
