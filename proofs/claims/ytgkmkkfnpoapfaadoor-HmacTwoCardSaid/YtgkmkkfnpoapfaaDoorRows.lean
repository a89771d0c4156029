/-
  NARROWER THAN 'FOR EVERY INPUT', by the rows' own cells (each row's printed sentence says how): HmacTags: laid · HmacPurposes: laid · HmacOpens: laid · HmacTwo: laid.
  DERIVED. THE GIVEN ROWS OF THIS SEAT. 4 by the template 'for every input the law returns true; each argument reads behind the call as it read before'; 0 by the template 'total and deterministic' (their statements: YtgkmkkfnpoapfaaDoorTotals.lean).
  GIVEN WITH THE SEED: the statements are not yours to turn. If you find one false, say at which input.
  Laid BY PROGRAM, IN A SANDBOX (cutbox-rows.mjs): the forced cells as the released guide's own fill.sh prints them over the translation db741973f28d4f99… (all of the seat's roots in one cut). By AI agents, Wed Nov 11 2026. No macro, syntax, notation, axiom, sorry.
-/
import Derived.Test.YtgkmkkfnpoapfaaDoorChecked
import GoSem.Claim
import GoSem.ClaimJoined
import GoSem.ClaimMapViews
import Derived.JoinedTies
import Derived.KernelRfl
namespace Go.Proofs.YtgkmkkfnpoapfaaDoor
/- THE CELL 'sum', in the pinned program and in every row, IS THE sha256 OF THE DUMP (.gsa) THAT YtgkmkkfnpoapfaaDoorProg.lean LOADS. Nothing in Lean hashes anything: it is a label: what it is worth is what the hold of that sum in a sandbox is worth. -/
noncomputable def Tryd.pinned : Pinned := { name := "ytgkmkkfnpoapfaadoor", sum := "db741973f28d4f99f05ff19f281d1e6a266949750c881cb34342f4bd203c10ce", checked := Tryd.checked }
namespace Rows
def none {H : Type} : Left H := { results := [], args := [] }

/- WHAT THE LISTED PACKAGE-LEVEL VARIABLES READ AS WHEN THE CALL BEGINS. Each datum BY PROGRAM (the guide's laid-datum.mjs) off the statement by which the dump's own 'gosem.cut.vars' lays the variable. In a bare row this is a premise. The card (YtgkmkkfnpoapfaaDoorCards.lean) ties it to the program's text. -/
def laid_citadel_sha_primes {H : Type} : DataW H := .agg [.lit (.int .u64 2), .lit (.int .u64 3), .lit (.int .u64 5), .lit (.int .u64 7), .lit (.int .u64 11), .lit (.int .u64 13), .lit (.int .u64 17), .lit (.int .u64 19), .lit (.int .u64 23), .lit (.int .u64 29), .lit (.int .u64 31), .lit (.int .u64 37), .lit (.int .u64 41), .lit (.int .u64 43), .lit (.int .u64 47), .lit (.int .u64 53), .lit (.int .u64 59), .lit (.int .u64 61), .lit (.int .u64 67), .lit (.int .u64 71), .lit (.int .u64 73), .lit (.int .u64 79), .lit (.int .u64 83), .lit (.int .u64 89), .lit (.int .u64 97), .lit (.int .u64 101), .lit (.int .u64 103), .lit (.int .u64 107), .lit (.int .u64 109), .lit (.int .u64 113), .lit (.int .u64 127), .lit (.int .u64 131), .lit (.int .u64 137), .lit (.int .u64 139), .lit (.int .u64 149), .lit (.int .u64 151), .lit (.int .u64 157), .lit (.int .u64 163), .lit (.int .u64 167), .lit (.int .u64 173), .lit (.int .u64 179), .lit (.int .u64 181), .lit (.int .u64 191), .lit (.int .u64 193), .lit (.int .u64 197), .lit (.int .u64 199), .lit (.int .u64 211), .lit (.int .u64 223), .lit (.int .u64 227), .lit (.int .u64 229), .lit (.int .u64 233), .lit (.int .u64 239), .lit (.int .u64 241), .lit (.int .u64 251), .lit (.int .u64 257), .lit (.int .u64 263), .lit (.int .u64 269), .lit (.int .u64 271), .lit (.int .u64 277), .lit (.int .u64 281), .lit (.int .u64 283), .lit (.int .u64 293), .lit (.int .u64 307), .lit (.int .u64 311)]

/-- 'citadellaw04.HmacTags': WHATEVER THE INPUT: true; the input reads as it did. -/
def hmacTagsSpec : ChangeSpec := { name := "hmacTags", fn := fun _ => fun
  | [d1, d2] => { results := [.lit (.bool true)], args := [d1, d2] }
  | _ => none }
def hmacTagsRow : OpenClaim := { program := "ytgkmkkfnpoapfaadoor", sum := "db741973f28d4f99f05ff19f281d1e6a266949750c881cb34342f4bd203c10ce", func := "citadel/citadellaw04.HmacTags", spec := "hmacTags", unfollowed := true, recurses := true, named := ["citadel/sha.primes"], apart := false, laid := [("citadel/sha.primes", laid_citadel_sha_primes)] }
def HmacTagsSaid : Prop := hmacTagsRow.holds Tryd.pinned (OpenSpec.ofChange hmacTagsSpec)

/-- ITS FALSE NEIGHBOUR: 'it returns false'. Refute it at one input. -/
def hmacTagsWrong : ChangeSpec := { name := "hmacTags", fn := fun _ => fun
  | [d1, d2] => { results := [.lit (.bool false)], args := [d1, d2] }
  | _ => none }
def HmacTagsWrongFalsely : Prop := hmacTagsRow.holds Tryd.pinned (OpenSpec.ofChange hmacTagsWrong)

/-- 'citadellaw04.HmacPurposes': WHATEVER THE INPUT: true; the input reads as it did. -/
def hmacPurposesSpec : ChangeSpec := { name := "hmacPurposes", fn := fun _ => fun
  | [d1, d2, d3] => { results := [.lit (.bool true)], args := [d1, d2, d3] }
  | _ => none }
def hmacPurposesRow : OpenClaim := { program := "ytgkmkkfnpoapfaadoor", sum := "db741973f28d4f99f05ff19f281d1e6a266949750c881cb34342f4bd203c10ce", func := "citadel/citadellaw04.HmacPurposes", spec := "hmacPurposes", unfollowed := true, recurses := true, named := ["citadel/sha.primes"], apart := false, laid := [("citadel/sha.primes", laid_citadel_sha_primes)] }
def HmacPurposesSaid : Prop := hmacPurposesRow.holds Tryd.pinned (OpenSpec.ofChange hmacPurposesSpec)

/-- ITS FALSE NEIGHBOUR: 'it returns false'. Refute it at one input. -/
def hmacPurposesWrong : ChangeSpec := { name := "hmacPurposes", fn := fun _ => fun
  | [d1, d2, d3] => { results := [.lit (.bool false)], args := [d1, d2, d3] }
  | _ => none }
def HmacPurposesWrongFalsely : Prop := hmacPurposesRow.holds Tryd.pinned (OpenSpec.ofChange hmacPurposesWrong)

/-- 'citadellaw04.HmacOpens': WHATEVER THE INPUT: true; the input reads as it did. -/
def hmacOpensSpec : ChangeSpec := { name := "hmacOpens", fn := fun _ => fun
  | [d1, d2, d3, d4, d5] => { results := [.lit (.bool true)], args := [d1, d2, d3, d4, d5] }
  | _ => none }
def hmacOpensRow : OpenClaim := { program := "ytgkmkkfnpoapfaadoor", sum := "db741973f28d4f99f05ff19f281d1e6a266949750c881cb34342f4bd203c10ce", func := "citadel/citadellaw04.HmacOpens", spec := "hmacOpens", unfollowed := true, recurses := true, named := ["citadel/sha.primes"], apart := false, laid := [("citadel/sha.primes", laid_citadel_sha_primes)] }
def HmacOpensSaid : Prop := hmacOpensRow.holds Tryd.pinned (OpenSpec.ofChange hmacOpensSpec)

/-- ITS FALSE NEIGHBOUR: 'it returns false'. Refute it at one input. -/
def hmacOpensWrong : ChangeSpec := { name := "hmacOpens", fn := fun _ => fun
  | [d1, d2, d3, d4, d5] => { results := [.lit (.bool false)], args := [d1, d2, d3, d4, d5] }
  | _ => none }
def HmacOpensWrongFalsely : Prop := hmacOpensRow.holds Tryd.pinned (OpenSpec.ofChange hmacOpensWrong)

/-- 'citadellaw04.HmacTwo': WHATEVER THE INPUT: true; the input reads as it did. -/
def hmacTwoSpec : ChangeSpec := { name := "hmacTwo", fn := fun _ => fun
  | [d1, d2, d3] => { results := [.lit (.bool true)], args := [d1, d2, d3] }
  | _ => none }
def hmacTwoRow : OpenClaim := { program := "ytgkmkkfnpoapfaadoor", sum := "db741973f28d4f99f05ff19f281d1e6a266949750c881cb34342f4bd203c10ce", func := "citadel/citadellaw04.HmacTwo", spec := "hmacTwo", unfollowed := true, recurses := true, named := ["citadel/sha.primes"], apart := false, laid := [("citadel/sha.primes", laid_citadel_sha_primes)] }
def HmacTwoSaid : Prop := hmacTwoRow.holds Tryd.pinned (OpenSpec.ofChange hmacTwoSpec)

/-- ITS FALSE NEIGHBOUR: 'it returns false'. Refute it at one input. -/
def hmacTwoWrong : ChangeSpec := { name := "hmacTwo", fn := fun _ => fun
  | [d1, d2, d3] => { results := [.lit (.bool false)], args := [d1, d2, d3] }
  | _ => none }
def HmacTwoWrongFalsely : Prop := hmacTwoRow.holds Tryd.pinned (OpenSpec.ofChange hmacTwoWrong)

/- THE SECOND FORM. 'bulk': how many values and letters a reading holds, each counted each time it is reached (what is shared counts as often as it is met; a slice's spare places count too). A statement '..UptoSaid' is the law's where the arguments, and the package variables that the reading takes, are together of bulk at most 1048576: NARROWER than '..Said'. Prove '..Said' where nothing that the law and all that it calls make is longer than what came in: it says more and counts as full. Else prove '..UptoSaid'. A law counts once. -/
mutual
def uptoBulk {H : Type} : DataW H → Nat
  | .lit (.string bytes) => bytes.length + 1
  | .lit _ => 1
  | .nil => 1
  | .ptr d => uptoBulk d + 1
  | .slice elems spare => uptoBulkAll elems + uptoBulkAll spare + 1
  | .agg parts => uptoBulkAll parts + 1
  | .iface _ d => uptoBulk d + 1
  | .map entries => uptoBulkEntries entries + 1
  | .held _ => 1
def uptoBulkAll {H : Type} : List (DataW H) → Nat
  | [] => 0
  | d :: r => uptoBulk d + uptoBulkAll r
def uptoBulkEntries {H : Type} : List (Lit × DataW H) → Nat
  | [] => 0
  | x :: r => uptoBulkEntry x + uptoBulkEntries r
def uptoBulkEntry {H : Type} : Lit × DataW H → Nat
  | (.string bytes, d) => bytes.length + uptoBulk d + 1
  | (_, d) => uptoBulk d + 1
 end
def uptoSmall : (H : Type) → List (DataW H) → Bool := fun _ ds => decide (uptoBulkAll ds ≤ 1048576)
def OpenSpec.upto (s : _root_.Go.ChangeSpec) : _root_.Go.OpenSpec := { _root_.Go.OpenSpec.ofChange s with cond := some uptoSmall }

/-- 'citadellaw04.HmacTags', WHERE WHAT IT READS IS OF BULK AT MOST 1048576: true; the input reads as it did. -/
def hmacTagsUptoRow : OpenClaim := { program := "ytgkmkkfnpoapfaadoor", sum := "db741973f28d4f99f05ff19f281d1e6a266949750c881cb34342f4bd203c10ce", func := "citadel/citadellaw04.HmacTags", spec := "hmacTags", unfollowed := true, recurses := true, named := ["citadel/sha.primes"], apart := false, laid := [("citadel/sha.primes", laid_citadel_sha_primes)], narrowed := true }
def HmacTagsUptoSaid : Prop := hmacTagsUptoRow.holds Tryd.pinned (OpenSpec.upto hmacTagsSpec)

/-- 'citadellaw04.HmacPurposes', WHERE WHAT IT READS IS OF BULK AT MOST 1048576: true; the input reads as it did. -/
def hmacPurposesUptoRow : OpenClaim := { program := "ytgkmkkfnpoapfaadoor", sum := "db741973f28d4f99f05ff19f281d1e6a266949750c881cb34342f4bd203c10ce", func := "citadel/citadellaw04.HmacPurposes", spec := "hmacPurposes", unfollowed := true, recurses := true, named := ["citadel/sha.primes"], apart := false, laid := [("citadel/sha.primes", laid_citadel_sha_primes)], narrowed := true }
def HmacPurposesUptoSaid : Prop := hmacPurposesUptoRow.holds Tryd.pinned (OpenSpec.upto hmacPurposesSpec)

/-- 'citadellaw04.HmacOpens', WHERE WHAT IT READS IS OF BULK AT MOST 1048576: true; the input reads as it did. -/
def hmacOpensUptoRow : OpenClaim := { program := "ytgkmkkfnpoapfaadoor", sum := "db741973f28d4f99f05ff19f281d1e6a266949750c881cb34342f4bd203c10ce", func := "citadel/citadellaw04.HmacOpens", spec := "hmacOpens", unfollowed := true, recurses := true, named := ["citadel/sha.primes"], apart := false, laid := [("citadel/sha.primes", laid_citadel_sha_primes)], narrowed := true }
def HmacOpensUptoSaid : Prop := hmacOpensUptoRow.holds Tryd.pinned (OpenSpec.upto hmacOpensSpec)

/-- 'citadellaw04.HmacTwo', WHERE WHAT IT READS IS OF BULK AT MOST 1048576: true; the input reads as it did. -/
def hmacTwoUptoRow : OpenClaim := { program := "ytgkmkkfnpoapfaadoor", sum := "db741973f28d4f99f05ff19f281d1e6a266949750c881cb34342f4bd203c10ce", func := "citadel/citadellaw04.HmacTwo", spec := "hmacTwo", unfollowed := true, recurses := true, named := ["citadel/sha.primes"], apart := false, laid := [("citadel/sha.primes", laid_citadel_sha_primes)], narrowed := true }
def HmacTwoUptoSaid : Prop := hmacTwoUptoRow.holds Tryd.pinned (OpenSpec.upto hmacTwoSpec)

end Rows
end Go.Proofs.YtgkmkkfnpoapfaaDoor
