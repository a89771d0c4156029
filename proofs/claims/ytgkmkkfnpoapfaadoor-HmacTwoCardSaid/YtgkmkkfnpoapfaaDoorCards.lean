/-
  DERIVED. GIVEN WITH THE SEED: THE CARDS: each row of YtgkmkkfnpoapfaaDoorRows.lean that lists a variable, with what it lists TIED to the program's text (the seventh form; the later family's looks); each row that meets fmt, with fmt's text TOLD by the authors' own Lean function (tested against real Go, not proved from fmt's source: count such statements apart). THE CARD IS WHAT COUNTS. Prove the row's statement (the work); the ties are given (YtgkmkkfnpoapfaaDoorTie.lean); close each card by the builder's one call (the guide's Derived/Test/ToyasCard.lean, 'card_holds'). Laid BY PROGRAM, IN A SANDBOX (cutbox-door.mjs). By AI agents, Wed Nov 11 2026. No macro, syntax, notation, axiom, sorry.
-/
import Derived.Test.YtgkmkkfnpoapfaaDoorRows
import GoSem.ClaimSeven
namespace Go.Proofs.YtgkmkkfnpoapfaaDoor
namespace Rows

/-- THE TIED CARD OF 'citadellaw04.HmacTags'. -/
def hmacTagsCard : Claim7 := { stood := { row := hmacTagsRow, standIns := [], harness := (true, "e5f2c3425105077827567abc859b11bc5c8cf0b4033579a2928eba110655a825"), looks := false }, kinds := [], alts := [], laidByText := true, laidKinds := [.data], laidTests := true, laidLooks := .later }
def HmacTagsCardSaid : Prop := Claim7.holds Tryd.pinned (.plain (OpenSpec.ofChange hmacTagsSpec)) hmacTagsCard

/-- THE TIED CARD OF 'citadellaw04.HmacPurposes'. -/
def hmacPurposesCard : Claim7 := { stood := { row := hmacPurposesRow, standIns := [], harness := (true, "e5f2c3425105077827567abc859b11bc5c8cf0b4033579a2928eba110655a825"), looks := false }, kinds := [], alts := [], laidByText := true, laidKinds := [.data], laidTests := true, laidLooks := .later }
def HmacPurposesCardSaid : Prop := Claim7.holds Tryd.pinned (.plain (OpenSpec.ofChange hmacPurposesSpec)) hmacPurposesCard

/-- THE TIED CARD OF 'citadellaw04.HmacOpens'. -/
def hmacOpensCard : Claim7 := { stood := { row := hmacOpensRow, standIns := [], harness := (true, "e5f2c3425105077827567abc859b11bc5c8cf0b4033579a2928eba110655a825"), looks := false }, kinds := [], alts := [], laidByText := true, laidKinds := [.data], laidTests := true, laidLooks := .later }
def HmacOpensCardSaid : Prop := Claim7.holds Tryd.pinned (.plain (OpenSpec.ofChange hmacOpensSpec)) hmacOpensCard

/-- THE TIED CARD OF 'citadellaw04.HmacTwo'. -/
def hmacTwoCard : Claim7 := { stood := { row := hmacTwoRow, standIns := [], harness := (true, "e5f2c3425105077827567abc859b11bc5c8cf0b4033579a2928eba110655a825"), looks := false }, kinds := [], alts := [], laidByText := true, laidKinds := [.data], laidTests := true, laidLooks := .later }
def HmacTwoCardSaid : Prop := Claim7.holds Tryd.pinned (.plain (OpenSpec.ofChange hmacTwoSpec)) hmacTwoCard

/-- THE SECOND FORM's CARD OF 'citadellaw04.HmacTags'. -/
def hmacTagsUptoCard : Claim7 := { stood := { row := hmacTagsUptoRow, standIns := [], harness := (true, "e5f2c3425105077827567abc859b11bc5c8cf0b4033579a2928eba110655a825"), looks := false }, kinds := [], alts := [], laidByText := true, laidKinds := [.data], laidTests := true, laidLooks := .later }
def HmacTagsUptoCardSaid : Prop := Claim7.holds Tryd.pinned (.plain (OpenSpec.upto hmacTagsSpec)) hmacTagsUptoCard

/-- THE SECOND FORM's CARD OF 'citadellaw04.HmacPurposes'. -/
def hmacPurposesUptoCard : Claim7 := { stood := { row := hmacPurposesUptoRow, standIns := [], harness := (true, "e5f2c3425105077827567abc859b11bc5c8cf0b4033579a2928eba110655a825"), looks := false }, kinds := [], alts := [], laidByText := true, laidKinds := [.data], laidTests := true, laidLooks := .later }
def HmacPurposesUptoCardSaid : Prop := Claim7.holds Tryd.pinned (.plain (OpenSpec.upto hmacPurposesSpec)) hmacPurposesUptoCard

/-- THE SECOND FORM's CARD OF 'citadellaw04.HmacOpens'. -/
def hmacOpensUptoCard : Claim7 := { stood := { row := hmacOpensUptoRow, standIns := [], harness := (true, "e5f2c3425105077827567abc859b11bc5c8cf0b4033579a2928eba110655a825"), looks := false }, kinds := [], alts := [], laidByText := true, laidKinds := [.data], laidTests := true, laidLooks := .later }
def HmacOpensUptoCardSaid : Prop := Claim7.holds Tryd.pinned (.plain (OpenSpec.upto hmacOpensSpec)) hmacOpensUptoCard

/-- THE SECOND FORM's CARD OF 'citadellaw04.HmacTwo'. -/
def hmacTwoUptoCard : Claim7 := { stood := { row := hmacTwoUptoRow, standIns := [], harness := (true, "e5f2c3425105077827567abc859b11bc5c8cf0b4033579a2928eba110655a825"), looks := false }, kinds := [], alts := [], laidByText := true, laidKinds := [.data], laidTests := true, laidLooks := .later }
def HmacTwoUptoCardSaid : Prop := Claim7.holds Tryd.pinned (.plain (OpenSpec.upto hmacTwoSpec)) hmacTwoUptoCard
end Rows
end Go.Proofs.YtgkmkkfnpoapfaaDoor
