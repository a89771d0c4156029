/-
  DERIVED. GIVEN WITH THE SEED: THE CARDS: each row of YtopilgedcnbdaaaGreatDoorRows.lean that lists a variable, with what it lists TIED to the program's text (the seventh form; the later family's looks); each row that meets fmt, with fmt's text TOLD by the authors' own Lean function (tested against real Go, not proved from fmt's source: count such statements apart). THE CARD IS WHAT COUNTS. Prove the row's statement (the work); the ties are given (YtopilgedcnbdaaaGreatDoorTie.lean); close each card by the builder's one call (the guide's Derived/Test/ToyasCard.lean, 'card_holds'). Laid BY PROGRAM, IN A SANDBOX (cutbox-door.mjs). By AI agents, Wed Nov 11 2026. No macro, syntax, notation, axiom, sorry.
-/
import Derived.Test.YtopilgedcnbdaaaGreatDoorRows
import GoSem.ClaimSeven
namespace Go.Proofs.YtopilgedcnbdaaaGreatDoor
namespace Rows

/-- THE TIED CARD OF 'citadellaw15.SlotPlays'. -/
def slotPlaysCard : Claim7 := { stood := { row := slotPlaysRow, standIns := [], harness := (true, "9b3779587c541d70a0fe8787637d4b315ef16b4c131d115a81e62e89c1b93fa5"), looks := false }, kinds := [], alts := [], laidByText := true, laidKinds := [.data], laidTests := true, laidLooks := .later }
def SlotPlaysCardSaid : Prop := Claim7.holds Tryz.pinned (.plain (OpenSpec.ofChange slotPlaysSpec)) slotPlaysCard

/-- THE SECOND FORM's CARD OF 'citadellaw15.SlotPlays'. -/
def slotPlaysUptoCard : Claim7 := { stood := { row := slotPlaysUptoRow, standIns := [], harness := (true, "9b3779587c541d70a0fe8787637d4b315ef16b4c131d115a81e62e89c1b93fa5"), looks := false }, kinds := [], alts := [], laidByText := true, laidKinds := [.data], laidTests := true, laidLooks := .later }
def SlotPlaysUptoCardSaid : Prop := Claim7.holds Tryz.pinned (.plain (OpenSpec.upto slotPlaysSpec)) slotPlaysUptoCard
end Rows
end Go.Proofs.YtopilgedcnbdaaaGreatDoor
