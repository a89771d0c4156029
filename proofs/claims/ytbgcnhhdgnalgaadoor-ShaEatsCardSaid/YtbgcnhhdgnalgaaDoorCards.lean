/-
  DERIVED. GIVEN WITH THE SEED: THE CARDS: each row of YtbgcnhhdgnalgaaDoorRows.lean that lists a variable, with what it lists TIED to the program's text (the seventh form; the later family's looks); each row that meets fmt, with fmt's text TOLD by the authors' own Lean function (tested against real Go, not proved from fmt's source: count such statements apart). THE CARD IS WHAT COUNTS. Prove the row's statement (the work); the ties are given (YtbgcnhhdgnalgaaDoorTie.lean); close each card by the builder's one call (the guide's Derived/Test/ToyasCard.lean, 'card_holds'). Laid BY PROGRAM, IN A SANDBOX (cutbox-door.mjs). By AI agents, Wed Nov 11 2026. No macro, syntax, notation, axiom, sorry.
-/
import Derived.Test.YtbgcnhhdgnalgaaDoorRows
import GoSem.ClaimSeven
namespace Go.Proofs.YtbgcnhhdgnalgaaDoor
namespace Rows

/-- THE TIED CARD OF 'citadellaw03.ShaEats'. -/
def shaEatsCard : Claim7 := { stood := { row := shaEatsRow, standIns := [], harness := (true, "1054ef35c10a5fd616081a3e46fcf34565af88e9414af5c9f4dd1d58ac03c9e2"), looks := false }, kinds := [], alts := [], laidByText := true, laidKinds := [.data], laidTests := true, laidLooks := .later }
def ShaEatsCardSaid : Prop := Claim7.holds Tryd.pinned (.plain (OpenSpec.ofChange shaEatsSpec)) shaEatsCard

/-- THE TIED CARD OF 'citadellaw03.ShaSums'. -/
def shaSumsCard : Claim7 := { stood := { row := shaSumsRow, standIns := [], harness := (true, "1054ef35c10a5fd616081a3e46fcf34565af88e9414af5c9f4dd1d58ac03c9e2"), looks := false }, kinds := [], alts := [], laidByText := true, laidKinds := [.data], laidTests := true, laidLooks := .later }
def ShaSumsCardSaid : Prop := Claim7.holds Tryd.pinned (.plain (OpenSpec.ofChange shaSumsSpec)) shaSumsCard

/-- THE TIED CARD OF 'citadellaw03.ShaChains'. -/
def shaChainsCard : Claim7 := { stood := { row := shaChainsRow, standIns := [], harness := (true, "1054ef35c10a5fd616081a3e46fcf34565af88e9414af5c9f4dd1d58ac03c9e2"), looks := false }, kinds := [], alts := [], laidByText := true, laidKinds := [.data], laidTests := true, laidLooks := .later }
def ShaChainsCardSaid : Prop := Claim7.holds Tryd.pinned (.plain (OpenSpec.ofChange shaChainsSpec)) shaChainsCard

/-- THE TIED CARD OF 'citadellaw03.ShaTails'. -/
def shaTailsCard : Claim7 := { stood := { row := shaTailsRow, standIns := [], harness := (true, "1054ef35c10a5fd616081a3e46fcf34565af88e9414af5c9f4dd1d58ac03c9e2"), looks := false }, kinds := [], alts := [], laidByText := true, laidKinds := [.data], laidTests := true, laidLooks := .later }
def ShaTailsCardSaid : Prop := Claim7.holds Tryd.pinned (.plain (OpenSpec.ofChange shaTailsSpec)) shaTailsCard

/-- THE TIED CARD OF 'citadellaw03.ShaChained'. -/
def shaChainedCard : Claim7 := { stood := { row := shaChainedRow, standIns := [], harness := (true, "1054ef35c10a5fd616081a3e46fcf34565af88e9414af5c9f4dd1d58ac03c9e2"), looks := false }, kinds := [], alts := [], laidByText := true, laidKinds := [.data], laidTests := true, laidLooks := .later }
def ShaChainedCardSaid : Prop := Claim7.holds Tryd.pinned (.plain (OpenSpec.ofChange shaChainedSpec)) shaChainedCard

/-- THE SECOND FORM's CARD OF 'citadellaw03.ShaEats'. -/
def shaEatsUptoCard : Claim7 := { stood := { row := shaEatsUptoRow, standIns := [], harness := (true, "1054ef35c10a5fd616081a3e46fcf34565af88e9414af5c9f4dd1d58ac03c9e2"), looks := false }, kinds := [], alts := [], laidByText := true, laidKinds := [.data], laidTests := true, laidLooks := .later }
def ShaEatsUptoCardSaid : Prop := Claim7.holds Tryd.pinned (.plain (OpenSpec.upto shaEatsSpec)) shaEatsUptoCard

/-- THE SECOND FORM's CARD OF 'citadellaw03.ShaSums'. -/
def shaSumsUptoCard : Claim7 := { stood := { row := shaSumsUptoRow, standIns := [], harness := (true, "1054ef35c10a5fd616081a3e46fcf34565af88e9414af5c9f4dd1d58ac03c9e2"), looks := false }, kinds := [], alts := [], laidByText := true, laidKinds := [.data], laidTests := true, laidLooks := .later }
def ShaSumsUptoCardSaid : Prop := Claim7.holds Tryd.pinned (.plain (OpenSpec.upto shaSumsSpec)) shaSumsUptoCard

/-- THE SECOND FORM's CARD OF 'citadellaw03.ShaChains'. -/
def shaChainsUptoCard : Claim7 := { stood := { row := shaChainsUptoRow, standIns := [], harness := (true, "1054ef35c10a5fd616081a3e46fcf34565af88e9414af5c9f4dd1d58ac03c9e2"), looks := false }, kinds := [], alts := [], laidByText := true, laidKinds := [.data], laidTests := true, laidLooks := .later }
def ShaChainsUptoCardSaid : Prop := Claim7.holds Tryd.pinned (.plain (OpenSpec.upto shaChainsSpec)) shaChainsUptoCard

/-- THE SECOND FORM's CARD OF 'citadellaw03.ShaTails'. -/
def shaTailsUptoCard : Claim7 := { stood := { row := shaTailsUptoRow, standIns := [], harness := (true, "1054ef35c10a5fd616081a3e46fcf34565af88e9414af5c9f4dd1d58ac03c9e2"), looks := false }, kinds := [], alts := [], laidByText := true, laidKinds := [.data], laidTests := true, laidLooks := .later }
def ShaTailsUptoCardSaid : Prop := Claim7.holds Tryd.pinned (.plain (OpenSpec.upto shaTailsSpec)) shaTailsUptoCard

/-- THE SECOND FORM's CARD OF 'citadellaw03.ShaChained'. -/
def shaChainedUptoCard : Claim7 := { stood := { row := shaChainedUptoRow, standIns := [], harness := (true, "1054ef35c10a5fd616081a3e46fcf34565af88e9414af5c9f4dd1d58ac03c9e2"), looks := false }, kinds := [], alts := [], laidByText := true, laidKinds := [.data], laidTests := true, laidLooks := .later }
def ShaChainedUptoCardSaid : Prop := Claim7.holds Tryd.pinned (.plain (OpenSpec.upto shaChainedSpec)) shaChainedUptoCard
end Rows
end Go.Proofs.YtbgcnhhdgnalgaaDoor
