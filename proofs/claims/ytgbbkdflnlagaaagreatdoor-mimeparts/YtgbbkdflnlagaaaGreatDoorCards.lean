/-
  DERIVED. GIVEN WITH THE SEED: THE CARDS: each row of YtgbbkdflnlagaaaGreatDoorRows.lean that lists a variable, with what it lists TIED to the program's text (the seventh form; the later family's looks); each row that meets fmt, with fmt's text TOLD by the authors' own Lean function (tested against real Go, not proved from fmt's source: count such statements apart). THE CARD IS WHAT COUNTS. Prove the row's statement (the work); the ties are given (YtgbbkdflnlagaaaGreatDoorTie.lean); close each card by the builder's one call (the guide's Derived/Test/ToyasCard.lean, 'card_holds'). Laid BY PROGRAM, IN A SANDBOX (cutbox-door.mjs). By AI agents, Wed Nov 11 2026. No macro, syntax, notation, axiom, sorry.
-/
import Derived.Test.YtgbbkdflnlagaaaGreatDoorRows
import GoSem.ClaimSeven
namespace Go.Proofs.YtgbbkdflnlagaaaGreatDoor
namespace Rows

/-- THE TIED CARD OF 'letterboxlaw.MimeParts'. -/
def mimePartsCard : Claim7 := { stood := { row := mimePartsRow, standIns := [], harness := (true, "efc854c3e48b563c18ef11ab96088e3dfbf40e49df3bbb45d302faeae08423a9"), looks := true }, kinds := [], alts := [], laidByText := true, laidKinds := [.data, .data, .data, .data, .handle, .data, .pinned], laidTests := true, laidLooks := .later }
def MimePartsCardSaid : Prop := Claim7.holds Tryz.pinned (.plain (OpenSpec.ofChange mimePartsSpec)) mimePartsCard

/-- THE TIED CARD OF 'letterboxlaw.SearchFinds'. -/
def searchFindsCard : Claim7 := { stood := { row := searchFindsRow, standIns := [], harness := (true, "efc854c3e48b563c18ef11ab96088e3dfbf40e49df3bbb45d302faeae08423a9"), looks := true }, kinds := [], alts := [], laidByText := true, laidKinds := [.data, .data, .data, .data, .handle, .sentinel, .sentinel, .data, .data, .pinned], laidTests := true, laidLooks := .later }
def SearchFindsCardSaid : Prop := Claim7.holds Tryz.pinned (.plain (OpenSpec.ofChange searchFindsSpec)) searchFindsCard

/-- THE TIED CARD OF 'letterboxkeep.SearchAlgebra'. -/
def searchAlgebraCard : Claim7 := { stood := { row := searchAlgebraRow, standIns := [], harness := (true, "efc854c3e48b563c18ef11ab96088e3dfbf40e49df3bbb45d302faeae08423a9"), looks := true }, kinds := [], alts := [], laidByText := true, laidKinds := [.data, .data, .data, .data, .handle, .sentinel, .sentinel, .data, .pinned], laidTests := true, laidLooks := .later }
def SearchAlgebraCardSaid : Prop := Claim7.holds Tryz.pinned (.plain (OpenSpec.ofChange searchAlgebraSpec)) searchAlgebraCard

/-- THE TIED CARD OF 'letterboxkeep.SearchNumbers'. -/
def searchNumbersCard : Claim7 := { stood := { row := searchNumbersRow, standIns := [], harness := (true, "efc854c3e48b563c18ef11ab96088e3dfbf40e49df3bbb45d302faeae08423a9"), looks := true }, kinds := [], alts := [], laidByText := true, laidKinds := [.data, .data, .data, .data, .handle, .sentinel, .sentinel, .data, .pinned], laidTests := true, laidLooks := .later }
def SearchNumbersCardSaid : Prop := Claim7.holds Tryz.pinned (.plain (OpenSpec.ofChange searchNumbersSpec)) searchNumbersCard

/-- THE SECOND FORM's CARD OF 'letterboxlaw.MimeParts'. -/
def mimePartsUptoCard : Claim7 := { stood := { row := mimePartsUptoRow, standIns := [], harness := (true, "efc854c3e48b563c18ef11ab96088e3dfbf40e49df3bbb45d302faeae08423a9"), looks := true }, kinds := [], alts := [], laidByText := true, laidKinds := [.data, .data, .data, .data, .handle, .data, .pinned], laidTests := true, laidLooks := .later }
def MimePartsUptoCardSaid : Prop := Claim7.holds Tryz.pinned (.plain (OpenSpec.upto mimePartsSpec)) mimePartsUptoCard

/-- THE SECOND FORM's CARD OF 'letterboxlaw.SearchFinds'. -/
def searchFindsUptoCard : Claim7 := { stood := { row := searchFindsUptoRow, standIns := [], harness := (true, "efc854c3e48b563c18ef11ab96088e3dfbf40e49df3bbb45d302faeae08423a9"), looks := true }, kinds := [], alts := [], laidByText := true, laidKinds := [.data, .data, .data, .data, .handle, .sentinel, .sentinel, .data, .data, .pinned], laidTests := true, laidLooks := .later }
def SearchFindsUptoCardSaid : Prop := Claim7.holds Tryz.pinned (.plain (OpenSpec.upto searchFindsSpec)) searchFindsUptoCard

/-- THE SECOND FORM's CARD OF 'letterboxkeep.SearchAlgebra'. -/
def searchAlgebraUptoCard : Claim7 := { stood := { row := searchAlgebraUptoRow, standIns := [], harness := (true, "efc854c3e48b563c18ef11ab96088e3dfbf40e49df3bbb45d302faeae08423a9"), looks := true }, kinds := [], alts := [], laidByText := true, laidKinds := [.data, .data, .data, .data, .handle, .sentinel, .sentinel, .data, .pinned], laidTests := true, laidLooks := .later }
def SearchAlgebraUptoCardSaid : Prop := Claim7.holds Tryz.pinned (.plain (OpenSpec.upto searchAlgebraSpec)) searchAlgebraUptoCard

/-- THE SECOND FORM's CARD OF 'letterboxkeep.SearchNumbers'. -/
def searchNumbersUptoCard : Claim7 := { stood := { row := searchNumbersUptoRow, standIns := [], harness := (true, "efc854c3e48b563c18ef11ab96088e3dfbf40e49df3bbb45d302faeae08423a9"), looks := true }, kinds := [], alts := [], laidByText := true, laidKinds := [.data, .data, .data, .data, .handle, .sentinel, .sentinel, .data, .pinned], laidTests := true, laidLooks := .later }
def SearchNumbersUptoCardSaid : Prop := Claim7.holds Tryz.pinned (.plain (OpenSpec.upto searchNumbersSpec)) searchNumbersUptoCard
end Rows
end Go.Proofs.YtgbbkdflnlagaaaGreatDoor
