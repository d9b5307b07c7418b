/-
  DERIVED. GIVEN WITH THE SEED: THE CARDS: each row of YtfdlopimncodcaaGreatDoorRows.lean that lists a variable, with what it lists TIED to the program's text (the seventh form; the later family's looks); each row that meets fmt, with fmt's text TOLD by the authors' own Lean function (tested against real Go, not proved from fmt's source: count such statements apart). THE CARD IS WHAT COUNTS. Prove the row's statement (the work); the ties are given (YtfdlopimncodcaaGreatDoorTie.lean); close each card by the builder's one call (the guide's Derived/Test/ToyasCard.lean, 'card_holds'). Laid BY PROGRAM, IN A SANDBOX (cutbox-door.mjs). By AI agents, Wed Nov 11 2026. No macro, syntax, notation, axiom, sorry.
-/
import Derived.Test.YtfdlopimncodcaaGreatDoorRows
import GoSem.ClaimSeven
namespace Go.Proofs.YtfdlopimncodcaaGreatDoor
namespace Rows

/-- THE TIED CARD OF 'letterboxlaw.HousePlays'. -/
def housePlaysCard : Claim7 := { stood := { row := housePlaysRow, standIns := [], harness := (true, "57e97534ec5f40d3bc55c27a90df2bbf9f9bb78b6f24832e2f1421cfc9bf68dd"), looks := true }, kinds := [], alts := [], laidByText := true, laidKinds := [.data, .handle, .data, .pinned], laidTests := true, laidLooks := .later }
def HousePlaysCardSaid : Prop := Claim7.holds Tryz.pinned (.plain (OpenSpec.ofChange housePlaysSpec)) housePlaysCard

/-- THE TIED CARD OF 'letterboxkeep.HouseWhole'. -/
def houseWholeCard : Claim7 := { stood := { row := houseWholeRow, standIns := [], harness := (true, "57e97534ec5f40d3bc55c27a90df2bbf9f9bb78b6f24832e2f1421cfc9bf68dd"), looks := true }, kinds := [], alts := [], laidByText := true, laidKinds := [.data, .data, .data, .data, .handle, .data, .pinned], laidTests := true, laidLooks := .later }
def HouseWholeCardSaid : Prop := Claim7.holds Tryz.pinned (.plain (OpenSpec.ofChange houseWholeSpec)) houseWholeCard

/-- THE TIED CARD OF 'letterboxkeep.HouseMoves'. -/
def houseMovesCard : Claim7 := { stood := { row := houseMovesRow, standIns := [], harness := (true, "57e97534ec5f40d3bc55c27a90df2bbf9f9bb78b6f24832e2f1421cfc9bf68dd"), looks := true }, kinds := [], alts := [], laidByText := true, laidKinds := [.data, .data, .data, .data, .handle, .data, .pinned], laidTests := true, laidLooks := .later }
def HouseMovesCardSaid : Prop := Claim7.holds Tryz.pinned (.plain (OpenSpec.ofChange houseMovesSpec)) houseMovesCard

/-- THE TIED CARD OF 'letterboxkeep.HouseWants'. -/
def houseWantsCard : Claim7 := { stood := { row := houseWantsRow, standIns := [], harness := (true, "57e97534ec5f40d3bc55c27a90df2bbf9f9bb78b6f24832e2f1421cfc9bf68dd"), looks := true }, kinds := [], alts := [], laidByText := true, laidKinds := [.data, .handle, .data, .pinned], laidTests := true, laidLooks := .later }
def HouseWantsCardSaid : Prop := Claim7.holds Tryz.pinned (.plain (OpenSpec.ofChange houseWantsSpec)) houseWantsCard

/-- THE TIED CARD OF 'letterboxkeep.HouseMatch'. -/
def houseMatchCard : Claim7 := { stood := { row := houseMatchRow, standIns := [], harness := (true, "57e97534ec5f40d3bc55c27a90df2bbf9f9bb78b6f24832e2f1421cfc9bf68dd"), looks := true }, kinds := [], alts := [], laidByText := true, laidKinds := [.data, .handle, .pinned], laidTests := true, laidLooks := .later }
def HouseMatchCardSaid : Prop := Claim7.holds Tryz.pinned (.plain (OpenSpec.ofChange houseMatchSpec)) houseMatchCard

/-- THE SECOND FORM's CARD OF 'letterboxlaw.HousePlays'. -/
def housePlaysUptoCard : Claim7 := { stood := { row := housePlaysUptoRow, standIns := [], harness := (true, "57e97534ec5f40d3bc55c27a90df2bbf9f9bb78b6f24832e2f1421cfc9bf68dd"), looks := true }, kinds := [], alts := [], laidByText := true, laidKinds := [.data, .handle, .data, .pinned], laidTests := true, laidLooks := .later }
def HousePlaysUptoCardSaid : Prop := Claim7.holds Tryz.pinned (.plain (OpenSpec.upto housePlaysSpec)) housePlaysUptoCard

/-- THE SECOND FORM's CARD OF 'letterboxkeep.HouseWhole'. -/
def houseWholeUptoCard : Claim7 := { stood := { row := houseWholeUptoRow, standIns := [], harness := (true, "57e97534ec5f40d3bc55c27a90df2bbf9f9bb78b6f24832e2f1421cfc9bf68dd"), looks := true }, kinds := [], alts := [], laidByText := true, laidKinds := [.data, .data, .data, .data, .handle, .data, .pinned], laidTests := true, laidLooks := .later }
def HouseWholeUptoCardSaid : Prop := Claim7.holds Tryz.pinned (.plain (OpenSpec.upto houseWholeSpec)) houseWholeUptoCard

/-- THE SECOND FORM's CARD OF 'letterboxkeep.HouseMoves'. -/
def houseMovesUptoCard : Claim7 := { stood := { row := houseMovesUptoRow, standIns := [], harness := (true, "57e97534ec5f40d3bc55c27a90df2bbf9f9bb78b6f24832e2f1421cfc9bf68dd"), looks := true }, kinds := [], alts := [], laidByText := true, laidKinds := [.data, .data, .data, .data, .handle, .data, .pinned], laidTests := true, laidLooks := .later }
def HouseMovesUptoCardSaid : Prop := Claim7.holds Tryz.pinned (.plain (OpenSpec.upto houseMovesSpec)) houseMovesUptoCard

/-- THE SECOND FORM's CARD OF 'letterboxkeep.HouseWants'. -/
def houseWantsUptoCard : Claim7 := { stood := { row := houseWantsUptoRow, standIns := [], harness := (true, "57e97534ec5f40d3bc55c27a90df2bbf9f9bb78b6f24832e2f1421cfc9bf68dd"), looks := true }, kinds := [], alts := [], laidByText := true, laidKinds := [.data, .handle, .data, .pinned], laidTests := true, laidLooks := .later }
def HouseWantsUptoCardSaid : Prop := Claim7.holds Tryz.pinned (.plain (OpenSpec.upto houseWantsSpec)) houseWantsUptoCard

/-- THE SECOND FORM's CARD OF 'letterboxkeep.HouseMatch'. -/
def houseMatchUptoCard : Claim7 := { stood := { row := houseMatchUptoRow, standIns := [], harness := (true, "57e97534ec5f40d3bc55c27a90df2bbf9f9bb78b6f24832e2f1421cfc9bf68dd"), looks := true }, kinds := [], alts := [], laidByText := true, laidKinds := [.data, .handle, .pinned], laidTests := true, laidLooks := .later }
def HouseMatchUptoCardSaid : Prop := Claim7.holds Tryz.pinned (.plain (OpenSpec.upto houseMatchSpec)) houseMatchUptoCard
end Rows
end Go.Proofs.YtfdlopimncodcaaGreatDoor
