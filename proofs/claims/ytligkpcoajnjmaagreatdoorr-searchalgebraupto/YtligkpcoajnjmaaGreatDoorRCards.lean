/-
  DERIVED. GIVEN WITH THE SEED: THE CARDS: each row of YtligkpcoajnjmaaGreatDoorRRows.lean that lists a variable, with what it lists TIED to the program's text (the seventh form; the later family's looks); each row that meets fmt, with fmt's text TOLD by the authors' own Lean function (tested against real Go, not proved from fmt's source: count such statements apart). THE CARD IS WHAT COUNTS. Prove the row's statement (the work); the ties are given (YtligkpcoajnjmaaGreatDoorRTie.lean); close each card by the builder's one call (the guide's Derived/Test/ToyasCard.lean, 'card_holds'). Laid BY PROGRAM, IN A SANDBOX (cutbox-door.mjs). By AI agents, Wed Nov 11 2026. No macro, syntax, notation, axiom, sorry.
-/
import Derived.Test.YtligkpcoajnjmaaGreatDoorRRows
import GoSem.ClaimSeven
namespace Go.Proofs.YtligkpcoajnjmaaGreatDoorR
namespace Rows

/-- THE TIED CARD OF 'letterboxkeep.SearchAlgebra'. -/
def searchAlgebraCard : Claim7 := { stood := { row := searchAlgebraRow, standIns := [], harness := (true, "29eb9722649d8665da9238f1f03674abc418a4267fc0f6e03c8233be63fe8d7d"), looks := true }, kinds := [], alts := [], laidByText := true, laidKinds := [.data, .data, .data, .data, .handle, .sentinel, .sentinel, .data, .pinned], laidTests := true, laidLooks := .later }
def SearchAlgebraCardSaid : Prop := Claim7.holds Tryz.pinned (.plain (OpenSpec.ofChange searchAlgebraSpec)) searchAlgebraCard

/-- THE TIED CARD OF 'letterboxkeep.SearchNumbers'. -/
def searchNumbersCard : Claim7 := { stood := { row := searchNumbersRow, standIns := [], harness := (true, "29eb9722649d8665da9238f1f03674abc418a4267fc0f6e03c8233be63fe8d7d"), looks := true }, kinds := [], alts := [], laidByText := true, laidKinds := [.data, .data, .data, .data, .handle, .sentinel, .sentinel, .data, .pinned], laidTests := true, laidLooks := .later }
def SearchNumbersCardSaid : Prop := Claim7.holds Tryz.pinned (.plain (OpenSpec.ofChange searchNumbersSpec)) searchNumbersCard

/-- THE TIED CARD OF 'letterboxlaw.WireReads'. -/
def wireReadsCard : Claim7 := { stood := { row := wireReadsRow, standIns := [], harness := (true, "29eb9722649d8665da9238f1f03674abc418a4267fc0f6e03c8233be63fe8d7d"), looks := true }, kinds := [], alts := [], laidByText := true, laidKinds := [.data, .data, .data, .data, .handle, .sentinel, .sentinel, .data, .pinned], laidTests := true, laidLooks := .later }
def WireReadsCardSaid : Prop := Claim7.holds Tryz.pinned (.plain (OpenSpec.ofChange wireReadsSpec)) wireReadsCard

/-- THE TIED CARD OF 'letterboxlaw.BoxPlays'. -/
def boxPlaysCard : Claim7 := { stood := { row := boxPlaysRow, standIns := [], harness := (true, "29eb9722649d8665da9238f1f03674abc418a4267fc0f6e03c8233be63fe8d7d"), looks := true }, kinds := [], alts := [], laidByText := true, laidKinds := [.handle, .data], laidTests := true, laidLooks := .later }
def BoxPlaysCardSaid : Prop := Claim7.holds Tryz.pinned (.plain (OpenSpec.ofChange boxPlaysSpec)) boxPlaysCard

/-- THE SECOND FORM's CARD OF 'letterboxkeep.SearchAlgebra'. -/
def searchAlgebraUptoCard : Claim7 := { stood := { row := searchAlgebraUptoRow, standIns := [], harness := (true, "29eb9722649d8665da9238f1f03674abc418a4267fc0f6e03c8233be63fe8d7d"), looks := true }, kinds := [], alts := [], laidByText := true, laidKinds := [.data, .data, .data, .data, .handle, .sentinel, .sentinel, .data, .pinned], laidTests := true, laidLooks := .later }
def SearchAlgebraUptoCardSaid : Prop := Claim7.holds Tryz.pinned (.plain (OpenSpec.upto searchAlgebraSpec)) searchAlgebraUptoCard

/-- THE SECOND FORM's CARD OF 'letterboxkeep.SearchNumbers'. -/
def searchNumbersUptoCard : Claim7 := { stood := { row := searchNumbersUptoRow, standIns := [], harness := (true, "29eb9722649d8665da9238f1f03674abc418a4267fc0f6e03c8233be63fe8d7d"), looks := true }, kinds := [], alts := [], laidByText := true, laidKinds := [.data, .data, .data, .data, .handle, .sentinel, .sentinel, .data, .pinned], laidTests := true, laidLooks := .later }
def SearchNumbersUptoCardSaid : Prop := Claim7.holds Tryz.pinned (.plain (OpenSpec.upto searchNumbersSpec)) searchNumbersUptoCard

/-- THE SECOND FORM's CARD OF 'letterboxlaw.WireReads'. -/
def wireReadsUptoCard : Claim7 := { stood := { row := wireReadsUptoRow, standIns := [], harness := (true, "29eb9722649d8665da9238f1f03674abc418a4267fc0f6e03c8233be63fe8d7d"), looks := true }, kinds := [], alts := [], laidByText := true, laidKinds := [.data, .data, .data, .data, .handle, .sentinel, .sentinel, .data, .pinned], laidTests := true, laidLooks := .later }
def WireReadsUptoCardSaid : Prop := Claim7.holds Tryz.pinned (.plain (OpenSpec.upto wireReadsSpec)) wireReadsUptoCard

/-- THE SECOND FORM's CARD OF 'letterboxlaw.BoxPlays'. -/
def boxPlaysUptoCard : Claim7 := { stood := { row := boxPlaysUptoRow, standIns := [], harness := (true, "29eb9722649d8665da9238f1f03674abc418a4267fc0f6e03c8233be63fe8d7d"), looks := true }, kinds := [], alts := [], laidByText := true, laidKinds := [.handle, .data], laidTests := true, laidLooks := .later }
def BoxPlaysUptoCardSaid : Prop := Claim7.holds Tryz.pinned (.plain (OpenSpec.upto boxPlaysSpec)) boxPlaysUptoCard
end Rows
end Go.Proofs.YtligkpcoajnjmaaGreatDoorR
