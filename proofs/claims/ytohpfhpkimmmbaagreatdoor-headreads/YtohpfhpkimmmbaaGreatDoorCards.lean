/-
  DERIVED. GIVEN WITH THE SEED: THE CARDS: each row of YtohpfhpkimmmbaaGreatDoorRows.lean that lists a variable, with what it lists TIED to the program's text (the seventh form; the later family's looks); each row that meets fmt, with fmt's text TOLD by the authors' own Lean function (tested against real Go, not proved from fmt's source: count such statements apart). THE CARD IS WHAT COUNTS. Prove the row's statement (the work); the ties are given (YtohpfhpkimmmbaaGreatDoorTie.lean); close each card by the builder's one call (the guide's Derived/Test/ToyasCard.lean, 'card_holds'). Laid BY PROGRAM, IN A SANDBOX (cutbox-door.mjs). By AI agents, Wed Nov 11 2026. No macro, syntax, notation, axiom, sorry.
-/
import Derived.Test.YtohpfhpkimmmbaaGreatDoorRows
import GoSem.ClaimSeven
namespace Go.Proofs.YtohpfhpkimmmbaaGreatDoor
namespace Rows

/-- THE TIED CARD OF 'letterboxlaw.SetsRead'. -/
def setsReadCard : Claim7 := { stood := { row := setsReadRow, standIns := [], harness := (true, "3b4430f8d9ff1bd88931e736128aaae142b03cdf033181879e8cc484ca17d38e"), looks := true }, kinds := [], alts := [], laidByText := true, laidKinds := [.data, .data, .data, .data, .handle, .sentinel, .sentinel, .pinned], laidTests := true, laidLooks := .later }
def SetsReadCardSaid : Prop := Claim7.holds Tryz.pinned (.plain (OpenSpec.ofChange setsReadSpec)) setsReadCard

/-- THE TIED CARD OF 'letterboxlaw.FlagsTell'. -/
def flagsTellCard : Claim7 := { stood := { row := flagsTellRow, standIns := [], harness := (true, "3b4430f8d9ff1bd88931e736128aaae142b03cdf033181879e8cc484ca17d38e"), looks := true }, kinds := [], alts := [], laidByText := true, laidKinds := [.handle, .data], laidTests := true, laidLooks := .later }
def FlagsTellCardSaid : Prop := Claim7.holds Tryz.pinned (.plain (OpenSpec.ofChange flagsTellSpec)) flagsTellCard

/-- THE TIED CARD OF 'letterboxlaw.HeadReads'. -/
def headReadsCard : Claim7 := { stood := { row := headReadsRow, standIns := [], harness := (true, "3b4430f8d9ff1bd88931e736128aaae142b03cdf033181879e8cc484ca17d38e"), looks := true }, kinds := [], alts := [], laidByText := true, laidKinds := [.data, .handle, .data, .pinned], laidTests := true, laidLooks := .later }
def HeadReadsCardSaid : Prop := Claim7.holds Tryz.pinned (.plain (OpenSpec.ofChange headReadsSpec)) headReadsCard

/-- THE TIED CARD OF 'letterboxlaw.MimeParts'. -/
def mimePartsCard : Claim7 := { stood := { row := mimePartsRow, standIns := [], harness := (true, "3b4430f8d9ff1bd88931e736128aaae142b03cdf033181879e8cc484ca17d38e"), looks := true }, kinds := [], alts := [], laidByText := true, laidKinds := [.data, .data, .data, .data, .handle, .data, .pinned], laidTests := true, laidLooks := .later }
def MimePartsCardSaid : Prop := Claim7.holds Tryz.pinned (.plain (OpenSpec.ofChange mimePartsSpec)) mimePartsCard

/-- THE SECOND FORM's CARD OF 'letterboxlaw.SetsRead'. -/
def setsReadUptoCard : Claim7 := { stood := { row := setsReadUptoRow, standIns := [], harness := (true, "3b4430f8d9ff1bd88931e736128aaae142b03cdf033181879e8cc484ca17d38e"), looks := true }, kinds := [], alts := [], laidByText := true, laidKinds := [.data, .data, .data, .data, .handle, .sentinel, .sentinel, .pinned], laidTests := true, laidLooks := .later }
def SetsReadUptoCardSaid : Prop := Claim7.holds Tryz.pinned (.plain (OpenSpec.upto setsReadSpec)) setsReadUptoCard

/-- THE SECOND FORM's CARD OF 'letterboxlaw.FlagsTell'. -/
def flagsTellUptoCard : Claim7 := { stood := { row := flagsTellUptoRow, standIns := [], harness := (true, "3b4430f8d9ff1bd88931e736128aaae142b03cdf033181879e8cc484ca17d38e"), looks := true }, kinds := [], alts := [], laidByText := true, laidKinds := [.handle, .data], laidTests := true, laidLooks := .later }
def FlagsTellUptoCardSaid : Prop := Claim7.holds Tryz.pinned (.plain (OpenSpec.upto flagsTellSpec)) flagsTellUptoCard

/-- THE SECOND FORM's CARD OF 'letterboxlaw.HeadReads'. -/
def headReadsUptoCard : Claim7 := { stood := { row := headReadsUptoRow, standIns := [], harness := (true, "3b4430f8d9ff1bd88931e736128aaae142b03cdf033181879e8cc484ca17d38e"), looks := true }, kinds := [], alts := [], laidByText := true, laidKinds := [.data, .handle, .data, .pinned], laidTests := true, laidLooks := .later }
def HeadReadsUptoCardSaid : Prop := Claim7.holds Tryz.pinned (.plain (OpenSpec.upto headReadsSpec)) headReadsUptoCard

/-- THE SECOND FORM's CARD OF 'letterboxlaw.MimeParts'. -/
def mimePartsUptoCard : Claim7 := { stood := { row := mimePartsUptoRow, standIns := [], harness := (true, "3b4430f8d9ff1bd88931e736128aaae142b03cdf033181879e8cc484ca17d38e"), looks := true }, kinds := [], alts := [], laidByText := true, laidKinds := [.data, .data, .data, .data, .handle, .data, .pinned], laidTests := true, laidLooks := .later }
def MimePartsUptoCardSaid : Prop := Claim7.holds Tryz.pinned (.plain (OpenSpec.upto mimePartsSpec)) mimePartsUptoCard
end Rows
end Go.Proofs.YtohpfhpkimmmbaaGreatDoor
