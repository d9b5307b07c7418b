/-
  DERIVED. GIVEN WITH THE SEED: THE CARDS: each row of YtdmplfflmdanlaaGreatDoorRows.lean that lists a variable, with what it lists TIED to the program's text (the seventh form; the later family's looks); each row that meets fmt, with fmt's text TOLD by the authors' own Lean function (tested against real Go, not proved from fmt's source: count such statements apart). THE CARD IS WHAT COUNTS. Prove the row's statement (the work); the ties are given (YtdmplfflmdanlaaGreatDoorTie.lean); close each card by the builder's one call (the guide's Derived/Test/ToyasCard.lean, 'card_holds'). Laid BY PROGRAM, IN A SANDBOX (cutbox-door.mjs). By AI agents, Wed Nov 11 2026. No macro, syntax, notation, axiom, sorry.
-/
import Derived.Test.YtdmplfflmdanlaaGreatDoorRows
import GoSem.ClaimSeven
namespace Go.Proofs.YtdmplfflmdanlaaGreatDoor
namespace Rows

/-- THE TIED CARD OF 'letterboxlaw.ArchiveTells'. -/
def archiveTellsCard : Claim7 := { stood := { row := archiveTellsRow, standIns := [], harness := (true, "4b4d472bc0efc7bb7eb74667682d1d9da9ebb33052221ec728725231a5747241"), looks := true }, kinds := [], alts := [], laidByText := true, laidKinds := [.data, .data, .data, .data, .handle, .sentinel, .sentinel, .data, .pinned], laidTests := true, laidLooks := .later }
def ArchiveTellsCardSaid : Prop := Claim7.holds Tryz.pinned (.plain (OpenSpec.ofChange archiveTellsSpec)) archiveTellsCard

/-- THE TIED CARD OF 'letterboxkeep.ArchiveChain'. -/
def archiveChainCard : Claim7 := { stood := { row := archiveChainRow, standIns := [], harness := (true, "4b4d472bc0efc7bb7eb74667682d1d9da9ebb33052221ec728725231a5747241"), looks := true }, kinds := [], alts := [], laidByText := true, laidKinds := [.data, .data, .data, .data, .sentinel, .sentinel, .data, .pinned], laidTests := true, laidLooks := .later }
def ArchiveChainCardSaid : Prop := Claim7.holds Tryz.pinned (.plain (OpenSpec.ofChange archiveChainSpec)) archiveChainCard

/-- THE SECOND FORM's CARD OF 'letterboxlaw.ArchiveTells'. -/
def archiveTellsUptoCard : Claim7 := { stood := { row := archiveTellsUptoRow, standIns := [], harness := (true, "4b4d472bc0efc7bb7eb74667682d1d9da9ebb33052221ec728725231a5747241"), looks := true }, kinds := [], alts := [], laidByText := true, laidKinds := [.data, .data, .data, .data, .handle, .sentinel, .sentinel, .data, .pinned], laidTests := true, laidLooks := .later }
def ArchiveTellsUptoCardSaid : Prop := Claim7.holds Tryz.pinned (.plain (OpenSpec.upto archiveTellsSpec)) archiveTellsUptoCard

/-- THE SECOND FORM's CARD OF 'letterboxkeep.ArchiveChain'. -/
def archiveChainUptoCard : Claim7 := { stood := { row := archiveChainUptoRow, standIns := [], harness := (true, "4b4d472bc0efc7bb7eb74667682d1d9da9ebb33052221ec728725231a5747241"), looks := true }, kinds := [], alts := [], laidByText := true, laidKinds := [.data, .data, .data, .data, .sentinel, .sentinel, .data, .pinned], laidTests := true, laidLooks := .later }
def ArchiveChainUptoCardSaid : Prop := Claim7.holds Tryz.pinned (.plain (OpenSpec.upto archiveChainSpec)) archiveChainUptoCard
end Rows
end Go.Proofs.YtdmplfflmdanlaaGreatDoor
