/-
  DERIVED. GIVEN WITH THE SEED: THE CARDS: each row of YtgbbkdflnlagaaaDoorRows.lean that lists a variable, with what it lists TIED to the program's text (the seventh form; the later family's looks); each row that meets fmt, with fmt's text TOLD by the authors' own Lean function (tested against real Go, not proved from fmt's source: count such statements apart). THE CARD IS WHAT COUNTS. Prove the row's statement (the work); the ties are given (YtgbbkdflnlagaaaDoorTie.lean); close each card by the builder's one call (the guide's Derived/Test/ToyasCard.lean, 'card_holds'). Laid BY PROGRAM, IN A SANDBOX (cutbox-door.mjs). By AI agents, Wed Nov 11 2026. No macro, syntax, notation, axiom, sorry.
-/
import Derived.Test.YtgbbkdflnlagaaaDoorRows
import GoSem.ClaimSeven
namespace Go.Proofs.YtgbbkdflnlagaaaDoor
namespace Rows

/-- THE TIED CARD OF 'letterboxkeep.MimeNests'. -/
def mimeNestsCard : Claim7 := { stood := { row := mimeNestsRow, standIns := [], harness := (true, "6a6f1c82b7a1ad0df6cc6f2400dfae5948c9102ffea2f6c21d30a1a1678ac99b"), looks := false }, kinds := [], alts := [], laidByText := true, laidKinds := [.data, .data, .data, .data, .pinned], laidTests := true, laidLooks := .later }
def MimeNestsCardSaid : Prop := Claim7.holds Tryd.pinned (.plain (OpenSpec.ofChange mimeNestsSpec)) mimeNestsCard

/-- THE SECOND FORM's CARD OF 'letterboxkeep.MimeNests'. -/
def mimeNestsUptoCard : Claim7 := { stood := { row := mimeNestsUptoRow, standIns := [], harness := (true, "6a6f1c82b7a1ad0df6cc6f2400dfae5948c9102ffea2f6c21d30a1a1678ac99b"), looks := false }, kinds := [], alts := [], laidByText := true, laidKinds := [.data, .data, .data, .data, .pinned], laidTests := true, laidLooks := .later }
def MimeNestsUptoCardSaid : Prop := Claim7.holds Tryd.pinned (.plain (OpenSpec.upto mimeNestsSpec)) mimeNestsUptoCard
end Rows
end Go.Proofs.YtgbbkdflnlagaaaDoor
