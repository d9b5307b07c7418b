/-
  DERIVED. GIVEN WITH THE SEED: THE CARDS: each row of YtiocmecalidlhaaDoorRows.lean that lists a variable, with what it lists TIED to the program's text (the seventh form; the later family's looks); each row that meets fmt, with fmt's text TOLD by the authors' own Lean function (tested against real Go, not proved from fmt's source: count such statements apart). THE CARD IS WHAT COUNTS. Prove the row's statement (the work); the ties are given (YtiocmecalidlhaaDoorTie.lean); close each card by the builder's one call (the guide's Derived/Test/ToyasCard.lean, 'card_holds'). Laid BY PROGRAM, IN A SANDBOX (cutbox-door.mjs). By AI agents, Wed Nov 11 2026. No macro, syntax, notation, axiom, sorry.
-/
import Derived.Test.YtiocmecalidlhaaDoorRows
import GoSem.ClaimSeven
namespace Go.Proofs.YtiocmecalidlhaaDoor
namespace Rows

/-- THE TIED CARD OF 'letterboxlaw.NamesGo'. -/
def namesGoCard : Claim7 := { stood := { row := namesGoRow, standIns := [], harness := (true, "0a9b5447f12d4d76bd792c463dc29857958860cc542a0f2a6028ff29407eb8d5"), looks := true }, kinds := [], alts := [], laidByText := true, laidKinds := [.data, .handle, .pinned], laidTests := true, laidLooks := .later }
def NamesGoCardSaid : Prop := Claim7.holds Tryd.pinned (.plain (OpenSpec.ofChange namesGoSpec)) namesGoCard

/-- THE TIED CARD OF 'letterboxkeep.NamesBack'. -/
def namesBackCard : Claim7 := { stood := { row := namesBackRow, standIns := [], harness := (true, "0a9b5447f12d4d76bd792c463dc29857958860cc542a0f2a6028ff29407eb8d5"), looks := true }, kinds := [], alts := [], laidByText := true, laidKinds := [.data, .pinned], laidTests := true, laidLooks := .later }
def NamesBackCardSaid : Prop := Claim7.holds Tryd.pinned (.plain (OpenSpec.ofChange namesBackSpec)) namesBackCard

/-- THE SECOND FORM's CARD OF 'letterboxlaw.NamesGo'. -/
def namesGoUptoCard : Claim7 := { stood := { row := namesGoUptoRow, standIns := [], harness := (true, "0a9b5447f12d4d76bd792c463dc29857958860cc542a0f2a6028ff29407eb8d5"), looks := true }, kinds := [], alts := [], laidByText := true, laidKinds := [.data, .handle, .pinned], laidTests := true, laidLooks := .later }
def NamesGoUptoCardSaid : Prop := Claim7.holds Tryd.pinned (.plain (OpenSpec.upto namesGoSpec)) namesGoUptoCard

/-- THE SECOND FORM's CARD OF 'letterboxkeep.NamesBack'. -/
def namesBackUptoCard : Claim7 := { stood := { row := namesBackUptoRow, standIns := [], harness := (true, "0a9b5447f12d4d76bd792c463dc29857958860cc542a0f2a6028ff29407eb8d5"), looks := true }, kinds := [], alts := [], laidByText := true, laidKinds := [.data, .pinned], laidTests := true, laidLooks := .later }
def NamesBackUptoCardSaid : Prop := Claim7.holds Tryd.pinned (.plain (OpenSpec.upto namesBackSpec)) namesBackUptoCard
end Rows
end Go.Proofs.YtiocmecalidlhaaDoor
