/-
  DERIVED. GIVEN WITH THE SEED: THE CARDS: each row of YtlemekbglflfkaaDoorRows.lean that lists a variable, with what it lists TIED to the program's text (the seventh form; the later family's looks); each row that meets fmt, with fmt's text TOLD by the authors' own Lean function (tested against real Go, not proved from fmt's source: count such statements apart). THE CARD IS WHAT COUNTS. Prove the row's statement (the work); the ties are given (YtlemekbglflfkaaDoorTie.lean); close each card by the builder's one call (the guide's Derived/Test/ToyasCard.lean, 'card_holds'). Laid BY PROGRAM, IN A SANDBOX (cutbox-door.mjs). By AI agents, Wed Nov 11 2026. No macro, syntax, notation, axiom, sorry.
-/
import Derived.Test.YtlemekbglflfkaaDoorRows
import GoSem.ClaimSeven
namespace Go.Proofs.YtlemekbglflfkaaDoor
namespace Rows

/-- THE TIED CARD OF 'letterboxlaw.WireLimits'. -/
def wireLimitsCard : Claim7 := { stood := { row := wireLimitsRow, standIns := [], harness := (true, "7d4c8709696e9abe8a5aa7b45d2d21c94e2cb04f7b915fe4c84a8e2e32db51d0"), looks := true }, kinds := [], alts := [], laidByText := true, laidKinds := [.data, .data, .data, .handle, .sentinel, .sentinel], laidTests := true, laidLooks := .later }
def WireLimitsCardSaid : Prop := Claim7.holds Tryd.pinned (.plain (OpenSpec.ofChange wireLimitsSpec)) wireLimitsCard

/-- THE TIED CARD OF 'letterboxkeep.WireBack'. -/
def wireBackCard : Claim7 := { stood := { row := wireBackRow, standIns := [], harness := (true, "7d4c8709696e9abe8a5aa7b45d2d21c94e2cb04f7b915fe4c84a8e2e32db51d0"), looks := true }, kinds := [], alts := [], laidByText := true, laidKinds := [.data, .data, .data, .data, .sentinel, .sentinel, .pinned], laidTests := true, laidLooks := .later }
def WireBackCardSaid : Prop := Claim7.holds Tryd.pinned (.plain (OpenSpec.ofChange wireBackSpec)) wireBackCard

/-- THE TIED CARD OF 'letterboxkeep.WireQuote'. -/
def wireQuoteCard : Claim7 := { stood := { row := wireQuoteRow, standIns := [], harness := (true, "7d4c8709696e9abe8a5aa7b45d2d21c94e2cb04f7b915fe4c84a8e2e32db51d0"), looks := true }, kinds := [], alts := [], laidByText := true, laidKinds := [.data, .data, .data, .data, .sentinel, .sentinel, .pinned], laidTests := true, laidLooks := .later }
def WireQuoteCardSaid : Prop := Claim7.holds Tryd.pinned (.plain (OpenSpec.ofChange wireQuoteSpec)) wireQuoteCard

/-- THE TIED CARD OF 'letterboxkeep.WirePieces'. -/
def wirePiecesCard : Claim7 := { stood := { row := wirePiecesRow, standIns := [], harness := (true, "7d4c8709696e9abe8a5aa7b45d2d21c94e2cb04f7b915fe4c84a8e2e32db51d0"), looks := true }, kinds := [], alts := [], laidByText := true, laidKinds := [.data, .data, .data, .sentinel, .sentinel], laidTests := true, laidLooks := .later }
def WirePiecesCardSaid : Prop := Claim7.holds Tryd.pinned (.plain (OpenSpec.ofChange wirePiecesSpec)) wirePiecesCard

/-- THE SECOND FORM's CARD OF 'letterboxlaw.WireLimits'. -/
def wireLimitsUptoCard : Claim7 := { stood := { row := wireLimitsUptoRow, standIns := [], harness := (true, "7d4c8709696e9abe8a5aa7b45d2d21c94e2cb04f7b915fe4c84a8e2e32db51d0"), looks := true }, kinds := [], alts := [], laidByText := true, laidKinds := [.data, .data, .data, .handle, .sentinel, .sentinel], laidTests := true, laidLooks := .later }
def WireLimitsUptoCardSaid : Prop := Claim7.holds Tryd.pinned (.plain (OpenSpec.upto wireLimitsSpec)) wireLimitsUptoCard

/-- THE SECOND FORM's CARD OF 'letterboxkeep.WireBack'. -/
def wireBackUptoCard : Claim7 := { stood := { row := wireBackUptoRow, standIns := [], harness := (true, "7d4c8709696e9abe8a5aa7b45d2d21c94e2cb04f7b915fe4c84a8e2e32db51d0"), looks := true }, kinds := [], alts := [], laidByText := true, laidKinds := [.data, .data, .data, .data, .sentinel, .sentinel, .pinned], laidTests := true, laidLooks := .later }
def WireBackUptoCardSaid : Prop := Claim7.holds Tryd.pinned (.plain (OpenSpec.upto wireBackSpec)) wireBackUptoCard

/-- THE SECOND FORM's CARD OF 'letterboxkeep.WireQuote'. -/
def wireQuoteUptoCard : Claim7 := { stood := { row := wireQuoteUptoRow, standIns := [], harness := (true, "7d4c8709696e9abe8a5aa7b45d2d21c94e2cb04f7b915fe4c84a8e2e32db51d0"), looks := true }, kinds := [], alts := [], laidByText := true, laidKinds := [.data, .data, .data, .data, .sentinel, .sentinel, .pinned], laidTests := true, laidLooks := .later }
def WireQuoteUptoCardSaid : Prop := Claim7.holds Tryd.pinned (.plain (OpenSpec.upto wireQuoteSpec)) wireQuoteUptoCard

/-- THE SECOND FORM's CARD OF 'letterboxkeep.WirePieces'. -/
def wirePiecesUptoCard : Claim7 := { stood := { row := wirePiecesUptoRow, standIns := [], harness := (true, "7d4c8709696e9abe8a5aa7b45d2d21c94e2cb04f7b915fe4c84a8e2e32db51d0"), looks := true }, kinds := [], alts := [], laidByText := true, laidKinds := [.data, .data, .data, .sentinel, .sentinel], laidTests := true, laidLooks := .later }
def WirePiecesUptoCardSaid : Prop := Claim7.holds Tryd.pinned (.plain (OpenSpec.upto wirePiecesSpec)) wirePiecesUptoCard
end Rows
end Go.Proofs.YtlemekbglflfkaaDoor
