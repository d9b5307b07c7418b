/-
  DERIVED. GIVEN WITH THE SEED: THE CARDS: each row of YtneipabooahihaaDoorRows.lean that lists a variable, with what it lists TIED to the program's text (the seventh form; the later family's looks); each row that meets fmt, with fmt's text TOLD by the authors' own Lean function (tested against real Go, not proved from fmt's source: count such statements apart). THE CARD IS WHAT COUNTS. Prove the row's statement (the work); the ties are given (YtneipabooahihaaDoorTie.lean); close each card by the builder's one call (the guide's Derived/Test/ToyasCard.lean, 'card_holds'). Laid BY PROGRAM, IN A SANDBOX (cutbox-door.mjs). By AI agents, Wed Nov 11 2026. No macro, syntax, notation, axiom, sorry.
-/
import Derived.Test.YtneipabooahihaaDoorRows
import GoSem.ClaimSeven
namespace Go.Proofs.YtneipabooahihaaDoor
namespace Rows

/-- THE TIED CARD OF 'letterboxlaw.NamesGo'. -/
def namesGoCard : Claim7 := { stood := { row := namesGoRow, standIns := [], harness := (true, "0b2eb7af0fe9bcc0d5b954b2cdc3586a4c94abe355574806117792558edbf640"), looks := true }, kinds := [], alts := [], laidByText := true, laidKinds := [.data, .handle, .pinned], laidTests := true, laidLooks := .later }
def NamesGoCardSaid : Prop := Claim7.holds Tryd.pinned (.plain (OpenSpec.ofChange namesGoSpec)) namesGoCard

/-- THE TIED CARD OF 'letterboxkeep.NamesBack'. -/
def namesBackCard : Claim7 := { stood := { row := namesBackRow, standIns := [], harness := (true, "0b2eb7af0fe9bcc0d5b954b2cdc3586a4c94abe355574806117792558edbf640"), looks := true }, kinds := [], alts := [], laidByText := true, laidKinds := [.data, .pinned], laidTests := true, laidLooks := .later }
def NamesBackCardSaid : Prop := Claim7.holds Tryd.pinned (.plain (OpenSpec.ofChange namesBackSpec)) namesBackCard

/-- THE TIED CARD OF 'letterboxkeep.SetsBack'. -/
def setsBackCard : Claim7 := { stood := { row := setsBackRow, standIns := [], harness := (true, "0b2eb7af0fe9bcc0d5b954b2cdc3586a4c94abe355574806117792558edbf640"), looks := true }, kinds := [], alts := [], laidByText := true, laidKinds := [.data, .data, .data], laidTests := true, laidLooks := .later }
def SetsBackCardSaid : Prop := Claim7.holds Tryd.pinned (.plain (OpenSpec.ofChange setsBackSpec)) setsBackCard

/-- THE TIED CARD OF 'letterboxkeep.FlagsAlgebra'. -/
def flagsAlgebraCard : Claim7 := { stood := { row := flagsAlgebraRow, standIns := [], harness := (true, "0b2eb7af0fe9bcc0d5b954b2cdc3586a4c94abe355574806117792558edbf640"), looks := true }, kinds := [], alts := [], laidByText := true, laidKinds := [.data], laidTests := true, laidLooks := .later }
def FlagsAlgebraCardSaid : Prop := Claim7.holds Tryd.pinned (.plain (OpenSpec.ofChange flagsAlgebraSpec)) flagsAlgebraCard

/-- THE SECOND FORM's CARD OF 'letterboxlaw.NamesGo'. -/
def namesGoUptoCard : Claim7 := { stood := { row := namesGoUptoRow, standIns := [], harness := (true, "0b2eb7af0fe9bcc0d5b954b2cdc3586a4c94abe355574806117792558edbf640"), looks := true }, kinds := [], alts := [], laidByText := true, laidKinds := [.data, .handle, .pinned], laidTests := true, laidLooks := .later }
def NamesGoUptoCardSaid : Prop := Claim7.holds Tryd.pinned (.plain (OpenSpec.upto namesGoSpec)) namesGoUptoCard

/-- THE SECOND FORM's CARD OF 'letterboxkeep.NamesBack'. -/
def namesBackUptoCard : Claim7 := { stood := { row := namesBackUptoRow, standIns := [], harness := (true, "0b2eb7af0fe9bcc0d5b954b2cdc3586a4c94abe355574806117792558edbf640"), looks := true }, kinds := [], alts := [], laidByText := true, laidKinds := [.data, .pinned], laidTests := true, laidLooks := .later }
def NamesBackUptoCardSaid : Prop := Claim7.holds Tryd.pinned (.plain (OpenSpec.upto namesBackSpec)) namesBackUptoCard

/-- THE SECOND FORM's CARD OF 'letterboxkeep.SetsBack'. -/
def setsBackUptoCard : Claim7 := { stood := { row := setsBackUptoRow, standIns := [], harness := (true, "0b2eb7af0fe9bcc0d5b954b2cdc3586a4c94abe355574806117792558edbf640"), looks := true }, kinds := [], alts := [], laidByText := true, laidKinds := [.data, .data, .data], laidTests := true, laidLooks := .later }
def SetsBackUptoCardSaid : Prop := Claim7.holds Tryd.pinned (.plain (OpenSpec.upto setsBackSpec)) setsBackUptoCard

/-- THE SECOND FORM's CARD OF 'letterboxkeep.FlagsAlgebra'. -/
def flagsAlgebraUptoCard : Claim7 := { stood := { row := flagsAlgebraUptoRow, standIns := [], harness := (true, "0b2eb7af0fe9bcc0d5b954b2cdc3586a4c94abe355574806117792558edbf640"), looks := true }, kinds := [], alts := [], laidByText := true, laidKinds := [.data], laidTests := true, laidLooks := .later }
def FlagsAlgebraUptoCardSaid : Prop := Claim7.holds Tryd.pinned (.plain (OpenSpec.upto flagsAlgebraSpec)) flagsAlgebraUptoCard
end Rows
end Go.Proofs.YtneipabooahihaaDoor
