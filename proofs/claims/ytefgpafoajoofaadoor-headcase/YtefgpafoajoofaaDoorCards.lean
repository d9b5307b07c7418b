/-
  DERIVED. GIVEN WITH THE SEED: THE CARDS: each row of YtefgpafoajoofaaDoorRows.lean that lists a variable, with what it lists TIED to the program's text (the seventh form; the later family's looks); each row that meets fmt, with fmt's text TOLD by the authors' own Lean function (tested against real Go, not proved from fmt's source: count such statements apart). THE CARD IS WHAT COUNTS. Prove the row's statement (the work); the ties are given (YtefgpafoajoofaaDoorTie.lean); close each card by the builder's one call (the guide's Derived/Test/ToyasCard.lean, 'card_holds'). Laid BY PROGRAM, IN A SANDBOX (cutbox-door.mjs). By AI agents, Wed Nov 11 2026. No macro, syntax, notation, axiom, sorry.
-/
import Derived.Test.YtefgpafoajoofaaDoorRows
import GoSem.ClaimSeven
namespace Go.Proofs.YtefgpafoajoofaaDoor
namespace Rows

/-- THE TIED CARD OF 'letterboxlaw.NamesGo'. -/
def namesGoCard : Claim7 := { stood := { row := namesGoRow, standIns := [], harness := (true, "4c4edf642159885f8f9ae44260bbb5abdb9efb320aa694cf9a4de1826ad8723b"), looks := true }, kinds := [], alts := [], laidByText := true, laidKinds := [.data, .handle, .pinned], laidTests := true, laidLooks := .later }
def NamesGoCardSaid : Prop := Claim7.holds Tryd.pinned (.plain (OpenSpec.ofChange namesGoSpec)) namesGoCard

/-- THE TIED CARD OF 'letterboxkeep.NamesBack'. -/
def namesBackCard : Claim7 := { stood := { row := namesBackRow, standIns := [], harness := (true, "4c4edf642159885f8f9ae44260bbb5abdb9efb320aa694cf9a4de1826ad8723b"), looks := true }, kinds := [], alts := [], laidByText := true, laidKinds := [.data, .pinned], laidTests := true, laidLooks := .later }
def NamesBackCardSaid : Prop := Claim7.holds Tryd.pinned (.plain (OpenSpec.ofChange namesBackSpec)) namesBackCard

/-- THE TIED CARD OF 'letterboxkeep.SetsBack'. -/
def setsBackCard : Claim7 := { stood := { row := setsBackRow, standIns := [], harness := (true, "4c4edf642159885f8f9ae44260bbb5abdb9efb320aa694cf9a4de1826ad8723b"), looks := true }, kinds := [], alts := [], laidByText := true, laidKinds := [.data, .data, .data], laidTests := true, laidLooks := .later }
def SetsBackCardSaid : Prop := Claim7.holds Tryd.pinned (.plain (OpenSpec.ofChange setsBackSpec)) setsBackCard

/-- THE TIED CARD OF 'letterboxkeep.FlagsAlgebra'. -/
def flagsAlgebraCard : Claim7 := { stood := { row := flagsAlgebraRow, standIns := [], harness := (true, "4c4edf642159885f8f9ae44260bbb5abdb9efb320aa694cf9a4de1826ad8723b"), looks := true }, kinds := [], alts := [], laidByText := true, laidKinds := [.data], laidTests := true, laidLooks := .later }
def FlagsAlgebraCardSaid : Prop := Claim7.holds Tryd.pinned (.plain (OpenSpec.ofChange flagsAlgebraSpec)) flagsAlgebraCard

/-- THE TIED CARD OF 'letterboxkeep.HeadBack'. -/
def headBackCard : Claim7 := { stood := { row := headBackRow, standIns := [], harness := (true, "4c4edf642159885f8f9ae44260bbb5abdb9efb320aa694cf9a4de1826ad8723b"), looks := true }, kinds := [], alts := [], laidByText := true, laidKinds := [.data, .pinned, .pinned], laidTests := true, laidLooks := .later }
def HeadBackCardSaid : Prop := Claim7.holds Tryd.pinned (.plain (OpenSpec.ofChange headBackSpec)) headBackCard

/-- THE TIED CARD OF 'letterboxkeep.HeadCase'. -/
def headCaseCard : Claim7 := { stood := { row := headCaseRow, standIns := [], harness := (true, "4c4edf642159885f8f9ae44260bbb5abdb9efb320aa694cf9a4de1826ad8723b"), looks := true }, kinds := [], alts := [], laidByText := true, laidKinds := [.data, .pinned], laidTests := true, laidLooks := .later }
def HeadCaseCardSaid : Prop := Claim7.holds Tryd.pinned (.plain (OpenSpec.ofChange headCaseSpec)) headCaseCard

/-- THE SECOND FORM's CARD OF 'letterboxlaw.NamesGo'. -/
def namesGoUptoCard : Claim7 := { stood := { row := namesGoUptoRow, standIns := [], harness := (true, "4c4edf642159885f8f9ae44260bbb5abdb9efb320aa694cf9a4de1826ad8723b"), looks := true }, kinds := [], alts := [], laidByText := true, laidKinds := [.data, .handle, .pinned], laidTests := true, laidLooks := .later }
def NamesGoUptoCardSaid : Prop := Claim7.holds Tryd.pinned (.plain (OpenSpec.upto namesGoSpec)) namesGoUptoCard

/-- THE SECOND FORM's CARD OF 'letterboxkeep.NamesBack'. -/
def namesBackUptoCard : Claim7 := { stood := { row := namesBackUptoRow, standIns := [], harness := (true, "4c4edf642159885f8f9ae44260bbb5abdb9efb320aa694cf9a4de1826ad8723b"), looks := true }, kinds := [], alts := [], laidByText := true, laidKinds := [.data, .pinned], laidTests := true, laidLooks := .later }
def NamesBackUptoCardSaid : Prop := Claim7.holds Tryd.pinned (.plain (OpenSpec.upto namesBackSpec)) namesBackUptoCard

/-- THE SECOND FORM's CARD OF 'letterboxkeep.SetsBack'. -/
def setsBackUptoCard : Claim7 := { stood := { row := setsBackUptoRow, standIns := [], harness := (true, "4c4edf642159885f8f9ae44260bbb5abdb9efb320aa694cf9a4de1826ad8723b"), looks := true }, kinds := [], alts := [], laidByText := true, laidKinds := [.data, .data, .data], laidTests := true, laidLooks := .later }
def SetsBackUptoCardSaid : Prop := Claim7.holds Tryd.pinned (.plain (OpenSpec.upto setsBackSpec)) setsBackUptoCard

/-- THE SECOND FORM's CARD OF 'letterboxkeep.FlagsAlgebra'. -/
def flagsAlgebraUptoCard : Claim7 := { stood := { row := flagsAlgebraUptoRow, standIns := [], harness := (true, "4c4edf642159885f8f9ae44260bbb5abdb9efb320aa694cf9a4de1826ad8723b"), looks := true }, kinds := [], alts := [], laidByText := true, laidKinds := [.data], laidTests := true, laidLooks := .later }
def FlagsAlgebraUptoCardSaid : Prop := Claim7.holds Tryd.pinned (.plain (OpenSpec.upto flagsAlgebraSpec)) flagsAlgebraUptoCard

/-- THE SECOND FORM's CARD OF 'letterboxkeep.HeadBack'. -/
def headBackUptoCard : Claim7 := { stood := { row := headBackUptoRow, standIns := [], harness := (true, "4c4edf642159885f8f9ae44260bbb5abdb9efb320aa694cf9a4de1826ad8723b"), looks := true }, kinds := [], alts := [], laidByText := true, laidKinds := [.data, .pinned, .pinned], laidTests := true, laidLooks := .later }
def HeadBackUptoCardSaid : Prop := Claim7.holds Tryd.pinned (.plain (OpenSpec.upto headBackSpec)) headBackUptoCard

/-- THE SECOND FORM's CARD OF 'letterboxkeep.HeadCase'. -/
def headCaseUptoCard : Claim7 := { stood := { row := headCaseUptoRow, standIns := [], harness := (true, "4c4edf642159885f8f9ae44260bbb5abdb9efb320aa694cf9a4de1826ad8723b"), looks := true }, kinds := [], alts := [], laidByText := true, laidKinds := [.data, .pinned], laidTests := true, laidLooks := .later }
def HeadCaseUptoCardSaid : Prop := Claim7.holds Tryd.pinned (.plain (OpenSpec.upto headCaseSpec)) headCaseUptoCard
end Rows
end Go.Proofs.YtefgpafoajoofaaDoor
