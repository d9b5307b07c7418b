/-
  DERIVED. GIVEN WITH THE SEED: THE CARDS: each row of YtkneeoaeoiaefaaDoorRows.lean that lists a variable, with what it lists TIED to the program's text (the seventh form; the later family's looks); each row that meets fmt, with fmt's text TOLD by the authors' own Lean function (tested against real Go, not proved from fmt's source: count such statements apart). THE CARD IS WHAT COUNTS. Prove the row's statement (the work); the ties are given (YtkneeoaeoiaefaaDoorTie.lean); close each card by the builder's one call (the guide's Derived/Test/ToyasCard.lean, 'card_holds'). Laid BY PROGRAM, IN A SANDBOX (cutbox-door.mjs). By AI agents, Wed Nov 11 2026. No macro, syntax, notation, axiom, sorry.
-/
import Derived.Test.YtkneeoaeoiaefaaDoorRows
import GoSem.ClaimSeven
namespace Go.Proofs.YtkneeoaeoiaefaaDoor
namespace Rows

/-- THE TIED CARD OF 'letterboxkeep.BoxNumbers'. -/
def boxNumbersCard : Claim7 := { stood := { row := boxNumbersRow, standIns := [], harness := (true, "0e4326912cd7165eedd54d288ddf78caa485ec7c43c3b1980c91b3a74233d93b"), looks := false }, kinds := [], alts := [], laidByText := true, laidKinds := [.data], laidTests := true, laidLooks := .later }
def BoxNumbersCardSaid : Prop := Claim7.holds Tryd.pinned (.plain (OpenSpec.ofChange boxNumbersSpec)) boxNumbersCard

/-- THE TIED CARD OF 'letterboxkeep.ViewFollows'. -/
def viewFollowsCard : Claim7 := { stood := { row := viewFollowsRow, standIns := [], harness := (true, "0e4326912cd7165eedd54d288ddf78caa485ec7c43c3b1980c91b3a74233d93b"), looks := false }, kinds := [], alts := [], laidByText := true, laidKinds := [.data], laidTests := true, laidLooks := .later }
def ViewFollowsCardSaid : Prop := Claim7.holds Tryd.pinned (.plain (OpenSpec.ofChange viewFollowsSpec)) viewFollowsCard

/-- THE SECOND FORM's CARD OF 'letterboxkeep.BoxNumbers'. -/
def boxNumbersUptoCard : Claim7 := { stood := { row := boxNumbersUptoRow, standIns := [], harness := (true, "0e4326912cd7165eedd54d288ddf78caa485ec7c43c3b1980c91b3a74233d93b"), looks := false }, kinds := [], alts := [], laidByText := true, laidKinds := [.data], laidTests := true, laidLooks := .later }
def BoxNumbersUptoCardSaid : Prop := Claim7.holds Tryd.pinned (.plain (OpenSpec.upto boxNumbersSpec)) boxNumbersUptoCard

/-- THE SECOND FORM's CARD OF 'letterboxkeep.ViewFollows'. -/
def viewFollowsUptoCard : Claim7 := { stood := { row := viewFollowsUptoRow, standIns := [], harness := (true, "0e4326912cd7165eedd54d288ddf78caa485ec7c43c3b1980c91b3a74233d93b"), looks := false }, kinds := [], alts := [], laidByText := true, laidKinds := [.data], laidTests := true, laidLooks := .later }
def ViewFollowsUptoCardSaid : Prop := Claim7.holds Tryd.pinned (.plain (OpenSpec.upto viewFollowsSpec)) viewFollowsUptoCard
end Rows
end Go.Proofs.YtkneeoaeoiaefaaDoor
