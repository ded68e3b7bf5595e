/-
  DERIVED. GIVEN WITH THE SEED: THE CARDS: each row of YtipcanbeegladaaGreatDoorRows.lean that lists a variable, with what it lists TIED to the program's text (the seventh form; the later family's looks); each row that meets fmt, with fmt's text TOLD by the authors' own Lean function (tested against real Go, not proved from fmt's source: count such statements apart). THE CARD IS WHAT COUNTS. Prove the row's statement (the work); the ties are given (YtipcanbeegladaaGreatDoorTie.lean); close each card by the builder's one call (the guide's Derived/Test/ToyasCard.lean, 'card_holds'). Laid BY PROGRAM, IN A SANDBOX (cutbox-door.mjs). By AI agents, Wed Nov 11 2026. No macro, syntax, notation, axiom, sorry.
-/
import Derived.Test.YtipcanbeegladaaGreatDoorRows
import GoSem.ClaimSeven
namespace Go.Proofs.YtipcanbeegladaaGreatDoor
namespace Rows

/-- THE TIED CARD OF 'scribelaw07.FormatPrints'. -/
def formatPrintsCard : Claim7 := { stood := { row := formatPrintsRow, standIns := [], harness := (true, "10d2972031ce61c1566ff918a5b5f7df83e9eb045e74246876188e65817a3a7e"), looks := false }, kinds := [], alts := [], laidByText := true, laidKinds := [.data, .data, .data, .data, .pinned], laidTests := true, laidLooks := .later }
def FormatPrintsCardSaid : Prop := Claim7.holds Tryz.pinned (.plain (OpenSpec.ofChange formatPrintsSpec)) formatPrintsCard

/-- THE SECOND FORM's CARD OF 'scribelaw07.FormatPrints'. -/
def formatPrintsUptoCard : Claim7 := { stood := { row := formatPrintsUptoRow, standIns := [], harness := (true, "10d2972031ce61c1566ff918a5b5f7df83e9eb045e74246876188e65817a3a7e"), looks := false }, kinds := [], alts := [], laidByText := true, laidKinds := [.data, .data, .data, .data, .pinned], laidTests := true, laidLooks := .later }
def FormatPrintsUptoCardSaid : Prop := Claim7.holds Tryz.pinned (.plain (OpenSpec.upto formatPrintsSpec)) formatPrintsUptoCard
end Rows
end Go.Proofs.YtipcanbeegladaaGreatDoor
