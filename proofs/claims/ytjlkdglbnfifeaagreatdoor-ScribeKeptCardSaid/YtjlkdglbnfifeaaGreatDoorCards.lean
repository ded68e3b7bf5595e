/-
  DERIVED. GIVEN WITH THE SEED: THE CARDS: each row of YtjlkdglbnfifeaaGreatDoorRows.lean that lists a variable, with what it lists TIED to the program's text (the seventh form; the later family's looks); each row that meets fmt, with fmt's text TOLD by the authors' own Lean function (tested against real Go, not proved from fmt's source: count such statements apart). THE CARD IS WHAT COUNTS. Prove the row's statement (the work); the ties are given (YtjlkdglbnfifeaaGreatDoorTie.lean); close each card by the builder's one call (the guide's Derived/Test/ToyasCard.lean, 'card_holds'). Laid BY PROGRAM, IN A SANDBOX (cutbox-door.mjs). By AI agents, Wed Nov 11 2026. No macro, syntax, notation, axiom, sorry.
-/
import Derived.Test.YtjlkdglbnfifeaaGreatDoorRows
import GoSem.ClaimSeven
namespace Go.Proofs.YtjlkdglbnfifeaaGreatDoor
namespace Rows

/-- THE TIED CARD OF 'scribetop.ScribeKept'. -/
def scribeKeptCard : Claim7 := { stood := { row := scribeKeptRow, standIns := [], harness := (true, "f396dcd78e5e5194d2c171ac6734389df563a24112d90a66370e57b07869e2eb"), looks := true }, kinds := [], alts := [], laidByText := true, laidKinds := [.data, .data, .data, .sentinel, .sentinel], laidTests := true, laidLooks := .later }
def ScribeKeptCardSaid : Prop := Claim7.holds Tryz.pinned (.plain (OpenSpec.ofChange scribeKeptSpec)) scribeKeptCard

/-- THE SECOND FORM's CARD OF 'scribetop.ScribeKept'. -/
def scribeKeptUptoCard : Claim7 := { stood := { row := scribeKeptUptoRow, standIns := [], harness := (true, "f396dcd78e5e5194d2c171ac6734389df563a24112d90a66370e57b07869e2eb"), looks := true }, kinds := [], alts := [], laidByText := true, laidKinds := [.data, .data, .data, .sentinel, .sentinel], laidTests := true, laidLooks := .later }
def ScribeKeptUptoCardSaid : Prop := Claim7.holds Tryz.pinned (.plain (OpenSpec.upto scribeKeptSpec)) scribeKeptUptoCard
end Rows
end Go.Proofs.YtjlkdglbnfifeaaGreatDoor
