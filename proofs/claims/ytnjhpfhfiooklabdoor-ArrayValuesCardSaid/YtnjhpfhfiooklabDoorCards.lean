/-
  DERIVED. GIVEN WITH THE SEED: THE CARDS: each row of YtnjhpfhfiooklabDoorRows.lean that lists a variable, with what it lists TIED to the program's text (the seventh form; the later family's looks); each row that meets fmt, with fmt's text TOLD by the authors' own Lean function (tested against real Go, not proved from fmt's source: count such statements apart). THE CARD IS WHAT COUNTS. Prove the row's statement (the work); the ties are given (YtnjhpfhfiooklabDoorTie.lean); close each card by the builder's one call (the guide's Derived/Test/ToyasCard.lean, 'card_holds'). Laid BY PROGRAM, IN A SANDBOX (cutbox-door.mjs). By AI agents, Wed Nov 11 2026. No macro, syntax, notation, axiom, sorry.
-/
import Derived.Test.YtnjhpfhfiooklabDoorRows
import GoSem.ClaimSeven
namespace Go.Proofs.YtnjhpfhfiooklabDoor
namespace Rows

/-- THE TIED CARD OF 'scribelaw08.ArrayValues'. -/
def arrayValuesCard : Claim7 := { stood := { row := arrayValuesRow, standIns := [], harness := (true, "04ede47227d2c789cda4529f6fdefb405b6a5b78c15a1b53074dd4e178b58267"), looks := false }, kinds := [], alts := [], laidByText := true, laidKinds := [.data, .data, .data, .data, .pinned], laidTests := true, laidLooks := .later }
def ArrayValuesCardSaid : Prop := Claim7.holds Tryd.pinned (.plain (OpenSpec.ofChange arrayValuesSpec)) arrayValuesCard

/-- THE SECOND FORM's CARD OF 'scribelaw08.ArrayValues'. -/
def arrayValuesUptoCard : Claim7 := { stood := { row := arrayValuesUptoRow, standIns := [], harness := (true, "04ede47227d2c789cda4529f6fdefb405b6a5b78c15a1b53074dd4e178b58267"), looks := false }, kinds := [], alts := [], laidByText := true, laidKinds := [.data, .data, .data, .data, .pinned], laidTests := true, laidLooks := .later }
def ArrayValuesUptoCardSaid : Prop := Claim7.holds Tryd.pinned (.plain (OpenSpec.upto arrayValuesSpec)) arrayValuesUptoCard
end Rows
end Go.Proofs.YtnjhpfhfiooklabDoor
