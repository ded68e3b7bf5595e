/-
  DERIVED. GIVEN WITH THE SEED: THE CARDS: each row of YtfelmclcjaggeaaGreatDoorRows.lean that lists a variable, with what it lists TIED to the program's text (the seventh form; the later family's looks); each row that meets fmt, with fmt's text TOLD by the authors' own Lean function (tested against real Go, not proved from fmt's source: count such statements apart). THE CARD IS WHAT COUNTS. Prove the row's statement (the work); the ties are given (YtfelmclcjaggeaaGreatDoorTie.lean); close each card by the builder's one call (the guide's Derived/Test/ToyasCard.lean, 'card_holds'). Laid BY PROGRAM, IN A SANDBOX (cutbox-door.mjs). By AI agents, Wed Nov 11 2026. No macro, syntax, notation, axiom, sorry.
-/
import Derived.Test.YtfelmclcjaggeaaGreatDoorRows
import GoSem.ClaimSeven
namespace Go.Proofs.YtfelmclcjaggeaaGreatDoor
namespace Rows

/-- THE TIED CARD OF 'scribetop.ScribePrinted'. -/
def scribePrintedCard : Claim7 := { stood := { row := scribePrintedRow, standIns := [], harness := (true, "f9c79dae3264af24661d3c7be99fdd4cf341ca92f7ecea65bebb9a4cb68423a9"), looks := true }, kinds := [], alts := [], laidByText := true, laidKinds := [.data, .data, .data, .data, .sentinel, .sentinel, .pinned], laidTests := true, laidLooks := .later }
def ScribePrintedCardSaid : Prop := Claim7.holds Tryz.pinned (.plain (OpenSpec.ofChange scribePrintedSpec)) scribePrintedCard

/-- THE SECOND FORM's CARD OF 'scribetop.ScribePrinted'. -/
def scribePrintedUptoCard : Claim7 := { stood := { row := scribePrintedUptoRow, standIns := [], harness := (true, "f9c79dae3264af24661d3c7be99fdd4cf341ca92f7ecea65bebb9a4cb68423a9"), looks := true }, kinds := [], alts := [], laidByText := true, laidKinds := [.data, .data, .data, .data, .sentinel, .sentinel, .pinned], laidTests := true, laidLooks := .later }
def ScribePrintedUptoCardSaid : Prop := Claim7.holds Tryz.pinned (.plain (OpenSpec.upto scribePrintedSpec)) scribePrintedUptoCard
end Rows
end Go.Proofs.YtfelmclcjaggeaaGreatDoor
