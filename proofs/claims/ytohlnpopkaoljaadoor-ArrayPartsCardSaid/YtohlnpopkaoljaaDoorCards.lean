/-
  DERIVED. GIVEN WITH THE SEED: THE CARDS: each row of YtohlnpopkaoljaaDoorRows.lean that lists a variable, with what it lists TIED to the program's text (the seventh form; the later family's looks); each row that meets fmt, with fmt's text TOLD by the authors' own Lean function (tested against real Go, not proved from fmt's source: count such statements apart). THE CARD IS WHAT COUNTS. Prove the row's statement (the work); the ties are given (YtohlnpopkaoljaaDoorTie.lean); close each card by the builder's one call (the guide's Derived/Test/ToyasCard.lean, 'card_holds'). Laid BY PROGRAM, IN A SANDBOX (cutbox-door.mjs). By AI agents, Wed Nov 11 2026. No macro, syntax, notation, axiom, sorry.
-/
import Derived.Test.YtohlnpopkaoljaaDoorRows
import GoSem.ClaimSeven
namespace Go.Proofs.YtohlnpopkaoljaaDoor
namespace Rows

/-- THE TIED CARD OF 'scribelaw08.ArrayParts'. -/
def arrayPartsCard : Claim7 := { stood := { row := arrayPartsRow, standIns := [], harness := (true, "31957eda39da8b029d6fd6528b4105436c9bbea3432059f0a316f68ee15ec2c2"), looks := false }, kinds := [], alts := [], laidByText := true, laidKinds := [.data, .data, .data, .data, .pinned], laidTests := true, laidLooks := .later }
def ArrayPartsCardSaid : Prop := Claim7.holds Tryd.pinned (.plain (OpenSpec.ofChange arrayPartsSpec)) arrayPartsCard

/-- THE SECOND FORM's CARD OF 'scribelaw08.ArrayParts'. -/
def arrayPartsUptoCard : Claim7 := { stood := { row := arrayPartsUptoRow, standIns := [], harness := (true, "31957eda39da8b029d6fd6528b4105436c9bbea3432059f0a316f68ee15ec2c2"), looks := false }, kinds := [], alts := [], laidByText := true, laidKinds := [.data, .data, .data, .data, .pinned], laidTests := true, laidLooks := .later }
def ArrayPartsUptoCardSaid : Prop := Claim7.holds Tryd.pinned (.plain (OpenSpec.upto arrayPartsSpec)) arrayPartsUptoCard
end Rows
end Go.Proofs.YtohlnpopkaoljaaDoor
