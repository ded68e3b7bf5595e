/-
  DERIVED. GIVEN WITH THE SEED: THE CARDS: each row of YtmlpkimbcjkbkaaGreatDoorRows.lean that lists a variable, with what it lists TIED to the program's text (the seventh form; the later family's looks); each row that meets fmt, with fmt's text TOLD by the authors' own Lean function (tested against real Go, not proved from fmt's source: count such statements apart). THE CARD IS WHAT COUNTS. Prove the row's statement (the work); the ties are given (YtmlpkimbcjkbkaaGreatDoorTie.lean); close each card by the builder's one call (the guide's Derived/Test/ToyasCard.lean, 'card_holds'). Laid BY PROGRAM, IN A SANDBOX (cutbox-door.mjs). By AI agents, Wed Nov 11 2026. No macro, syntax, notation, axiom, sorry.
-/
import Derived.Test.YtmlpkimbcjkbkaaGreatDoorRows
import GoSem.ClaimSeven
namespace Go.Proofs.YtmlpkimbcjkbkaaGreatDoor
namespace Rows

/-- THE TIED CARD OF 'scribetop.ScribeParted'. -/
def scribePartedCard : Claim7 := { stood := { row := scribePartedRow, standIns := [], harness := (true, "df5aea4e93689a44ba89c68894df2f8350341fafbe27aae2367b238b6e6c5d8b"), looks := true }, kinds := [], alts := [], laidByText := true, laidKinds := [.data, .data, .data, .sentinel, .sentinel], laidTests := true, laidLooks := .later }
def ScribePartedCardSaid : Prop := Claim7.holds Tryz.pinned (.plain (OpenSpec.ofChange scribePartedSpec)) scribePartedCard

/-- THE SECOND FORM's CARD OF 'scribetop.ScribeParted'. -/
def scribePartedUptoCard : Claim7 := { stood := { row := scribePartedUptoRow, standIns := [], harness := (true, "df5aea4e93689a44ba89c68894df2f8350341fafbe27aae2367b238b6e6c5d8b"), looks := true }, kinds := [], alts := [], laidByText := true, laidKinds := [.data, .data, .data, .sentinel, .sentinel], laidTests := true, laidLooks := .later }
def ScribePartedUptoCardSaid : Prop := Claim7.holds Tryz.pinned (.plain (OpenSpec.upto scribePartedSpec)) scribePartedUptoCard
end Rows
end Go.Proofs.YtmlpkimbcjkbkaaGreatDoor
