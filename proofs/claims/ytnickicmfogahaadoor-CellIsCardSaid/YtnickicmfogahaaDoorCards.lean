/-
  DERIVED. GIVEN WITH THE SEED: THE CARDS: each row of YtnickicmfogahaaDoorRows.lean that lists a variable, with what it lists TIED to the program's text (the seventh form; the later family's looks); each row that meets fmt, with fmt's text TOLD by the authors' own Lean function (tested against real Go, not proved from fmt's source: count such statements apart). THE CARD IS WHAT COUNTS. Prove the row's statement (the work); the ties are given (YtnickicmfogahaaDoorTie.lean); close each card by the builder's one call (the guide's Derived/Test/ToyasCard.lean, 'card_holds'). Laid BY PROGRAM, IN A SANDBOX (cutbox-door.mjs). By AI agents, Wed Nov 11 2026. No macro, syntax, notation, axiom, sorry.
-/
import Derived.Test.YtnickicmfogahaaDoorRows
import GoSem.ClaimSeven
namespace Go.Proofs.YtnickicmfogahaaDoor
namespace Rows

/-- THE TIED CARD OF 'scribelaw06.CellIs'. -/
def cellIsCard : Claim7 := { stood := { row := cellIsRow, standIns := [], harness := (true, "048869d4446fa98c2b72412801d0c68aa079402a60169e59dbbb8f46653f9964"), looks := false }, kinds := [], alts := [], laidByText := true, laidKinds := [.data, .data, .data, .data, .pinned], laidTests := true, laidLooks := .later }
def CellIsCardSaid : Prop := Claim7.holds Tryd.pinned (.plain (OpenSpec.ofChange cellIsSpec)) cellIsCard

/-- THE TIED CARD OF 'scribelaw06.CellMakes'. -/
def cellMakesCard : Claim7 := { stood := { row := cellMakesRow, standIns := [], harness := (true, "048869d4446fa98c2b72412801d0c68aa079402a60169e59dbbb8f46653f9964"), looks := false }, kinds := [], alts := [], laidByText := true, laidKinds := [.data, .data, .data, .data, .pinned], laidTests := true, laidLooks := .later }
def CellMakesCardSaid : Prop := Claim7.holds Tryd.pinned (.plain (OpenSpec.ofChange cellMakesSpec)) cellMakesCard

/-- THE SECOND FORM's CARD OF 'scribelaw06.CellIs'. -/
def cellIsUptoCard : Claim7 := { stood := { row := cellIsUptoRow, standIns := [], harness := (true, "048869d4446fa98c2b72412801d0c68aa079402a60169e59dbbb8f46653f9964"), looks := false }, kinds := [], alts := [], laidByText := true, laidKinds := [.data, .data, .data, .data, .pinned], laidTests := true, laidLooks := .later }
def CellIsUptoCardSaid : Prop := Claim7.holds Tryd.pinned (.plain (OpenSpec.upto cellIsSpec)) cellIsUptoCard

/-- THE SECOND FORM's CARD OF 'scribelaw06.CellMakes'. -/
def cellMakesUptoCard : Claim7 := { stood := { row := cellMakesUptoRow, standIns := [], harness := (true, "048869d4446fa98c2b72412801d0c68aa079402a60169e59dbbb8f46653f9964"), looks := false }, kinds := [], alts := [], laidByText := true, laidKinds := [.data, .data, .data, .data, .pinned], laidTests := true, laidLooks := .later }
def CellMakesUptoCardSaid : Prop := Claim7.holds Tryd.pinned (.plain (OpenSpec.upto cellMakesSpec)) cellMakesUptoCard
end Rows
end Go.Proofs.YtnickicmfogahaaDoor
