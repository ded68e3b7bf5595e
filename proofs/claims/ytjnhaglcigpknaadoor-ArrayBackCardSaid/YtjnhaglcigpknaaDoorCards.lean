/-
  DERIVED. GIVEN WITH THE SEED: THE CARDS: each row of YtjnhaglcigpknaaDoorRows.lean that lists a variable, with what it lists TIED to the program's text (the seventh form; the later family's looks); each row that meets fmt, with fmt's text TOLD by the authors' own Lean function (tested against real Go, not proved from fmt's source: count such statements apart). THE CARD IS WHAT COUNTS. Prove the row's statement (the work); the ties are given (YtjnhaglcigpknaaDoorTie.lean); close each card by the builder's one call (the guide's Derived/Test/ToyasCard.lean, 'card_holds'). Laid BY PROGRAM, IN A SANDBOX (cutbox-door.mjs). By AI agents, Wed Nov 11 2026. No macro, syntax, notation, axiom, sorry.
-/
import Derived.Test.YtjnhaglcigpknaaDoorRows
import GoSem.ClaimSeven
namespace Go.Proofs.YtjnhaglcigpknaaDoor
namespace Rows

/-- THE TIED CARD OF 'scribelaw08.ArrayBack'. -/
def arrayBackCard : Claim7 := { stood := { row := arrayBackRow, standIns := [], harness := (true, "080f5bec91f5d5c570ebc7dcdb6c3520353e2d47d6dba406744e1c3ddefd72c6"), looks := false }, kinds := [], alts := [], laidByText := true, laidKinds := [.data, .data, .data, .data, .pinned], laidTests := true, laidLooks := .later }
def ArrayBackCardSaid : Prop := Claim7.holds Tryd.pinned (.plain (OpenSpec.ofChange arrayBackSpec)) arrayBackCard

/-- THE SECOND FORM's CARD OF 'scribelaw08.ArrayBack'. -/
def arrayBackUptoCard : Claim7 := { stood := { row := arrayBackUptoRow, standIns := [], harness := (true, "080f5bec91f5d5c570ebc7dcdb6c3520353e2d47d6dba406744e1c3ddefd72c6"), looks := false }, kinds := [], alts := [], laidByText := true, laidKinds := [.data, .data, .data, .data, .pinned], laidTests := true, laidLooks := .later }
def ArrayBackUptoCardSaid : Prop := Claim7.holds Tryd.pinned (.plain (OpenSpec.upto arrayBackSpec)) arrayBackUptoCard
end Rows
end Go.Proofs.YtjnhaglcigpknaaDoor
