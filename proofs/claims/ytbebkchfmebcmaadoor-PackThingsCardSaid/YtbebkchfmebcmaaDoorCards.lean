/-
  DERIVED. GIVEN WITH THE SEED: THE CARDS: each row of YtbebkchfmebcmaaDoorRows.lean that lists a variable, with what it lists TIED to the program's text (the seventh form; the later family's looks); each row that meets fmt, with fmt's text TOLD by the authors' own Lean function (tested against real Go, not proved from fmt's source: count such statements apart). THE CARD IS WHAT COUNTS. Prove the row's statement (the work); the ties are given (YtbebkchfmebcmaaDoorTie.lean); close each card by the builder's one call (the guide's Derived/Test/ToyasCard.lean, 'card_holds'). Laid BY PROGRAM, IN A SANDBOX (cutbox-door.mjs). By AI agents, Wed Nov 11 2026. No macro, syntax, notation, axiom, sorry.
-/
import Derived.Test.YtbebkchfmebcmaaDoorRows
import GoSem.ClaimSeven
namespace Go.Proofs.YtbebkchfmebcmaaDoor
namespace Rows

/-- THE TIED CARD OF 'scribelaw01.PackThings'. -/
def packThingsCard : Claim7 := { stood := { row := packThingsRow, standIns := [], harness := (true, "c3e0b7a786becec69b32feda8ea2e42a56710d485957c4bf048410ecac62a375"), looks := false }, kinds := [], alts := [], laidByText := true, laidKinds := [.data, .data, .data], laidTests := true, laidLooks := .later }
def PackThingsCardSaid : Prop := Claim7.holds Tryd.pinned (.plain (OpenSpec.ofChange packThingsSpec)) packThingsCard

/-- THE SECOND FORM's CARD OF 'scribelaw01.PackThings'. -/
def packThingsUptoCard : Claim7 := { stood := { row := packThingsUptoRow, standIns := [], harness := (true, "c3e0b7a786becec69b32feda8ea2e42a56710d485957c4bf048410ecac62a375"), looks := false }, kinds := [], alts := [], laidByText := true, laidKinds := [.data, .data, .data], laidTests := true, laidLooks := .later }
def PackThingsUptoCardSaid : Prop := Claim7.holds Tryd.pinned (.plain (OpenSpec.upto packThingsSpec)) packThingsUptoCard
end Rows
end Go.Proofs.YtbebkchfmebcmaaDoor
