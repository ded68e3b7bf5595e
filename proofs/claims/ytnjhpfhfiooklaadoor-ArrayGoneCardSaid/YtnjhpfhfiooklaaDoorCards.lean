/-
  DERIVED. GIVEN WITH THE SEED: THE CARDS: each row of YtnjhpfhfiooklaaDoorRows.lean that lists a variable, with what it lists TIED to the program's text (the seventh form; the later family's looks); each row that meets fmt, with fmt's text TOLD by the authors' own Lean function (tested against real Go, not proved from fmt's source: count such statements apart). THE CARD IS WHAT COUNTS. Prove the row's statement (the work); the ties are given (YtnjhpfhfiooklaaDoorTie.lean); close each card by the builder's one call (the guide's Derived/Test/ToyasCard.lean, 'card_holds'). Laid BY PROGRAM, IN A SANDBOX (cutbox-door.mjs). By AI agents, Wed Nov 11 2026. No macro, syntax, notation, axiom, sorry.
-/
import Derived.Test.YtnjhpfhfiooklaaDoorRows
import GoSem.ClaimSeven
namespace Go.Proofs.YtnjhpfhfiooklaaDoor
namespace Rows

/-- THE TIED CARD OF 'scribelaw08.ArrayPlays'. -/
def arrayPlaysCard : Claim7 := { stood := { row := arrayPlaysRow, standIns := [], harness := (true, "65c87d1b9af80de9164e540c365e1043694a79d02f5913707ff6ae7860bd689f"), looks := false }, kinds := [], alts := [], laidByText := true, laidKinds := [.data, .data, .data, .data, .pinned], laidTests := true, laidLooks := .later }
def ArrayPlaysCardSaid : Prop := Claim7.holds Tryd.pinned (.plain (OpenSpec.ofChange arrayPlaysSpec)) arrayPlaysCard

/-- THE TIED CARD OF 'scribelaw08.ArrayBack'. -/
def arrayBackCard : Claim7 := { stood := { row := arrayBackRow, standIns := [], harness := (true, "65c87d1b9af80de9164e540c365e1043694a79d02f5913707ff6ae7860bd689f"), looks := false }, kinds := [], alts := [], laidByText := true, laidKinds := [.data, .data, .data, .data, .pinned], laidTests := true, laidLooks := .later }
def ArrayBackCardSaid : Prop := Claim7.holds Tryd.pinned (.plain (OpenSpec.ofChange arrayBackSpec)) arrayBackCard

/-- THE TIED CARD OF 'scribelaw08.ArrayOne'. -/
def arrayOneCard : Claim7 := { stood := { row := arrayOneRow, standIns := [], harness := (true, "65c87d1b9af80de9164e540c365e1043694a79d02f5913707ff6ae7860bd689f"), looks := false }, kinds := [], alts := [], laidByText := true, laidKinds := [.data, .data, .data, .data, .pinned], laidTests := true, laidLooks := .later }
def ArrayOneCardSaid : Prop := Claim7.holds Tryd.pinned (.plain (OpenSpec.ofChange arrayOneSpec)) arrayOneCard

/-- THE TIED CARD OF 'scribelaw08.ArrayLast'. -/
def arrayLastCard : Claim7 := { stood := { row := arrayLastRow, standIns := [], harness := (true, "65c87d1b9af80de9164e540c365e1043694a79d02f5913707ff6ae7860bd689f"), looks := false }, kinds := [], alts := [], laidByText := true, laidKinds := [.data, .data, .data, .data, .pinned], laidTests := true, laidLooks := .later }
def ArrayLastCardSaid : Prop := Claim7.holds Tryd.pinned (.plain (OpenSpec.ofChange arrayLastSpec)) arrayLastCard

/-- THE TIED CARD OF 'scribelaw08.ArrayParts'. -/
def arrayPartsCard : Claim7 := { stood := { row := arrayPartsRow, standIns := [], harness := (true, "65c87d1b9af80de9164e540c365e1043694a79d02f5913707ff6ae7860bd689f"), looks := false }, kinds := [], alts := [], laidByText := true, laidKinds := [.data, .data, .data, .data, .pinned], laidTests := true, laidLooks := .later }
def ArrayPartsCardSaid : Prop := Claim7.holds Tryd.pinned (.plain (OpenSpec.ofChange arrayPartsSpec)) arrayPartsCard

/-- THE TIED CARD OF 'scribelaw08.ArrayGone'. -/
def arrayGoneCard : Claim7 := { stood := { row := arrayGoneRow, standIns := [], harness := (true, "65c87d1b9af80de9164e540c365e1043694a79d02f5913707ff6ae7860bd689f"), looks := false }, kinds := [], alts := [], laidByText := true, laidKinds := [.data, .data, .data, .data, .pinned], laidTests := true, laidLooks := .later }
def ArrayGoneCardSaid : Prop := Claim7.holds Tryd.pinned (.plain (OpenSpec.ofChange arrayGoneSpec)) arrayGoneCard

/-- THE SECOND FORM's CARD OF 'scribelaw08.ArrayPlays'. -/
def arrayPlaysUptoCard : Claim7 := { stood := { row := arrayPlaysUptoRow, standIns := [], harness := (true, "65c87d1b9af80de9164e540c365e1043694a79d02f5913707ff6ae7860bd689f"), looks := false }, kinds := [], alts := [], laidByText := true, laidKinds := [.data, .data, .data, .data, .pinned], laidTests := true, laidLooks := .later }
def ArrayPlaysUptoCardSaid : Prop := Claim7.holds Tryd.pinned (.plain (OpenSpec.upto arrayPlaysSpec)) arrayPlaysUptoCard

/-- THE SECOND FORM's CARD OF 'scribelaw08.ArrayBack'. -/
def arrayBackUptoCard : Claim7 := { stood := { row := arrayBackUptoRow, standIns := [], harness := (true, "65c87d1b9af80de9164e540c365e1043694a79d02f5913707ff6ae7860bd689f"), looks := false }, kinds := [], alts := [], laidByText := true, laidKinds := [.data, .data, .data, .data, .pinned], laidTests := true, laidLooks := .later }
def ArrayBackUptoCardSaid : Prop := Claim7.holds Tryd.pinned (.plain (OpenSpec.upto arrayBackSpec)) arrayBackUptoCard

/-- THE SECOND FORM's CARD OF 'scribelaw08.ArrayOne'. -/
def arrayOneUptoCard : Claim7 := { stood := { row := arrayOneUptoRow, standIns := [], harness := (true, "65c87d1b9af80de9164e540c365e1043694a79d02f5913707ff6ae7860bd689f"), looks := false }, kinds := [], alts := [], laidByText := true, laidKinds := [.data, .data, .data, .data, .pinned], laidTests := true, laidLooks := .later }
def ArrayOneUptoCardSaid : Prop := Claim7.holds Tryd.pinned (.plain (OpenSpec.upto arrayOneSpec)) arrayOneUptoCard

/-- THE SECOND FORM's CARD OF 'scribelaw08.ArrayLast'. -/
def arrayLastUptoCard : Claim7 := { stood := { row := arrayLastUptoRow, standIns := [], harness := (true, "65c87d1b9af80de9164e540c365e1043694a79d02f5913707ff6ae7860bd689f"), looks := false }, kinds := [], alts := [], laidByText := true, laidKinds := [.data, .data, .data, .data, .pinned], laidTests := true, laidLooks := .later }
def ArrayLastUptoCardSaid : Prop := Claim7.holds Tryd.pinned (.plain (OpenSpec.upto arrayLastSpec)) arrayLastUptoCard

/-- THE SECOND FORM's CARD OF 'scribelaw08.ArrayParts'. -/
def arrayPartsUptoCard : Claim7 := { stood := { row := arrayPartsUptoRow, standIns := [], harness := (true, "65c87d1b9af80de9164e540c365e1043694a79d02f5913707ff6ae7860bd689f"), looks := false }, kinds := [], alts := [], laidByText := true, laidKinds := [.data, .data, .data, .data, .pinned], laidTests := true, laidLooks := .later }
def ArrayPartsUptoCardSaid : Prop := Claim7.holds Tryd.pinned (.plain (OpenSpec.upto arrayPartsSpec)) arrayPartsUptoCard

/-- THE SECOND FORM's CARD OF 'scribelaw08.ArrayGone'. -/
def arrayGoneUptoCard : Claim7 := { stood := { row := arrayGoneUptoRow, standIns := [], harness := (true, "65c87d1b9af80de9164e540c365e1043694a79d02f5913707ff6ae7860bd689f"), looks := false }, kinds := [], alts := [], laidByText := true, laidKinds := [.data, .data, .data, .data, .pinned], laidTests := true, laidLooks := .later }
def ArrayGoneUptoCardSaid : Prop := Claim7.holds Tryd.pinned (.plain (OpenSpec.upto arrayGoneSpec)) arrayGoneUptoCard
end Rows
end Go.Proofs.YtnjhpfhfiooklaaDoor
