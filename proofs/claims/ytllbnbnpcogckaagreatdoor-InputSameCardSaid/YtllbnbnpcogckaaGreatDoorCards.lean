/-
  DERIVED. GIVEN WITH THE SEED: THE CARDS: each row of YtllbnbnpcogckaaGreatDoorRows.lean that lists a variable, with what it lists TIED to the program's text (the seventh form; the later family's looks); each row that meets fmt, with fmt's text TOLD by the authors' own Lean function (tested against real Go, not proved from fmt's source: count such statements apart). THE CARD IS WHAT COUNTS. Prove the row's statement (the work); the ties are given (YtllbnbnpcogckaaGreatDoorTie.lean); close each card by the builder's one call (the guide's Derived/Test/ToyasCard.lean, 'card_holds'). Laid BY PROGRAM, IN A SANDBOX (cutbox-door.mjs). By AI agents, Wed Nov 11 2026. No macro, syntax, notation, axiom, sorry.
-/
import Derived.Test.YtllbnbnpcogckaaGreatDoorRows
import GoSem.ClaimSeven
namespace Go.Proofs.YtllbnbnpcogckaaGreatDoor
namespace Rows

/-- THE TIED CARD OF 'scribelaw16.InputLines'. -/
def inputLinesCard : Claim7 := { stood := { row := inputLinesRow, standIns := [], harness := (true, "e10eeb927068d0306ea3f30503300adc9875d06ab28c65c082962fc63f591b6c"), looks := false }, kinds := [], alts := [], laidByText := true, laidKinds := [.data, .data, .data, .data, .pinned], laidTests := true, laidLooks := .later }
def InputLinesCardSaid : Prop := Claim7.holds Tryz.pinned (.plain (OpenSpec.ofChange inputLinesSpec)) inputLinesCard

/-- THE TIED CARD OF 'scribelaw16.InputJoins'. -/
def inputJoinsCard : Claim7 := { stood := { row := inputJoinsRow, standIns := [], harness := (true, "e10eeb927068d0306ea3f30503300adc9875d06ab28c65c082962fc63f591b6c"), looks := false }, kinds := [], alts := [], laidByText := true, laidKinds := [.data, .data, .data, .data, .pinned], laidTests := true, laidLooks := .later }
def InputJoinsCardSaid : Prop := Claim7.holds Tryz.pinned (.plain (OpenSpec.ofChange inputJoinsSpec)) inputJoinsCard

/-- THE TIED CARD OF 'scribelaw16.InputFields'. -/
def inputFieldsCard : Claim7 := { stood := { row := inputFieldsRow, standIns := [], harness := (true, "e10eeb927068d0306ea3f30503300adc9875d06ab28c65c082962fc63f591b6c"), looks := false }, kinds := [], alts := [], laidByText := true, laidKinds := [.data, .data, .data, .data, .pinned], laidTests := true, laidLooks := .later }
def InputFieldsCardSaid : Prop := Claim7.holds Tryz.pinned (.plain (OpenSpec.ofChange inputFieldsSpec)) inputFieldsCard

/-- THE TIED CARD OF 'scribelaw16.InputBlanks'. -/
def inputBlanksCard : Claim7 := { stood := { row := inputBlanksRow, standIns := [], harness := (true, "e10eeb927068d0306ea3f30503300adc9875d06ab28c65c082962fc63f591b6c"), looks := false }, kinds := [], alts := [], laidByText := true, laidKinds := [.data, .data, .data, .data, .pinned], laidTests := true, laidLooks := .later }
def InputBlanksCardSaid : Prop := Claim7.holds Tryz.pinned (.plain (OpenSpec.ofChange inputBlanksSpec)) inputBlanksCard

/-- THE TIED CARD OF 'scribelaw16.InputSame'. -/
def inputSameCard : Claim7 := { stood := { row := inputSameRow, standIns := [], harness := (true, "e10eeb927068d0306ea3f30503300adc9875d06ab28c65c082962fc63f591b6c"), looks := false }, kinds := [], alts := [], laidByText := true, laidKinds := [.data, .data, .data, .data, .pinned], laidTests := true, laidLooks := .later }
def InputSameCardSaid : Prop := Claim7.holds Tryz.pinned (.plain (OpenSpec.ofChange inputSameSpec)) inputSameCard

/-- THE SECOND FORM's CARD OF 'scribelaw16.InputLines'. -/
def inputLinesUptoCard : Claim7 := { stood := { row := inputLinesUptoRow, standIns := [], harness := (true, "e10eeb927068d0306ea3f30503300adc9875d06ab28c65c082962fc63f591b6c"), looks := false }, kinds := [], alts := [], laidByText := true, laidKinds := [.data, .data, .data, .data, .pinned], laidTests := true, laidLooks := .later }
def InputLinesUptoCardSaid : Prop := Claim7.holds Tryz.pinned (.plain (OpenSpec.upto inputLinesSpec)) inputLinesUptoCard

/-- THE SECOND FORM's CARD OF 'scribelaw16.InputJoins'. -/
def inputJoinsUptoCard : Claim7 := { stood := { row := inputJoinsUptoRow, standIns := [], harness := (true, "e10eeb927068d0306ea3f30503300adc9875d06ab28c65c082962fc63f591b6c"), looks := false }, kinds := [], alts := [], laidByText := true, laidKinds := [.data, .data, .data, .data, .pinned], laidTests := true, laidLooks := .later }
def InputJoinsUptoCardSaid : Prop := Claim7.holds Tryz.pinned (.plain (OpenSpec.upto inputJoinsSpec)) inputJoinsUptoCard

/-- THE SECOND FORM's CARD OF 'scribelaw16.InputFields'. -/
def inputFieldsUptoCard : Claim7 := { stood := { row := inputFieldsUptoRow, standIns := [], harness := (true, "e10eeb927068d0306ea3f30503300adc9875d06ab28c65c082962fc63f591b6c"), looks := false }, kinds := [], alts := [], laidByText := true, laidKinds := [.data, .data, .data, .data, .pinned], laidTests := true, laidLooks := .later }
def InputFieldsUptoCardSaid : Prop := Claim7.holds Tryz.pinned (.plain (OpenSpec.upto inputFieldsSpec)) inputFieldsUptoCard

/-- THE SECOND FORM's CARD OF 'scribelaw16.InputBlanks'. -/
def inputBlanksUptoCard : Claim7 := { stood := { row := inputBlanksUptoRow, standIns := [], harness := (true, "e10eeb927068d0306ea3f30503300adc9875d06ab28c65c082962fc63f591b6c"), looks := false }, kinds := [], alts := [], laidByText := true, laidKinds := [.data, .data, .data, .data, .pinned], laidTests := true, laidLooks := .later }
def InputBlanksUptoCardSaid : Prop := Claim7.holds Tryz.pinned (.plain (OpenSpec.upto inputBlanksSpec)) inputBlanksUptoCard

/-- THE SECOND FORM's CARD OF 'scribelaw16.InputSame'. -/
def inputSameUptoCard : Claim7 := { stood := { row := inputSameUptoRow, standIns := [], harness := (true, "e10eeb927068d0306ea3f30503300adc9875d06ab28c65c082962fc63f591b6c"), looks := false }, kinds := [], alts := [], laidByText := true, laidKinds := [.data, .data, .data, .data, .pinned], laidTests := true, laidLooks := .later }
def InputSameUptoCardSaid : Prop := Claim7.holds Tryz.pinned (.plain (OpenSpec.upto inputSameSpec)) inputSameUptoCard
end Rows
end Go.Proofs.YtllbnbnpcogckaaGreatDoor
