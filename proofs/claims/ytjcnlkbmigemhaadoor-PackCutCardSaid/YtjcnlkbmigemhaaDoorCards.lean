/-
  DERIVED. GIVEN WITH THE SEED: THE CARDS: each row of YtjcnlkbmigemhaaDoorRows.lean that lists a variable, with what it lists TIED to the program's text (the seventh form; the later family's looks); each row that meets fmt, with fmt's text TOLD by the authors' own Lean function (tested against real Go, not proved from fmt's source: count such statements apart). THE CARD IS WHAT COUNTS. Prove the row's statement (the work); the ties are given (YtjcnlkbmigemhaaDoorTie.lean); close each card by the builder's one call (the guide's Derived/Test/ToyasCard.lean, 'card_holds'). Laid BY PROGRAM, IN A SANDBOX (cutbox-door.mjs). By AI agents, Wed Nov 11 2026. No macro, syntax, notation, axiom, sorry.
-/
import Derived.Test.YtjcnlkbmigemhaaDoorRows
import GoSem.ClaimSeven
namespace Go.Proofs.YtjcnlkbmigemhaaDoor
namespace Rows

/-- THE TIED CARD OF 'scribelaw01.PackThings'. -/
def packThingsCard : Claim7 := { stood := { row := packThingsRow, standIns := [], harness := (true, "a12f7760dacdf64247b968f2910f8b45a013b20edfecf5096b0009b708db6246"), looks := false }, kinds := [], alts := [], laidByText := true, laidKinds := [.data, .data, .data], laidTests := true, laidLooks := .later }
def PackThingsCardSaid : Prop := Claim7.holds Tryd.pinned (.plain (OpenSpec.ofChange packThingsSpec)) packThingsCard

/-- THE TIED CARD OF 'scribelaw01.PackCut'. -/
def packCutCard : Claim7 := { stood := { row := packCutRow, standIns := [], harness := (true, "a12f7760dacdf64247b968f2910f8b45a013b20edfecf5096b0009b708db6246"), looks := false }, kinds := [], alts := [], laidByText := true, laidKinds := [.data, .data, .data], laidTests := true, laidLooks := .later }
def PackCutCardSaid : Prop := Claim7.holds Tryd.pinned (.plain (OpenSpec.ofChange packCutSpec)) packCutCard

/-- THE TIED CARD OF 'scribelaw01.PackParts'. -/
def packPartsCard : Claim7 := { stood := { row := packPartsRow, standIns := [], harness := (true, "a12f7760dacdf64247b968f2910f8b45a013b20edfecf5096b0009b708db6246"), looks := false }, kinds := [], alts := [], laidByText := true, laidKinds := [.data, .data, .data], laidTests := true, laidLooks := .later }
def PackPartsCardSaid : Prop := Claim7.holds Tryd.pinned (.plain (OpenSpec.ofChange packPartsSpec)) packPartsCard

/-- THE TIED CARD OF 'scribelaw01.PackSkips'. -/
def packSkipsCard : Claim7 := { stood := { row := packSkipsRow, standIns := [], harness := (true, "a12f7760dacdf64247b968f2910f8b45a013b20edfecf5096b0009b708db6246"), looks := false }, kinds := [], alts := [], laidByText := true, laidKinds := [.data, .data, .data], laidTests := true, laidLooks := .later }
def PackSkipsCardSaid : Prop := Claim7.holds Tryd.pinned (.plain (OpenSpec.ofChange packSkipsSpec)) packSkipsCard

/-- THE SECOND FORM's CARD OF 'scribelaw01.PackThings'. -/
def packThingsUptoCard : Claim7 := { stood := { row := packThingsUptoRow, standIns := [], harness := (true, "a12f7760dacdf64247b968f2910f8b45a013b20edfecf5096b0009b708db6246"), looks := false }, kinds := [], alts := [], laidByText := true, laidKinds := [.data, .data, .data], laidTests := true, laidLooks := .later }
def PackThingsUptoCardSaid : Prop := Claim7.holds Tryd.pinned (.plain (OpenSpec.upto packThingsSpec)) packThingsUptoCard

/-- THE SECOND FORM's CARD OF 'scribelaw01.PackCut'. -/
def packCutUptoCard : Claim7 := { stood := { row := packCutUptoRow, standIns := [], harness := (true, "a12f7760dacdf64247b968f2910f8b45a013b20edfecf5096b0009b708db6246"), looks := false }, kinds := [], alts := [], laidByText := true, laidKinds := [.data, .data, .data], laidTests := true, laidLooks := .later }
def PackCutUptoCardSaid : Prop := Claim7.holds Tryd.pinned (.plain (OpenSpec.upto packCutSpec)) packCutUptoCard

/-- THE SECOND FORM's CARD OF 'scribelaw01.PackParts'. -/
def packPartsUptoCard : Claim7 := { stood := { row := packPartsUptoRow, standIns := [], harness := (true, "a12f7760dacdf64247b968f2910f8b45a013b20edfecf5096b0009b708db6246"), looks := false }, kinds := [], alts := [], laidByText := true, laidKinds := [.data, .data, .data], laidTests := true, laidLooks := .later }
def PackPartsUptoCardSaid : Prop := Claim7.holds Tryd.pinned (.plain (OpenSpec.upto packPartsSpec)) packPartsUptoCard

/-- THE SECOND FORM's CARD OF 'scribelaw01.PackSkips'. -/
def packSkipsUptoCard : Claim7 := { stood := { row := packSkipsUptoRow, standIns := [], harness := (true, "a12f7760dacdf64247b968f2910f8b45a013b20edfecf5096b0009b708db6246"), looks := false }, kinds := [], alts := [], laidByText := true, laidKinds := [.data, .data, .data], laidTests := true, laidLooks := .later }
def PackSkipsUptoCardSaid : Prop := Claim7.holds Tryd.pinned (.plain (OpenSpec.upto packSkipsSpec)) packSkipsUptoCard
end Rows
end Go.Proofs.YtjcnlkbmigemhaaDoor
