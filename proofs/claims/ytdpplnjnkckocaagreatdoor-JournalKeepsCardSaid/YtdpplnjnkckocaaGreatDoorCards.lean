/-
  DERIVED. GIVEN WITH THE SEED: THE CARDS: each row of YtdpplnjnkckocaaGreatDoorRows.lean that lists a variable, with what it lists TIED to the program's text (the seventh form; the later family's looks); each row that meets fmt, with fmt's text TOLD by the authors' own Lean function (tested against real Go, not proved from fmt's source: count such statements apart). THE CARD IS WHAT COUNTS. Prove the row's statement (the work); the ties are given (YtdpplnjnkckocaaGreatDoorTie.lean); close each card by the builder's one call (the guide's Derived/Test/ToyasCard.lean, 'card_holds'). Laid BY PROGRAM, IN A SANDBOX (cutbox-door.mjs). By AI agents, Wed Nov 11 2026. No macro, syntax, notation, axiom, sorry.
-/
import Derived.Test.YtdpplnjnkckocaaGreatDoorRows
import GoSem.ClaimSeven
namespace Go.Proofs.YtdpplnjnkckocaaGreatDoor
namespace Rows

/-- THE TIED CARD OF 'scribelaw04.JournalKeeps'. -/
def journalKeepsCard : Claim7 := { stood := { row := journalKeepsRow, standIns := [], harness := (true, "b0d0ddfdcb8e03fdcd7e9da1f6a3d04bd9a7b78fbaa7ead6d55a90e42c22f6c6"), looks := true }, kinds := [], alts := [], laidByText := true, laidKinds := [.data, .data, .data, .sentinel, .sentinel], laidTests := true, laidLooks := .later }
def JournalKeepsCardSaid : Prop := Claim7.holds Tryz.pinned (.plain (OpenSpec.ofChange journalKeepsSpec)) journalKeepsCard

/-- THE TIED CARD OF 'scribelaw04.JournalDrops'. -/
def journalDropsCard : Claim7 := { stood := { row := journalDropsRow, standIns := [], harness := (true, "b0d0ddfdcb8e03fdcd7e9da1f6a3d04bd9a7b78fbaa7ead6d55a90e42c22f6c6"), looks := true }, kinds := [], alts := [], laidByText := true, laidKinds := [.data, .data, .data, .sentinel, .sentinel], laidTests := true, laidLooks := .later }
def JournalDropsCardSaid : Prop := Claim7.holds Tryz.pinned (.plain (OpenSpec.ofChange journalDropsSpec)) journalDropsCard

/-- THE SECOND FORM's CARD OF 'scribelaw04.JournalKeeps'. -/
def journalKeepsUptoCard : Claim7 := { stood := { row := journalKeepsUptoRow, standIns := [], harness := (true, "b0d0ddfdcb8e03fdcd7e9da1f6a3d04bd9a7b78fbaa7ead6d55a90e42c22f6c6"), looks := true }, kinds := [], alts := [], laidByText := true, laidKinds := [.data, .data, .data, .sentinel, .sentinel], laidTests := true, laidLooks := .later }
def JournalKeepsUptoCardSaid : Prop := Claim7.holds Tryz.pinned (.plain (OpenSpec.upto journalKeepsSpec)) journalKeepsUptoCard

/-- THE SECOND FORM's CARD OF 'scribelaw04.JournalDrops'. -/
def journalDropsUptoCard : Claim7 := { stood := { row := journalDropsUptoRow, standIns := [], harness := (true, "b0d0ddfdcb8e03fdcd7e9da1f6a3d04bd9a7b78fbaa7ead6d55a90e42c22f6c6"), looks := true }, kinds := [], alts := [], laidByText := true, laidKinds := [.data, .data, .data, .sentinel, .sentinel], laidTests := true, laidLooks := .later }
def JournalDropsUptoCardSaid : Prop := Claim7.holds Tryz.pinned (.plain (OpenSpec.upto journalDropsSpec)) journalDropsUptoCard
end Rows
end Go.Proofs.YtdpplnjnkckocaaGreatDoor
