/-
  DERIVED. GIVEN WITH THE SEED: THE CARDS: each row of YtdpplnjnkckocaaDoorRows.lean that lists a variable, with what it lists TIED to the program's text (the seventh form; the later family's looks); each row that meets fmt, with fmt's text TOLD by the authors' own Lean function (tested against real Go, not proved from fmt's source: count such statements apart). THE CARD IS WHAT COUNTS. Prove the row's statement (the work); the ties are given (YtdpplnjnkckocaaDoorTie.lean); close each card by the builder's one call (the guide's Derived/Test/ToyasCard.lean, 'card_holds'). Laid BY PROGRAM, IN A SANDBOX (cutbox-door.mjs). By AI agents, Wed Nov 11 2026. No macro, syntax, notation, axiom, sorry.
-/
import Derived.Test.YtdpplnjnkckocaaDoorRows
import GoSem.ClaimSeven
namespace Go.Proofs.YtdpplnjnkckocaaDoor
namespace Rows

/-- THE TIED CARD OF 'scribelaw04.JournalFull'. -/
def journalFullCard : Claim7 := { stood := { row := journalFullRow, standIns := [], harness := (true, "68aa671fdb6ee6640f2d8ad25a2a04cd6176360b92a07cbb4cb6d5c36c0f2bda"), looks := true }, kinds := [], alts := [], laidByText := true, laidKinds := [.data, .data, .data, .sentinel, .sentinel], laidTests := true, laidLooks := .later }
def JournalFullCardSaid : Prop := Claim7.holds Tryd.pinned (.plain (OpenSpec.ofChange journalFullSpec)) journalFullCard

/-- THE TIED CARD OF 'scribetop.ScribeSummed'. -/
def scribeSummedCard : Claim7 := { stood := { row := scribeSummedRow, standIns := [], harness := (true, "68aa671fdb6ee6640f2d8ad25a2a04cd6176360b92a07cbb4cb6d5c36c0f2bda"), looks := true }, kinds := [], alts := [], laidByText := true, laidKinds := [.data, .data, .data, .sentinel, .sentinel], laidTests := true, laidLooks := .later }
def ScribeSummedCardSaid : Prop := Claim7.holds Tryd.pinned (.plain (OpenSpec.ofChange scribeSummedSpec)) scribeSummedCard

/-- THE SECOND FORM's CARD OF 'scribelaw04.JournalFull'. -/
def journalFullUptoCard : Claim7 := { stood := { row := journalFullUptoRow, standIns := [], harness := (true, "68aa671fdb6ee6640f2d8ad25a2a04cd6176360b92a07cbb4cb6d5c36c0f2bda"), looks := true }, kinds := [], alts := [], laidByText := true, laidKinds := [.data, .data, .data, .sentinel, .sentinel], laidTests := true, laidLooks := .later }
def JournalFullUptoCardSaid : Prop := Claim7.holds Tryd.pinned (.plain (OpenSpec.upto journalFullSpec)) journalFullUptoCard

/-- THE SECOND FORM's CARD OF 'scribetop.ScribeSummed'. -/
def scribeSummedUptoCard : Claim7 := { stood := { row := scribeSummedUptoRow, standIns := [], harness := (true, "68aa671fdb6ee6640f2d8ad25a2a04cd6176360b92a07cbb4cb6d5c36c0f2bda"), looks := true }, kinds := [], alts := [], laidByText := true, laidKinds := [.data, .data, .data, .sentinel, .sentinel], laidTests := true, laidLooks := .later }
def ScribeSummedUptoCardSaid : Prop := Claim7.holds Tryd.pinned (.plain (OpenSpec.upto scribeSummedSpec)) scribeSummedUptoCard
end Rows
end Go.Proofs.YtdpplnjnkckocaaDoor
