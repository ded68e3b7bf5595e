/-
  DERIVED. GIVEN WITH THE SEED: THE CARDS: each row of YtjjejcgpeefclaaDoorRows.lean that lists a variable, with what it lists TIED to the program's text (the seventh form; the later family's looks); each row that meets fmt, with fmt's text TOLD by the authors' own Lean function (tested against real Go, not proved from fmt's source: count such statements apart). THE CARD IS WHAT COUNTS. Prove the row's statement (the work); the ties are given (YtjjejcgpeefclaaDoorTie.lean); close each card by the builder's one call (the guide's Derived/Test/ToyasCard.lean, 'card_holds'). Laid BY PROGRAM, IN A SANDBOX (cutbox-door.mjs). By AI agents, Wed Nov 11 2026. No macro, syntax, notation, axiom, sorry.
-/
import Derived.Test.YtjjejcgpeefclaaDoorRows
import GoSem.ClaimSeven
namespace Go.Proofs.YtjjejcgpeefclaaDoor
namespace Rows

/-- THE TIED CARD OF 'scribelaw10.MatchFinds'. -/
def matchFindsCard : Claim7 := { stood := { row := matchFindsRow, standIns := [], harness := (true, "be446bf6b9a2bc21fb44d08d2d04923396653a57c1ca8114188bb8bd7bd6d214"), looks := false }, kinds := [], alts := [], laidByText := true, laidKinds := [.data], laidTests := true, laidLooks := .later }
def MatchFindsCardSaid : Prop := Claim7.holds Tryd.pinned (.plain (OpenSpec.ofChange matchFindsSpec)) matchFindsCard

/-- THE TIED CARD OF 'scribelaw10.MatchAll'. -/
def matchAllCard : Claim7 := { stood := { row := matchAllRow, standIns := [], harness := (true, "be446bf6b9a2bc21fb44d08d2d04923396653a57c1ca8114188bb8bd7bd6d214"), looks := false }, kinds := [], alts := [], laidByText := true, laidKinds := [.data], laidTests := true, laidLooks := .later }
def MatchAllCardSaid : Prop := Claim7.holds Tryd.pinned (.plain (OpenSpec.ofChange matchAllSpec)) matchAllCard

/-- THE TIED CARD OF 'scribelaw10.MatchWhole'. -/
def matchWholeCard : Claim7 := { stood := { row := matchWholeRow, standIns := [], harness := (true, "be446bf6b9a2bc21fb44d08d2d04923396653a57c1ca8114188bb8bd7bd6d214"), looks := false }, kinds := [], alts := [], laidByText := true, laidKinds := [.data], laidTests := true, laidLooks := .later }
def MatchWholeCardSaid : Prop := Claim7.holds Tryd.pinned (.plain (OpenSpec.ofChange matchWholeSpec)) matchWholeCard

/-- THE TIED CARD OF 'scribelaw10.MatchApart'. -/
def matchApartCard : Claim7 := { stood := { row := matchApartRow, standIns := [], harness := (true, "be446bf6b9a2bc21fb44d08d2d04923396653a57c1ca8114188bb8bd7bd6d214"), looks := false }, kinds := [], alts := [], laidByText := true, laidKinds := [.data], laidTests := true, laidLooks := .later }
def MatchApartCardSaid : Prop := Claim7.holds Tryd.pinned (.plain (OpenSpec.ofChange matchApartSpec)) matchApartCard

/-- THE TIED CARD OF 'scribelaw10.MatchPlain'. -/
def matchPlainCard : Claim7 := { stood := { row := matchPlainRow, standIns := [], harness := (true, "be446bf6b9a2bc21fb44d08d2d04923396653a57c1ca8114188bb8bd7bd6d214"), looks := false }, kinds := [], alts := [], laidByText := true, laidKinds := [.data], laidTests := true, laidLooks := .later }
def MatchPlainCardSaid : Prop := Claim7.holds Tryd.pinned (.plain (OpenSpec.ofChange matchPlainSpec)) matchPlainCard

/-- THE TIED CARD OF 'scribelaw10.MatchEither'. -/
def matchEitherCard : Claim7 := { stood := { row := matchEitherRow, standIns := [], harness := (true, "be446bf6b9a2bc21fb44d08d2d04923396653a57c1ca8114188bb8bd7bd6d214"), looks := false }, kinds := [], alts := [], laidByText := true, laidKinds := [.data], laidTests := true, laidLooks := .later }
def MatchEitherCardSaid : Prop := Claim7.holds Tryd.pinned (.plain (OpenSpec.ofChange matchEitherSpec)) matchEitherCard

/-- THE TIED CARD OF 'scribelaw10.MatchLongest'. -/
def matchLongestCard : Claim7 := { stood := { row := matchLongestRow, standIns := [], harness := (true, "be446bf6b9a2bc21fb44d08d2d04923396653a57c1ca8114188bb8bd7bd6d214"), looks := false }, kinds := [], alts := [], laidByText := true, laidKinds := [.data], laidTests := true, laidLooks := .later }
def MatchLongestCardSaid : Prop := Claim7.holds Tryd.pinned (.plain (OpenSpec.ofChange matchLongestSpec)) matchLongestCard

/-- THE SECOND FORM's CARD OF 'scribelaw10.MatchFinds'. -/
def matchFindsUptoCard : Claim7 := { stood := { row := matchFindsUptoRow, standIns := [], harness := (true, "be446bf6b9a2bc21fb44d08d2d04923396653a57c1ca8114188bb8bd7bd6d214"), looks := false }, kinds := [], alts := [], laidByText := true, laidKinds := [.data], laidTests := true, laidLooks := .later }
def MatchFindsUptoCardSaid : Prop := Claim7.holds Tryd.pinned (.plain (OpenSpec.upto matchFindsSpec)) matchFindsUptoCard

/-- THE SECOND FORM's CARD OF 'scribelaw10.MatchAll'. -/
def matchAllUptoCard : Claim7 := { stood := { row := matchAllUptoRow, standIns := [], harness := (true, "be446bf6b9a2bc21fb44d08d2d04923396653a57c1ca8114188bb8bd7bd6d214"), looks := false }, kinds := [], alts := [], laidByText := true, laidKinds := [.data], laidTests := true, laidLooks := .later }
def MatchAllUptoCardSaid : Prop := Claim7.holds Tryd.pinned (.plain (OpenSpec.upto matchAllSpec)) matchAllUptoCard

/-- THE SECOND FORM's CARD OF 'scribelaw10.MatchWhole'. -/
def matchWholeUptoCard : Claim7 := { stood := { row := matchWholeUptoRow, standIns := [], harness := (true, "be446bf6b9a2bc21fb44d08d2d04923396653a57c1ca8114188bb8bd7bd6d214"), looks := false }, kinds := [], alts := [], laidByText := true, laidKinds := [.data], laidTests := true, laidLooks := .later }
def MatchWholeUptoCardSaid : Prop := Claim7.holds Tryd.pinned (.plain (OpenSpec.upto matchWholeSpec)) matchWholeUptoCard

/-- THE SECOND FORM's CARD OF 'scribelaw10.MatchApart'. -/
def matchApartUptoCard : Claim7 := { stood := { row := matchApartUptoRow, standIns := [], harness := (true, "be446bf6b9a2bc21fb44d08d2d04923396653a57c1ca8114188bb8bd7bd6d214"), looks := false }, kinds := [], alts := [], laidByText := true, laidKinds := [.data], laidTests := true, laidLooks := .later }
def MatchApartUptoCardSaid : Prop := Claim7.holds Tryd.pinned (.plain (OpenSpec.upto matchApartSpec)) matchApartUptoCard

/-- THE SECOND FORM's CARD OF 'scribelaw10.MatchPlain'. -/
def matchPlainUptoCard : Claim7 := { stood := { row := matchPlainUptoRow, standIns := [], harness := (true, "be446bf6b9a2bc21fb44d08d2d04923396653a57c1ca8114188bb8bd7bd6d214"), looks := false }, kinds := [], alts := [], laidByText := true, laidKinds := [.data], laidTests := true, laidLooks := .later }
def MatchPlainUptoCardSaid : Prop := Claim7.holds Tryd.pinned (.plain (OpenSpec.upto matchPlainSpec)) matchPlainUptoCard

/-- THE SECOND FORM's CARD OF 'scribelaw10.MatchEither'. -/
def matchEitherUptoCard : Claim7 := { stood := { row := matchEitherUptoRow, standIns := [], harness := (true, "be446bf6b9a2bc21fb44d08d2d04923396653a57c1ca8114188bb8bd7bd6d214"), looks := false }, kinds := [], alts := [], laidByText := true, laidKinds := [.data], laidTests := true, laidLooks := .later }
def MatchEitherUptoCardSaid : Prop := Claim7.holds Tryd.pinned (.plain (OpenSpec.upto matchEitherSpec)) matchEitherUptoCard

/-- THE SECOND FORM's CARD OF 'scribelaw10.MatchLongest'. -/
def matchLongestUptoCard : Claim7 := { stood := { row := matchLongestUptoRow, standIns := [], harness := (true, "be446bf6b9a2bc21fb44d08d2d04923396653a57c1ca8114188bb8bd7bd6d214"), looks := false }, kinds := [], alts := [], laidByText := true, laidKinds := [.data], laidTests := true, laidLooks := .later }
def MatchLongestUptoCardSaid : Prop := Claim7.holds Tryd.pinned (.plain (OpenSpec.upto matchLongestSpec)) matchLongestUptoCard
end Rows
end Go.Proofs.YtjjejcgpeefclaaDoor
