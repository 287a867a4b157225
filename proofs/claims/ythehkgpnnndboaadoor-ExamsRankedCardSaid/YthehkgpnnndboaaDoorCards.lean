/-
  DERIVED. GIVEN WITH THE SEED: THE CARDS: each row of YthehkgpnnndboaaDoorRows.lean that lists a variable, with what it lists TIED to the program's text (the seventh form; the later family's looks); each row that meets fmt, with fmt's text TOLD by the authors' own Lean function (tested against real Go, not proved from fmt's source: count such statements apart). THE CARD IS WHAT COUNTS. Prove the row's statement (the work); the ties are given (YthehkgpnnndboaaDoorTie.lean); close each card by the builder's one call (the guide's Derived/Test/ToyasCard.lean, 'card_holds'). Laid BY PROGRAM, IN A SANDBOX (cutbox-door.mjs). By AI agents, Wed Nov 11 2026. No macro, syntax, notation, axiom, sorry.
-/
import Derived.Test.YthehkgpnnndboaaDoorRows
import GoSem.ClaimSeven
namespace Go.Proofs.YthehkgpnnndboaaDoor
namespace Rows

/-- THE TIED CARD OF 'handshapelaw09.ExamsRanges'. -/
def examsRangesCard : Claim7 := { stood := { row := examsRangesRow, standIns := [], harness := (true, "2a1c04873bdba9d94aa1d3418b2b5b6df73e85cf1c3c6b2c36a25a7562a39c46"), looks := false }, kinds := [], alts := [], laidByText := true, laidKinds := [.data], laidTests := true, laidLooks := .later }
def ExamsRangesCardSaid : Prop := Claim7.holds Tryd.pinned (.plain (OpenSpec.ofChange examsRangesSpec)) examsRangesCard

/-- THE TIED CARD OF 'handshapelaw09.ExamsNext'. -/
def examsNextCard : Claim7 := { stood := { row := examsNextRow, standIns := [], harness := (true, "2a1c04873bdba9d94aa1d3418b2b5b6df73e85cf1c3c6b2c36a25a7562a39c46"), looks := false }, kinds := [], alts := [], laidByText := true, laidKinds := [.data], laidTests := true, laidLooks := .later }
def ExamsNextCardSaid : Prop := Claim7.holds Tryd.pinned (.plain (OpenSpec.ofChange examsNextSpec)) examsNextCard

/-- THE TIED CARD OF 'handshapelaw09.ExamsShows'. -/
def examsShowsCard : Claim7 := { stood := { row := examsShowsRow, standIns := [], harness := (true, "2a1c04873bdba9d94aa1d3418b2b5b6df73e85cf1c3c6b2c36a25a7562a39c46"), looks := false }, kinds := [], alts := [], laidByText := true, laidKinds := [.data], laidTests := true, laidLooks := .later }
def ExamsShowsCardSaid : Prop := Claim7.holds Tryd.pinned (.plain (OpenSpec.ofChange examsShowsSpec)) examsShowsCard

/-- THE TIED CARD OF 'handshapelaw09.ExamsRanks'. -/
def examsRanksCard : Claim7 := { stood := { row := examsRanksRow, standIns := [], harness := (true, "2a1c04873bdba9d94aa1d3418b2b5b6df73e85cf1c3c6b2c36a25a7562a39c46"), looks := false }, kinds := [], alts := [], laidByText := true, laidKinds := [.data], laidTests := true, laidLooks := .later }
def ExamsRanksCardSaid : Prop := Claim7.holds Tryd.pinned (.plain (OpenSpec.ofChange examsRanksSpec)) examsRanksCard

/-- THE TIED CARD OF 'handshapelaw09.ExamsSure'. -/
def examsSureCard : Claim7 := { stood := { row := examsSureRow, standIns := [], harness := (true, "2a1c04873bdba9d94aa1d3418b2b5b6df73e85cf1c3c6b2c36a25a7562a39c46"), looks := false }, kinds := [], alts := [], laidByText := true, laidKinds := [.data], laidTests := true, laidLooks := .later }
def ExamsSureCardSaid : Prop := Claim7.holds Tryd.pinned (.plain (OpenSpec.ofChange examsSureSpec)) examsSureCard

/-- THE TIED CARD OF 'handshapelaw09.ExamsShown'. -/
def examsShownCard : Claim7 := { stood := { row := examsShownRow, standIns := [], harness := (true, "2a1c04873bdba9d94aa1d3418b2b5b6df73e85cf1c3c6b2c36a25a7562a39c46"), looks := false }, kinds := [], alts := [], laidByText := true, laidKinds := [.data], laidTests := true, laidLooks := .later }
def ExamsShownCardSaid : Prop := Claim7.holds Tryd.pinned (.plain (OpenSpec.ofChange examsShownSpec)) examsShownCard

/-- THE TIED CARD OF 'handshapelaw09.ExamsMore'. -/
def examsMoreCard : Claim7 := { stood := { row := examsMoreRow, standIns := [], harness := (true, "2a1c04873bdba9d94aa1d3418b2b5b6df73e85cf1c3c6b2c36a25a7562a39c46"), looks := false }, kinds := [], alts := [], laidByText := true, laidKinds := [.data], laidTests := true, laidLooks := .later }
def ExamsMoreCardSaid : Prop := Claim7.holds Tryd.pinned (.plain (OpenSpec.ofChange examsMoreSpec)) examsMoreCard

/-- THE TIED CARD OF 'handshapelaw09.ExamsFewest'. -/
def examsFewestCard : Claim7 := { stood := { row := examsFewestRow, standIns := [], harness := (true, "2a1c04873bdba9d94aa1d3418b2b5b6df73e85cf1c3c6b2c36a25a7562a39c46"), looks := false }, kinds := [], alts := [], laidByText := true, laidKinds := [.data], laidTests := true, laidLooks := .later }
def ExamsFewestCardSaid : Prop := Claim7.holds Tryd.pinned (.plain (OpenSpec.ofChange examsFewestSpec)) examsFewestCard

/-- THE TIED CARD OF 'handshapelaw09.ExamsMarked'. -/
def examsMarkedCard : Claim7 := { stood := { row := examsMarkedRow, standIns := [], harness := (true, "2a1c04873bdba9d94aa1d3418b2b5b6df73e85cf1c3c6b2c36a25a7562a39c46"), looks := false }, kinds := [], alts := [], laidByText := true, laidKinds := [.data], laidTests := true, laidLooks := .later }
def ExamsMarkedCardSaid : Prop := Claim7.holds Tryd.pinned (.plain (OpenSpec.ofChange examsMarkedSpec)) examsMarkedCard

/-- THE TIED CARD OF 'handshapelaw09.ExamsRanked'. -/
def examsRankedCard : Claim7 := { stood := { row := examsRankedRow, standIns := [], harness := (true, "2a1c04873bdba9d94aa1d3418b2b5b6df73e85cf1c3c6b2c36a25a7562a39c46"), looks := false }, kinds := [], alts := [], laidByText := true, laidKinds := [.data], laidTests := true, laidLooks := .later }
def ExamsRankedCardSaid : Prop := Claim7.holds Tryd.pinned (.plain (OpenSpec.ofChange examsRankedSpec)) examsRankedCard

/-- THE SECOND FORM's CARD OF 'handshapelaw09.ExamsRanges'. -/
def examsRangesUptoCard : Claim7 := { stood := { row := examsRangesUptoRow, standIns := [], harness := (true, "2a1c04873bdba9d94aa1d3418b2b5b6df73e85cf1c3c6b2c36a25a7562a39c46"), looks := false }, kinds := [], alts := [], laidByText := true, laidKinds := [.data], laidTests := true, laidLooks := .later }
def ExamsRangesUptoCardSaid : Prop := Claim7.holds Tryd.pinned (.plain (OpenSpec.upto examsRangesSpec)) examsRangesUptoCard

/-- THE SECOND FORM's CARD OF 'handshapelaw09.ExamsNext'. -/
def examsNextUptoCard : Claim7 := { stood := { row := examsNextUptoRow, standIns := [], harness := (true, "2a1c04873bdba9d94aa1d3418b2b5b6df73e85cf1c3c6b2c36a25a7562a39c46"), looks := false }, kinds := [], alts := [], laidByText := true, laidKinds := [.data], laidTests := true, laidLooks := .later }
def ExamsNextUptoCardSaid : Prop := Claim7.holds Tryd.pinned (.plain (OpenSpec.upto examsNextSpec)) examsNextUptoCard

/-- THE SECOND FORM's CARD OF 'handshapelaw09.ExamsShows'. -/
def examsShowsUptoCard : Claim7 := { stood := { row := examsShowsUptoRow, standIns := [], harness := (true, "2a1c04873bdba9d94aa1d3418b2b5b6df73e85cf1c3c6b2c36a25a7562a39c46"), looks := false }, kinds := [], alts := [], laidByText := true, laidKinds := [.data], laidTests := true, laidLooks := .later }
def ExamsShowsUptoCardSaid : Prop := Claim7.holds Tryd.pinned (.plain (OpenSpec.upto examsShowsSpec)) examsShowsUptoCard

/-- THE SECOND FORM's CARD OF 'handshapelaw09.ExamsRanks'. -/
def examsRanksUptoCard : Claim7 := { stood := { row := examsRanksUptoRow, standIns := [], harness := (true, "2a1c04873bdba9d94aa1d3418b2b5b6df73e85cf1c3c6b2c36a25a7562a39c46"), looks := false }, kinds := [], alts := [], laidByText := true, laidKinds := [.data], laidTests := true, laidLooks := .later }
def ExamsRanksUptoCardSaid : Prop := Claim7.holds Tryd.pinned (.plain (OpenSpec.upto examsRanksSpec)) examsRanksUptoCard

/-- THE SECOND FORM's CARD OF 'handshapelaw09.ExamsSure'. -/
def examsSureUptoCard : Claim7 := { stood := { row := examsSureUptoRow, standIns := [], harness := (true, "2a1c04873bdba9d94aa1d3418b2b5b6df73e85cf1c3c6b2c36a25a7562a39c46"), looks := false }, kinds := [], alts := [], laidByText := true, laidKinds := [.data], laidTests := true, laidLooks := .later }
def ExamsSureUptoCardSaid : Prop := Claim7.holds Tryd.pinned (.plain (OpenSpec.upto examsSureSpec)) examsSureUptoCard

/-- THE SECOND FORM's CARD OF 'handshapelaw09.ExamsShown'. -/
def examsShownUptoCard : Claim7 := { stood := { row := examsShownUptoRow, standIns := [], harness := (true, "2a1c04873bdba9d94aa1d3418b2b5b6df73e85cf1c3c6b2c36a25a7562a39c46"), looks := false }, kinds := [], alts := [], laidByText := true, laidKinds := [.data], laidTests := true, laidLooks := .later }
def ExamsShownUptoCardSaid : Prop := Claim7.holds Tryd.pinned (.plain (OpenSpec.upto examsShownSpec)) examsShownUptoCard

/-- THE SECOND FORM's CARD OF 'handshapelaw09.ExamsMore'. -/
def examsMoreUptoCard : Claim7 := { stood := { row := examsMoreUptoRow, standIns := [], harness := (true, "2a1c04873bdba9d94aa1d3418b2b5b6df73e85cf1c3c6b2c36a25a7562a39c46"), looks := false }, kinds := [], alts := [], laidByText := true, laidKinds := [.data], laidTests := true, laidLooks := .later }
def ExamsMoreUptoCardSaid : Prop := Claim7.holds Tryd.pinned (.plain (OpenSpec.upto examsMoreSpec)) examsMoreUptoCard

/-- THE SECOND FORM's CARD OF 'handshapelaw09.ExamsFewest'. -/
def examsFewestUptoCard : Claim7 := { stood := { row := examsFewestUptoRow, standIns := [], harness := (true, "2a1c04873bdba9d94aa1d3418b2b5b6df73e85cf1c3c6b2c36a25a7562a39c46"), looks := false }, kinds := [], alts := [], laidByText := true, laidKinds := [.data], laidTests := true, laidLooks := .later }
def ExamsFewestUptoCardSaid : Prop := Claim7.holds Tryd.pinned (.plain (OpenSpec.upto examsFewestSpec)) examsFewestUptoCard

/-- THE SECOND FORM's CARD OF 'handshapelaw09.ExamsMarked'. -/
def examsMarkedUptoCard : Claim7 := { stood := { row := examsMarkedUptoRow, standIns := [], harness := (true, "2a1c04873bdba9d94aa1d3418b2b5b6df73e85cf1c3c6b2c36a25a7562a39c46"), looks := false }, kinds := [], alts := [], laidByText := true, laidKinds := [.data], laidTests := true, laidLooks := .later }
def ExamsMarkedUptoCardSaid : Prop := Claim7.holds Tryd.pinned (.plain (OpenSpec.upto examsMarkedSpec)) examsMarkedUptoCard

/-- THE SECOND FORM's CARD OF 'handshapelaw09.ExamsRanked'. -/
def examsRankedUptoCard : Claim7 := { stood := { row := examsRankedUptoRow, standIns := [], harness := (true, "2a1c04873bdba9d94aa1d3418b2b5b6df73e85cf1c3c6b2c36a25a7562a39c46"), looks := false }, kinds := [], alts := [], laidByText := true, laidKinds := [.data], laidTests := true, laidLooks := .later }
def ExamsRankedUptoCardSaid : Prop := Claim7.holds Tryd.pinned (.plain (OpenSpec.upto examsRankedSpec)) examsRankedUptoCard
end Rows
end Go.Proofs.YthehkgpnnndboaaDoor
