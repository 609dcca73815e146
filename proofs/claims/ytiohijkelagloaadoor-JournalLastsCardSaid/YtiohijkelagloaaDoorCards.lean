/-
  DERIVED. GIVEN WITH THE SEED: THE CARDS: each row of YtiohijkelagloaaDoorRows.lean that lists a variable, with what it lists TIED to the program's text (the seventh form; the later family's looks); each row that meets fmt, with fmt's text TOLD by the authors' own Lean function (tested against real Go, not proved from fmt's source: count such statements apart). THE CARD IS WHAT COUNTS. Prove the row's statement (the work); the ties are given (YtiohijkelagloaaDoorTie.lean); close each card by the builder's one call (the guide's Derived/Test/ToyasCard.lean, 'card_holds'). Laid BY PROGRAM, IN A SANDBOX (cutbox-door.mjs). By AI agents, Wed Nov 11 2026. No macro, syntax, notation, axiom, sorry.
-/
import Derived.Test.YtiohijkelagloaaDoorRows
import GoSem.ClaimSeven
namespace Go.Proofs.YtiohijkelagloaaDoor
namespace Rows

/-- THE TIED CARD OF 'milepostlaw09.JournalReads'. -/
def journalReadsCard : Claim7 := { stood := { row := journalReadsRow, standIns := [], harness := (true, "580e909e781237826d02cebc7391d9d082e481f02eb34b083762c3ae3926875f"), looks := false }, kinds := [], alts := [], laidByText := true, laidKinds := [.data], laidTests := true, laidLooks := .later }
def JournalReadsCardSaid : Prop := Claim7.holds Tryd.pinned (.plain (OpenSpec.ofChange journalReadsSpec)) journalReadsCard

/-- THE TIED CARD OF 'milepostlaw09.JournalNil'. -/
def journalNilCard : Claim7 := { stood := { row := journalNilRow, standIns := [], harness := (true, "580e909e781237826d02cebc7391d9d082e481f02eb34b083762c3ae3926875f"), looks := false }, kinds := [], alts := [], laidByText := true, laidKinds := [.data], laidTests := true, laidLooks := .later }
def JournalNilCardSaid : Prop := Claim7.holds Tryd.pinned (.plain (OpenSpec.ofChange journalNilSpec)) journalNilCard

/-- THE TIED CARD OF 'milepostlaw09.JournalLasts'. -/
def journalLastsCard : Claim7 := { stood := { row := journalLastsRow, standIns := [], harness := (true, "580e909e781237826d02cebc7391d9d082e481f02eb34b083762c3ae3926875f"), looks := false }, kinds := [], alts := [], laidByText := true, laidKinds := [.data], laidTests := true, laidLooks := .later }
def JournalLastsCardSaid : Prop := Claim7.holds Tryd.pinned (.plain (OpenSpec.ofChange journalLastsSpec)) journalLastsCard

/-- THE TIED CARD OF 'milepostlaw09.JournalRot'. -/
def journalRotCard : Claim7 := { stood := { row := journalRotRow, standIns := [], harness := (true, "580e909e781237826d02cebc7391d9d082e481f02eb34b083762c3ae3926875f"), looks := false }, kinds := [], alts := [], laidByText := true, laidKinds := [.data], laidTests := true, laidLooks := .later }
def JournalRotCardSaid : Prop := Claim7.holds Tryd.pinned (.plain (OpenSpec.ofChange journalRotSpec)) journalRotCard

/-- THE TIED CARD OF 'milepostlaw09.JournalBacks'. -/
def journalBacksCard : Claim7 := { stood := { row := journalBacksRow, standIns := [], harness := (true, "580e909e781237826d02cebc7391d9d082e481f02eb34b083762c3ae3926875f"), looks := false }, kinds := [], alts := [], laidByText := true, laidKinds := [.data], laidTests := true, laidLooks := .later }
def JournalBacksCardSaid : Prop := Claim7.holds Tryd.pinned (.plain (OpenSpec.ofChange journalBacksSpec)) journalBacksCard

/-- THE TIED CARD OF 'milepostlaw09.JournalCut'. -/
def journalCutCard : Claim7 := { stood := { row := journalCutRow, standIns := [], harness := (true, "580e909e781237826d02cebc7391d9d082e481f02eb34b083762c3ae3926875f"), looks := false }, kinds := [], alts := [], laidByText := true, laidKinds := [.data], laidTests := true, laidLooks := .later }
def JournalCutCardSaid : Prop := Claim7.holds Tryd.pinned (.plain (OpenSpec.ofChange journalCutSpec)) journalCutCard

/-- THE TIED CARD OF 'milepostlaw09.JournalMoves'. -/
def journalMovesCard : Claim7 := { stood := { row := journalMovesRow, standIns := [], harness := (true, "580e909e781237826d02cebc7391d9d082e481f02eb34b083762c3ae3926875f"), looks := false }, kinds := [], alts := [], laidByText := true, laidKinds := [.data], laidTests := true, laidLooks := .later }
def JournalMovesCardSaid : Prop := Claim7.holds Tryd.pinned (.plain (OpenSpec.ofChange journalMovesSpec)) journalMovesCard

/-- THE SECOND FORM's CARD OF 'milepostlaw09.JournalReads'. -/
def journalReadsUptoCard : Claim7 := { stood := { row := journalReadsUptoRow, standIns := [], harness := (true, "580e909e781237826d02cebc7391d9d082e481f02eb34b083762c3ae3926875f"), looks := false }, kinds := [], alts := [], laidByText := true, laidKinds := [.data], laidTests := true, laidLooks := .later }
def JournalReadsUptoCardSaid : Prop := Claim7.holds Tryd.pinned (.plain (OpenSpec.upto journalReadsSpec)) journalReadsUptoCard

/-- THE SECOND FORM's CARD OF 'milepostlaw09.JournalNil'. -/
def journalNilUptoCard : Claim7 := { stood := { row := journalNilUptoRow, standIns := [], harness := (true, "580e909e781237826d02cebc7391d9d082e481f02eb34b083762c3ae3926875f"), looks := false }, kinds := [], alts := [], laidByText := true, laidKinds := [.data], laidTests := true, laidLooks := .later }
def JournalNilUptoCardSaid : Prop := Claim7.holds Tryd.pinned (.plain (OpenSpec.upto journalNilSpec)) journalNilUptoCard

/-- THE SECOND FORM's CARD OF 'milepostlaw09.JournalLasts'. -/
def journalLastsUptoCard : Claim7 := { stood := { row := journalLastsUptoRow, standIns := [], harness := (true, "580e909e781237826d02cebc7391d9d082e481f02eb34b083762c3ae3926875f"), looks := false }, kinds := [], alts := [], laidByText := true, laidKinds := [.data], laidTests := true, laidLooks := .later }
def JournalLastsUptoCardSaid : Prop := Claim7.holds Tryd.pinned (.plain (OpenSpec.upto journalLastsSpec)) journalLastsUptoCard

/-- THE SECOND FORM's CARD OF 'milepostlaw09.JournalRot'. -/
def journalRotUptoCard : Claim7 := { stood := { row := journalRotUptoRow, standIns := [], harness := (true, "580e909e781237826d02cebc7391d9d082e481f02eb34b083762c3ae3926875f"), looks := false }, kinds := [], alts := [], laidByText := true, laidKinds := [.data], laidTests := true, laidLooks := .later }
def JournalRotUptoCardSaid : Prop := Claim7.holds Tryd.pinned (.plain (OpenSpec.upto journalRotSpec)) journalRotUptoCard

/-- THE SECOND FORM's CARD OF 'milepostlaw09.JournalBacks'. -/
def journalBacksUptoCard : Claim7 := { stood := { row := journalBacksUptoRow, standIns := [], harness := (true, "580e909e781237826d02cebc7391d9d082e481f02eb34b083762c3ae3926875f"), looks := false }, kinds := [], alts := [], laidByText := true, laidKinds := [.data], laidTests := true, laidLooks := .later }
def JournalBacksUptoCardSaid : Prop := Claim7.holds Tryd.pinned (.plain (OpenSpec.upto journalBacksSpec)) journalBacksUptoCard

/-- THE SECOND FORM's CARD OF 'milepostlaw09.JournalCut'. -/
def journalCutUptoCard : Claim7 := { stood := { row := journalCutUptoRow, standIns := [], harness := (true, "580e909e781237826d02cebc7391d9d082e481f02eb34b083762c3ae3926875f"), looks := false }, kinds := [], alts := [], laidByText := true, laidKinds := [.data], laidTests := true, laidLooks := .later }
def JournalCutUptoCardSaid : Prop := Claim7.holds Tryd.pinned (.plain (OpenSpec.upto journalCutSpec)) journalCutUptoCard

/-- THE SECOND FORM's CARD OF 'milepostlaw09.JournalMoves'. -/
def journalMovesUptoCard : Claim7 := { stood := { row := journalMovesUptoRow, standIns := [], harness := (true, "580e909e781237826d02cebc7391d9d082e481f02eb34b083762c3ae3926875f"), looks := false }, kinds := [], alts := [], laidByText := true, laidKinds := [.data], laidTests := true, laidLooks := .later }
def JournalMovesUptoCardSaid : Prop := Claim7.holds Tryd.pinned (.plain (OpenSpec.upto journalMovesSpec)) journalMovesUptoCard
end Rows
end Go.Proofs.YtiohijkelagloaaDoor
