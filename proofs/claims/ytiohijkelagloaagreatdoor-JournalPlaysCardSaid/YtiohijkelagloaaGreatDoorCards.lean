/-
  DERIVED. GIVEN WITH THE SEED: THE CARDS: each row of YtiohijkelagloaaGreatDoorRows.lean that lists a variable, with what it lists TIED to the program's text (the seventh form; the later family's looks); each row that meets fmt, with fmt's text TOLD by the authors' own Lean function (tested against real Go, not proved from fmt's source: count such statements apart). THE CARD IS WHAT COUNTS. Prove the row's statement (the work); the ties are given (YtiohijkelagloaaGreatDoorTie.lean); close each card by the builder's one call (the guide's Derived/Test/ToyasCard.lean, 'card_holds'). Laid BY PROGRAM, IN A SANDBOX (cutbox-door.mjs). By AI agents, Wed Nov 11 2026. No macro, syntax, notation, axiom, sorry.
-/
import Derived.Test.YtiohijkelagloaaGreatDoorRows
import GoSem.ClaimSeven
namespace Go.Proofs.YtiohijkelagloaaGreatDoor
namespace Rows

/-- THE TIED CARD OF 'milepostlaw09.JournalPlays'. -/
def journalPlaysCard : Claim7 := { stood := { row := journalPlaysRow, standIns := [], harness := (true, "1e0d3b154378276e385a4e37cfa6c427e7c0efa1d7c3886f22d0a985bade467b"), looks := false }, kinds := [], alts := [], laidByText := true, laidKinds := [.data], laidTests := true, laidLooks := .later }
def JournalPlaysCardSaid : Prop := Claim7.holds Tryz.pinned (.plain (OpenSpec.ofChange journalPlaysSpec)) journalPlaysCard

/-- THE TIED CARD OF 'milepostlaw08.PagefilePlays'. -/
def pagefilePlaysCard : Claim7 := { stood := { row := pagefilePlaysRow, standIns := [], harness := (true, "1e0d3b154378276e385a4e37cfa6c427e7c0efa1d7c3886f22d0a985bade467b"), looks := false }, kinds := [], alts := [], laidByText := true, laidKinds := [.data], laidTests := true, laidLooks := .later }
def PagefilePlaysCardSaid : Prop := Claim7.holds Tryz.pinned (.plain (OpenSpec.ofChange pagefilePlaysSpec)) pagefilePlaysCard

/-- THE SECOND FORM's CARD OF 'milepostlaw09.JournalPlays'. -/
def journalPlaysUptoCard : Claim7 := { stood := { row := journalPlaysUptoRow, standIns := [], harness := (true, "1e0d3b154378276e385a4e37cfa6c427e7c0efa1d7c3886f22d0a985bade467b"), looks := false }, kinds := [], alts := [], laidByText := true, laidKinds := [.data], laidTests := true, laidLooks := .later }
def JournalPlaysUptoCardSaid : Prop := Claim7.holds Tryz.pinned (.plain (OpenSpec.upto journalPlaysSpec)) journalPlaysUptoCard

/-- THE SECOND FORM's CARD OF 'milepostlaw08.PagefilePlays'. -/
def pagefilePlaysUptoCard : Claim7 := { stood := { row := pagefilePlaysUptoRow, standIns := [], harness := (true, "1e0d3b154378276e385a4e37cfa6c427e7c0efa1d7c3886f22d0a985bade467b"), looks := false }, kinds := [], alts := [], laidByText := true, laidKinds := [.data], laidTests := true, laidLooks := .later }
def PagefilePlaysUptoCardSaid : Prop := Claim7.holds Tryz.pinned (.plain (OpenSpec.upto pagefilePlaysSpec)) pagefilePlaysUptoCard
end Rows
end Go.Proofs.YtiohijkelagloaaGreatDoor
