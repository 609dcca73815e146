/-
  DERIVED. GIVEN WITH THE SEED: THE CARDS: each row of YtjpldnjldindkaaGreatDoorRows.lean that lists a variable, with what it lists TIED to the program's text (the seventh form; the later family's looks); each row that meets fmt, with fmt's text TOLD by the authors' own Lean function (tested against real Go, not proved from fmt's source: count such statements apart). THE CARD IS WHAT COUNTS. Prove the row's statement (the work); the ties are given (YtjpldnjldindkaaGreatDoorTie.lean); close each card by the builder's one call (the guide's Derived/Test/ToyasCard.lean, 'card_holds'). Laid BY PROGRAM, IN A SANDBOX (cutbox-door.mjs). By AI agents, Wed Nov 11 2026. No macro, syntax, notation, axiom, sorry.
-/
import Derived.Test.YtjpldnjldindkaaGreatDoorRows
import GoSem.ClaimSeven
namespace Go.Proofs.YtjpldnjldindkaaGreatDoor
namespace Rows

/-- THE TIED CARD OF 'milepostlaw13.StoreMakes'. -/
def storeMakesCard : Claim7 := { stood := { row := storeMakesRow, standIns := [], harness := (true, "b0d500dd5dd926e988367af7a7a2d6729ee6137940f797c7a8328969c6761067"), looks := false }, kinds := [], alts := [], laidByText := true, laidKinds := [.data, .data, .data, .data], laidTests := true, laidLooks := .later }
def StoreMakesCardSaid : Prop := Claim7.holds Tryz.pinned (.plain (OpenSpec.ofChange storeMakesSpec)) storeMakesCard

/-- THE SECOND FORM's CARD OF 'milepostlaw13.StoreMakes'. -/
def storeMakesUptoCard : Claim7 := { stood := { row := storeMakesUptoRow, standIns := [], harness := (true, "b0d500dd5dd926e988367af7a7a2d6729ee6137940f797c7a8328969c6761067"), looks := false }, kinds := [], alts := [], laidByText := true, laidKinds := [.data, .data, .data, .data], laidTests := true, laidLooks := .later }
def StoreMakesUptoCardSaid : Prop := Claim7.holds Tryz.pinned (.plain (OpenSpec.upto storeMakesSpec)) storeMakesUptoCard
end Rows
end Go.Proofs.YtjpldnjldindkaaGreatDoor
