/-
  DERIVED. GIVEN WITH THE SEED: THE CARDS: each row of YtamboappeahgpaaDoorRows.lean that lists a variable, with what it lists TIED to the program's text (the seventh form; the later family's looks); each row that meets fmt, with fmt's text TOLD by the authors' own Lean function (tested against real Go, not proved from fmt's source: count such statements apart). THE CARD IS WHAT COUNTS. Prove the row's statement (the work); the ties are given (YtamboappeahgpaaDoorTie.lean); close each card by the builder's one call (the guide's Derived/Test/ToyasCard.lean, 'card_holds'). Laid BY PROGRAM, IN A SANDBOX (cutbox-door.mjs). By AI agents, Wed Nov 11 2026. No macro, syntax, notation, axiom, sorry.
-/
import Derived.Test.YtamboappeahgpaaDoorRows
import GoSem.ClaimSeven
namespace Go.Proofs.YtamboappeahgpaaDoor
namespace Rows

/-- THE TIED CARD OF 'milepostlaw10.PoolPins'. -/
def poolPinsCard : Claim7 := { stood := { row := poolPinsRow, standIns := [], harness := (true, "472c86721f00a29955a76e22c6188f0c82788171af418736f78647dd4502253e"), looks := false }, kinds := [], alts := [], laidByText := true, laidKinds := [.data], laidTests := true, laidLooks := .later }
def PoolPinsCardSaid : Prop := Claim7.holds Tryd.pinned (.plain (OpenSpec.ofChange poolPinsSpec)) poolPinsCard

/-- THE SECOND FORM's CARD OF 'milepostlaw10.PoolPins'. -/
def poolPinsUptoCard : Claim7 := { stood := { row := poolPinsUptoRow, standIns := [], harness := (true, "472c86721f00a29955a76e22c6188f0c82788171af418736f78647dd4502253e"), looks := false }, kinds := [], alts := [], laidByText := true, laidKinds := [.data], laidTests := true, laidLooks := .later }
def PoolPinsUptoCardSaid : Prop := Claim7.holds Tryd.pinned (.plain (OpenSpec.upto poolPinsSpec)) poolPinsUptoCard
end Rows
end Go.Proofs.YtamboappeahgpaaDoor
