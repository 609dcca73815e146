/-
  DERIVED. GIVEN WITH THE SEED: THE CARDS: each row of YtamboappeahgpaaGreatDoorRows.lean that lists a variable, with what it lists TIED to the program's text (the seventh form; the later family's looks); each row that meets fmt, with fmt's text TOLD by the authors' own Lean function (tested against real Go, not proved from fmt's source: count such statements apart). THE CARD IS WHAT COUNTS. Prove the row's statement (the work); the ties are given (YtamboappeahgpaaGreatDoorTie.lean); close each card by the builder's one call (the guide's Derived/Test/ToyasCard.lean, 'card_holds'). Laid BY PROGRAM, IN A SANDBOX (cutbox-door.mjs). By AI agents, Wed Nov 11 2026. No macro, syntax, notation, axiom, sorry.
-/
import Derived.Test.YtamboappeahgpaaGreatDoorRows
import GoSem.ClaimSeven
namespace Go.Proofs.YtamboappeahgpaaGreatDoor
namespace Rows

/-- THE TIED CARD OF 'milepostlaw08.PagefilePlays'. -/
def pagefilePlaysCard : Claim7 := { stood := { row := pagefilePlaysRow, standIns := [], harness := (true, "8443b36b76a95278f24d877d10538b7456d31a81e2d1da807fa7239add16df97"), looks := false }, kinds := [], alts := [], laidByText := true, laidKinds := [.data], laidTests := true, laidLooks := .later }
def PagefilePlaysCardSaid : Prop := Claim7.holds Tryz.pinned (.plain (OpenSpec.ofChange pagefilePlaysSpec)) pagefilePlaysCard

/-- THE TIED CARD OF 'milepostlaw10.PoolNil'. -/
def poolNilCard : Claim7 := { stood := { row := poolNilRow, standIns := [], harness := (true, "8443b36b76a95278f24d877d10538b7456d31a81e2d1da807fa7239add16df97"), looks := false }, kinds := [], alts := [], laidByText := true, laidKinds := [.data], laidTests := true, laidLooks := .later }
def PoolNilCardSaid : Prop := Claim7.holds Tryz.pinned (.plain (OpenSpec.ofChange poolNilSpec)) poolNilCard

/-- THE TIED CARD OF 'milepostlaw10.PoolBudget'. -/
def poolBudgetCard : Claim7 := { stood := { row := poolBudgetRow, standIns := [], harness := (true, "8443b36b76a95278f24d877d10538b7456d31a81e2d1da807fa7239add16df97"), looks := false }, kinds := [], alts := [], laidByText := true, laidKinds := [.data], laidTests := true, laidLooks := .later }
def PoolBudgetCardSaid : Prop := Claim7.holds Tryz.pinned (.plain (OpenSpec.ofChange poolBudgetSpec)) poolBudgetCard

/-- THE TIED CARD OF 'milepostlaw10.PoolBack'. -/
def poolBackCard : Claim7 := { stood := { row := poolBackRow, standIns := [], harness := (true, "8443b36b76a95278f24d877d10538b7456d31a81e2d1da807fa7239add16df97"), looks := false }, kinds := [], alts := [], laidByText := true, laidKinds := [.data], laidTests := true, laidLooks := .later }
def PoolBackCardSaid : Prop := Claim7.holds Tryz.pinned (.plain (OpenSpec.ofChange poolBackSpec)) poolBackCard

/-- THE TIED CARD OF 'milepostlaw10.PoolHolds'. -/
def poolHoldsCard : Claim7 := { stood := { row := poolHoldsRow, standIns := [], harness := (true, "8443b36b76a95278f24d877d10538b7456d31a81e2d1da807fa7239add16df97"), looks := false }, kinds := [], alts := [], laidByText := true, laidKinds := [.data], laidTests := true, laidLooks := .later }
def PoolHoldsCardSaid : Prop := Claim7.holds Tryz.pinned (.plain (OpenSpec.ofChange poolHoldsSpec)) poolHoldsCard

/-- THE TIED CARD OF 'milepostlaw10.PoolFlushes'. -/
def poolFlushesCard : Claim7 := { stood := { row := poolFlushesRow, standIns := [], harness := (true, "8443b36b76a95278f24d877d10538b7456d31a81e2d1da807fa7239add16df97"), looks := false }, kinds := [], alts := [], laidByText := true, laidKinds := [.data], laidTests := true, laidLooks := .later }
def PoolFlushesCardSaid : Prop := Claim7.holds Tryz.pinned (.plain (OpenSpec.ofChange poolFlushesSpec)) poolFlushesCard

/-- THE SECOND FORM's CARD OF 'milepostlaw08.PagefilePlays'. -/
def pagefilePlaysUptoCard : Claim7 := { stood := { row := pagefilePlaysUptoRow, standIns := [], harness := (true, "8443b36b76a95278f24d877d10538b7456d31a81e2d1da807fa7239add16df97"), looks := false }, kinds := [], alts := [], laidByText := true, laidKinds := [.data], laidTests := true, laidLooks := .later }
def PagefilePlaysUptoCardSaid : Prop := Claim7.holds Tryz.pinned (.plain (OpenSpec.upto pagefilePlaysSpec)) pagefilePlaysUptoCard

/-- THE SECOND FORM's CARD OF 'milepostlaw10.PoolNil'. -/
def poolNilUptoCard : Claim7 := { stood := { row := poolNilUptoRow, standIns := [], harness := (true, "8443b36b76a95278f24d877d10538b7456d31a81e2d1da807fa7239add16df97"), looks := false }, kinds := [], alts := [], laidByText := true, laidKinds := [.data], laidTests := true, laidLooks := .later }
def PoolNilUptoCardSaid : Prop := Claim7.holds Tryz.pinned (.plain (OpenSpec.upto poolNilSpec)) poolNilUptoCard

/-- THE SECOND FORM's CARD OF 'milepostlaw10.PoolBudget'. -/
def poolBudgetUptoCard : Claim7 := { stood := { row := poolBudgetUptoRow, standIns := [], harness := (true, "8443b36b76a95278f24d877d10538b7456d31a81e2d1da807fa7239add16df97"), looks := false }, kinds := [], alts := [], laidByText := true, laidKinds := [.data], laidTests := true, laidLooks := .later }
def PoolBudgetUptoCardSaid : Prop := Claim7.holds Tryz.pinned (.plain (OpenSpec.upto poolBudgetSpec)) poolBudgetUptoCard

/-- THE SECOND FORM's CARD OF 'milepostlaw10.PoolBack'. -/
def poolBackUptoCard : Claim7 := { stood := { row := poolBackUptoRow, standIns := [], harness := (true, "8443b36b76a95278f24d877d10538b7456d31a81e2d1da807fa7239add16df97"), looks := false }, kinds := [], alts := [], laidByText := true, laidKinds := [.data], laidTests := true, laidLooks := .later }
def PoolBackUptoCardSaid : Prop := Claim7.holds Tryz.pinned (.plain (OpenSpec.upto poolBackSpec)) poolBackUptoCard

/-- THE SECOND FORM's CARD OF 'milepostlaw10.PoolHolds'. -/
def poolHoldsUptoCard : Claim7 := { stood := { row := poolHoldsUptoRow, standIns := [], harness := (true, "8443b36b76a95278f24d877d10538b7456d31a81e2d1da807fa7239add16df97"), looks := false }, kinds := [], alts := [], laidByText := true, laidKinds := [.data], laidTests := true, laidLooks := .later }
def PoolHoldsUptoCardSaid : Prop := Claim7.holds Tryz.pinned (.plain (OpenSpec.upto poolHoldsSpec)) poolHoldsUptoCard

/-- THE SECOND FORM's CARD OF 'milepostlaw10.PoolFlushes'. -/
def poolFlushesUptoCard : Claim7 := { stood := { row := poolFlushesUptoRow, standIns := [], harness := (true, "8443b36b76a95278f24d877d10538b7456d31a81e2d1da807fa7239add16df97"), looks := false }, kinds := [], alts := [], laidByText := true, laidKinds := [.data], laidTests := true, laidLooks := .later }
def PoolFlushesUptoCardSaid : Prop := Claim7.holds Tryz.pinned (.plain (OpenSpec.upto poolFlushesSpec)) poolFlushesUptoCard
end Rows
end Go.Proofs.YtamboappeahgpaaGreatDoor
