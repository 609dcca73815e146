/-
  DERIVED. GIVEN WITH THE SEED: THE CARDS: each row of YthoklfbnmndclaaGreatDoorRows.lean that lists a variable, with what it lists TIED to the program's text (the seventh form; the later family's looks); each row that meets fmt, with fmt's text TOLD by the authors' own Lean function (tested against real Go, not proved from fmt's source: count such statements apart). THE CARD IS WHAT COUNTS. Prove the row's statement (the work); the ties are given (YthoklfbnmndclaaGreatDoorTie.lean); close each card by the builder's one call (the guide's Derived/Test/ToyasCard.lean, 'card_holds'). Laid BY PROGRAM, IN A SANDBOX (cutbox-door.mjs). By AI agents, Wed Nov 11 2026. No macro, syntax, notation, axiom, sorry.
-/
import Derived.Test.YthoklfbnmndclaaGreatDoorRows
import GoSem.ClaimSeven
namespace Go.Proofs.YthoklfbnmndclaaGreatDoor
namespace Rows

/-- THE TIED CARD OF 'milepostlaw12.ExtsortSorts'. -/
def extsortSortsCard : Claim7 := { stood := { row := extsortSortsRow, standIns := [], harness := (true, "714292a9fe9fcc1f9e4a0c1d8acd543e835383a6d58e10d6be8a139877ac90f2"), looks := false }, kinds := [], alts := [], laidByText := true, laidKinds := [.data, .data, .data, .data], laidTests := true, laidLooks := .later }
def ExtsortSortsCardSaid : Prop := Claim7.holds Tryz.pinned (.plain (OpenSpec.ofChange extsortSortsSpec)) extsortSortsCard

/-- THE TIED CARD OF 'milepostlaw12.ExtsortBudget'. -/
def extsortBudgetCard : Claim7 := { stood := { row := extsortBudgetRow, standIns := [], harness := (true, "714292a9fe9fcc1f9e4a0c1d8acd543e835383a6d58e10d6be8a139877ac90f2"), looks := false }, kinds := [], alts := [], laidByText := true, laidKinds := [.data, .data, .data, .data], laidTests := true, laidLooks := .later }
def ExtsortBudgetCardSaid : Prop := Claim7.holds Tryz.pinned (.plain (OpenSpec.ofChange extsortBudgetSpec)) extsortBudgetCard

/-- THE TIED CARD OF 'milepostlaw12.ExtsortOrder'. -/
def extsortOrderCard : Claim7 := { stood := { row := extsortOrderRow, standIns := [], harness := (true, "714292a9fe9fcc1f9e4a0c1d8acd543e835383a6d58e10d6be8a139877ac90f2"), looks := false }, kinds := [], alts := [], laidByText := true, laidKinds := [.data, .data, .data, .data], laidTests := true, laidLooks := .later }
def ExtsortOrderCardSaid : Prop := Claim7.holds Tryz.pinned (.plain (OpenSpec.ofChange extsortOrderSpec)) extsortOrderCard

/-- THE TIED CARD OF 'milepostlaw12.ExtsortFull'. -/
def extsortFullCard : Claim7 := { stood := { row := extsortFullRow, standIns := [], harness := (true, "714292a9fe9fcc1f9e4a0c1d8acd543e835383a6d58e10d6be8a139877ac90f2"), looks := false }, kinds := [], alts := [], laidByText := true, laidKinds := [.data, .data, .data, .data], laidTests := true, laidLooks := .later }
def ExtsortFullCardSaid : Prop := Claim7.holds Tryz.pinned (.plain (OpenSpec.ofChange extsortFullSpec)) extsortFullCard

/-- THE TIED CARD OF 'milepostlaw12.ExtsortRefuses'. -/
def extsortRefusesCard : Claim7 := { stood := { row := extsortRefusesRow, standIns := [], harness := (true, "714292a9fe9fcc1f9e4a0c1d8acd543e835383a6d58e10d6be8a139877ac90f2"), looks := false }, kinds := [], alts := [], laidByText := true, laidKinds := [.data, .data, .data, .data], laidTests := true, laidLooks := .later }
def ExtsortRefusesCardSaid : Prop := Claim7.holds Tryz.pinned (.plain (OpenSpec.ofChange extsortRefusesSpec)) extsortRefusesCard

/-- THE TIED CARD OF 'milepostlaw12.ExtsortTwice'. -/
def extsortTwiceCard : Claim7 := { stood := { row := extsortTwiceRow, standIns := [], harness := (true, "714292a9fe9fcc1f9e4a0c1d8acd543e835383a6d58e10d6be8a139877ac90f2"), looks := false }, kinds := [], alts := [], laidByText := true, laidKinds := [.data, .data, .data, .data], laidTests := true, laidLooks := .later }
def ExtsortTwiceCardSaid : Prop := Claim7.holds Tryz.pinned (.plain (OpenSpec.ofChange extsortTwiceSpec)) extsortTwiceCard

/-- THE TIED CARD OF 'milepostlaw12.ExtsortMixed'. -/
def extsortMixedCard : Claim7 := { stood := { row := extsortMixedRow, standIns := [], harness := (true, "714292a9fe9fcc1f9e4a0c1d8acd543e835383a6d58e10d6be8a139877ac90f2"), looks := false }, kinds := [], alts := [], laidByText := true, laidKinds := [.data, .data, .data, .data], laidTests := true, laidLooks := .later }
def ExtsortMixedCardSaid : Prop := Claim7.holds Tryz.pinned (.plain (OpenSpec.ofChange extsortMixedSpec)) extsortMixedCard

/-- THE SECOND FORM's CARD OF 'milepostlaw12.ExtsortSorts'. -/
def extsortSortsUptoCard : Claim7 := { stood := { row := extsortSortsUptoRow, standIns := [], harness := (true, "714292a9fe9fcc1f9e4a0c1d8acd543e835383a6d58e10d6be8a139877ac90f2"), looks := false }, kinds := [], alts := [], laidByText := true, laidKinds := [.data, .data, .data, .data], laidTests := true, laidLooks := .later }
def ExtsortSortsUptoCardSaid : Prop := Claim7.holds Tryz.pinned (.plain (OpenSpec.upto extsortSortsSpec)) extsortSortsUptoCard

/-- THE SECOND FORM's CARD OF 'milepostlaw12.ExtsortBudget'. -/
def extsortBudgetUptoCard : Claim7 := { stood := { row := extsortBudgetUptoRow, standIns := [], harness := (true, "714292a9fe9fcc1f9e4a0c1d8acd543e835383a6d58e10d6be8a139877ac90f2"), looks := false }, kinds := [], alts := [], laidByText := true, laidKinds := [.data, .data, .data, .data], laidTests := true, laidLooks := .later }
def ExtsortBudgetUptoCardSaid : Prop := Claim7.holds Tryz.pinned (.plain (OpenSpec.upto extsortBudgetSpec)) extsortBudgetUptoCard

/-- THE SECOND FORM's CARD OF 'milepostlaw12.ExtsortOrder'. -/
def extsortOrderUptoCard : Claim7 := { stood := { row := extsortOrderUptoRow, standIns := [], harness := (true, "714292a9fe9fcc1f9e4a0c1d8acd543e835383a6d58e10d6be8a139877ac90f2"), looks := false }, kinds := [], alts := [], laidByText := true, laidKinds := [.data, .data, .data, .data], laidTests := true, laidLooks := .later }
def ExtsortOrderUptoCardSaid : Prop := Claim7.holds Tryz.pinned (.plain (OpenSpec.upto extsortOrderSpec)) extsortOrderUptoCard

/-- THE SECOND FORM's CARD OF 'milepostlaw12.ExtsortFull'. -/
def extsortFullUptoCard : Claim7 := { stood := { row := extsortFullUptoRow, standIns := [], harness := (true, "714292a9fe9fcc1f9e4a0c1d8acd543e835383a6d58e10d6be8a139877ac90f2"), looks := false }, kinds := [], alts := [], laidByText := true, laidKinds := [.data, .data, .data, .data], laidTests := true, laidLooks := .later }
def ExtsortFullUptoCardSaid : Prop := Claim7.holds Tryz.pinned (.plain (OpenSpec.upto extsortFullSpec)) extsortFullUptoCard

/-- THE SECOND FORM's CARD OF 'milepostlaw12.ExtsortRefuses'. -/
def extsortRefusesUptoCard : Claim7 := { stood := { row := extsortRefusesUptoRow, standIns := [], harness := (true, "714292a9fe9fcc1f9e4a0c1d8acd543e835383a6d58e10d6be8a139877ac90f2"), looks := false }, kinds := [], alts := [], laidByText := true, laidKinds := [.data, .data, .data, .data], laidTests := true, laidLooks := .later }
def ExtsortRefusesUptoCardSaid : Prop := Claim7.holds Tryz.pinned (.plain (OpenSpec.upto extsortRefusesSpec)) extsortRefusesUptoCard

/-- THE SECOND FORM's CARD OF 'milepostlaw12.ExtsortTwice'. -/
def extsortTwiceUptoCard : Claim7 := { stood := { row := extsortTwiceUptoRow, standIns := [], harness := (true, "714292a9fe9fcc1f9e4a0c1d8acd543e835383a6d58e10d6be8a139877ac90f2"), looks := false }, kinds := [], alts := [], laidByText := true, laidKinds := [.data, .data, .data, .data], laidTests := true, laidLooks := .later }
def ExtsortTwiceUptoCardSaid : Prop := Claim7.holds Tryz.pinned (.plain (OpenSpec.upto extsortTwiceSpec)) extsortTwiceUptoCard

/-- THE SECOND FORM's CARD OF 'milepostlaw12.ExtsortMixed'. -/
def extsortMixedUptoCard : Claim7 := { stood := { row := extsortMixedUptoRow, standIns := [], harness := (true, "714292a9fe9fcc1f9e4a0c1d8acd543e835383a6d58e10d6be8a139877ac90f2"), looks := false }, kinds := [], alts := [], laidByText := true, laidKinds := [.data, .data, .data, .data], laidTests := true, laidLooks := .later }
def ExtsortMixedUptoCardSaid : Prop := Claim7.holds Tryz.pinned (.plain (OpenSpec.upto extsortMixedSpec)) extsortMixedUptoCard
end Rows
end Go.Proofs.YthoklfbnmndclaaGreatDoor
