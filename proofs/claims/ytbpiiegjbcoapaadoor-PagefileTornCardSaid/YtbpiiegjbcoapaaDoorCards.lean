/-
  DERIVED. GIVEN WITH THE SEED: THE CARDS: each row of YtbpiiegjbcoapaaDoorRows.lean that lists a variable, with what it lists TIED to the program's text (the seventh form; the later family's looks); each row that meets fmt, with fmt's text TOLD by the authors' own Lean function (tested against real Go, not proved from fmt's source: count such statements apart). THE CARD IS WHAT COUNTS. Prove the row's statement (the work); the ties are given (YtbpiiegjbcoapaaDoorTie.lean); close each card by the builder's one call (the guide's Derived/Test/ToyasCard.lean, 'card_holds'). Laid BY PROGRAM, IN A SANDBOX (cutbox-door.mjs). By AI agents, Wed Nov 11 2026. No macro, syntax, notation, axiom, sorry.
-/
import Derived.Test.YtbpiiegjbcoapaaDoorRows
import GoSem.ClaimSeven
namespace Go.Proofs.YtbpiiegjbcoapaaDoor
namespace Rows

/-- THE TIED CARD OF 'milepostlaw08.PagefileNil'. -/
def pagefileNilCard : Claim7 := { stood := { row := pagefileNilRow, standIns := [], harness := (true, "c2d85c8c8ba10f9560cfc76c77b274143254a200d13c5269f2e1140bae26ba3f"), looks := false }, kinds := [], alts := [], laidByText := true, laidKinds := [.data], laidTests := true, laidLooks := .later }
def PagefileNilCardSaid : Prop := Claim7.holds Tryd.pinned (.plain (OpenSpec.ofChange pagefileNilSpec)) pagefileNilCard

/-- THE TIED CARD OF 'milepostlaw08.PagefileBack'. -/
def pagefileBackCard : Claim7 := { stood := { row := pagefileBackRow, standIns := [], harness := (true, "c2d85c8c8ba10f9560cfc76c77b274143254a200d13c5269f2e1140bae26ba3f"), looks := false }, kinds := [], alts := [], laidByText := true, laidKinds := [.data], laidTests := true, laidLooks := .later }
def PagefileBackCardSaid : Prop := Claim7.holds Tryd.pinned (.plain (OpenSpec.ofChange pagefileBackSpec)) pagefileBackCard

/-- THE TIED CARD OF 'milepostlaw08.PagefileTells'. -/
def pagefileTellsCard : Claim7 := { stood := { row := pagefileTellsRow, standIns := [], harness := (true, "c2d85c8c8ba10f9560cfc76c77b274143254a200d13c5269f2e1140bae26ba3f"), looks := false }, kinds := [], alts := [], laidByText := true, laidKinds := [.data], laidTests := true, laidLooks := .later }
def PagefileTellsCardSaid : Prop := Claim7.holds Tryd.pinned (.plain (OpenSpec.ofChange pagefileTellsSpec)) pagefileTellsCard

/-- THE TIED CARD OF 'milepostlaw08.PagefileTorn'. -/
def pagefileTornCard : Claim7 := { stood := { row := pagefileTornRow, standIns := [], harness := (true, "c2d85c8c8ba10f9560cfc76c77b274143254a200d13c5269f2e1140bae26ba3f"), looks := false }, kinds := [], alts := [], laidByText := true, laidKinds := [.data], laidTests := true, laidLooks := .later }
def PagefileTornCardSaid : Prop := Claim7.holds Tryd.pinned (.plain (OpenSpec.ofChange pagefileTornSpec)) pagefileTornCard

/-- THE TIED CARD OF 'milepostlaw08.PagefileNumbers'. -/
def pagefileNumbersCard : Claim7 := { stood := { row := pagefileNumbersRow, standIns := [], harness := (true, "c2d85c8c8ba10f9560cfc76c77b274143254a200d13c5269f2e1140bae26ba3f"), looks := false }, kinds := [], alts := [], laidByText := true, laidKinds := [.data], laidTests := true, laidLooks := .later }
def PagefileNumbersCardSaid : Prop := Claim7.holds Tryd.pinned (.plain (OpenSpec.ofChange pagefileNumbersSpec)) pagefileNumbersCard

/-- THE TIED CARD OF 'milepostlaw08.PagefileGrows'. -/
def pagefileGrowsCard : Claim7 := { stood := { row := pagefileGrowsRow, standIns := [], harness := (true, "c2d85c8c8ba10f9560cfc76c77b274143254a200d13c5269f2e1140bae26ba3f"), looks := false }, kinds := [], alts := [], laidByText := true, laidKinds := [.data], laidTests := true, laidLooks := .later }
def PagefileGrowsCardSaid : Prop := Claim7.holds Tryd.pinned (.plain (OpenSpec.ofChange pagefileGrowsSpec)) pagefileGrowsCard

/-- THE SECOND FORM's CARD OF 'milepostlaw08.PagefileNil'. -/
def pagefileNilUptoCard : Claim7 := { stood := { row := pagefileNilUptoRow, standIns := [], harness := (true, "c2d85c8c8ba10f9560cfc76c77b274143254a200d13c5269f2e1140bae26ba3f"), looks := false }, kinds := [], alts := [], laidByText := true, laidKinds := [.data], laidTests := true, laidLooks := .later }
def PagefileNilUptoCardSaid : Prop := Claim7.holds Tryd.pinned (.plain (OpenSpec.upto pagefileNilSpec)) pagefileNilUptoCard

/-- THE SECOND FORM's CARD OF 'milepostlaw08.PagefileBack'. -/
def pagefileBackUptoCard : Claim7 := { stood := { row := pagefileBackUptoRow, standIns := [], harness := (true, "c2d85c8c8ba10f9560cfc76c77b274143254a200d13c5269f2e1140bae26ba3f"), looks := false }, kinds := [], alts := [], laidByText := true, laidKinds := [.data], laidTests := true, laidLooks := .later }
def PagefileBackUptoCardSaid : Prop := Claim7.holds Tryd.pinned (.plain (OpenSpec.upto pagefileBackSpec)) pagefileBackUptoCard

/-- THE SECOND FORM's CARD OF 'milepostlaw08.PagefileTells'. -/
def pagefileTellsUptoCard : Claim7 := { stood := { row := pagefileTellsUptoRow, standIns := [], harness := (true, "c2d85c8c8ba10f9560cfc76c77b274143254a200d13c5269f2e1140bae26ba3f"), looks := false }, kinds := [], alts := [], laidByText := true, laidKinds := [.data], laidTests := true, laidLooks := .later }
def PagefileTellsUptoCardSaid : Prop := Claim7.holds Tryd.pinned (.plain (OpenSpec.upto pagefileTellsSpec)) pagefileTellsUptoCard

/-- THE SECOND FORM's CARD OF 'milepostlaw08.PagefileTorn'. -/
def pagefileTornUptoCard : Claim7 := { stood := { row := pagefileTornUptoRow, standIns := [], harness := (true, "c2d85c8c8ba10f9560cfc76c77b274143254a200d13c5269f2e1140bae26ba3f"), looks := false }, kinds := [], alts := [], laidByText := true, laidKinds := [.data], laidTests := true, laidLooks := .later }
def PagefileTornUptoCardSaid : Prop := Claim7.holds Tryd.pinned (.plain (OpenSpec.upto pagefileTornSpec)) pagefileTornUptoCard

/-- THE SECOND FORM's CARD OF 'milepostlaw08.PagefileNumbers'. -/
def pagefileNumbersUptoCard : Claim7 := { stood := { row := pagefileNumbersUptoRow, standIns := [], harness := (true, "c2d85c8c8ba10f9560cfc76c77b274143254a200d13c5269f2e1140bae26ba3f"), looks := false }, kinds := [], alts := [], laidByText := true, laidKinds := [.data], laidTests := true, laidLooks := .later }
def PagefileNumbersUptoCardSaid : Prop := Claim7.holds Tryd.pinned (.plain (OpenSpec.upto pagefileNumbersSpec)) pagefileNumbersUptoCard

/-- THE SECOND FORM's CARD OF 'milepostlaw08.PagefileGrows'. -/
def pagefileGrowsUptoCard : Claim7 := { stood := { row := pagefileGrowsUptoRow, standIns := [], harness := (true, "c2d85c8c8ba10f9560cfc76c77b274143254a200d13c5269f2e1140bae26ba3f"), looks := false }, kinds := [], alts := [], laidByText := true, laidKinds := [.data], laidTests := true, laidLooks := .later }
def PagefileGrowsUptoCardSaid : Prop := Claim7.holds Tryd.pinned (.plain (OpenSpec.upto pagefileGrowsSpec)) pagefileGrowsUptoCard
end Rows
end Go.Proofs.YtbpiiegjbcoapaaDoor
