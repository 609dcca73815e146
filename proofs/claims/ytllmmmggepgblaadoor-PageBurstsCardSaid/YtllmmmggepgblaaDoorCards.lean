/-
  DERIVED. GIVEN WITH THE SEED: THE CARDS: each row of YtllmmmggepgblaaDoorRows.lean that lists a variable, with what it lists TIED to the program's text (the seventh form; the later family's looks); each row that meets fmt, with fmt's text TOLD by the authors' own Lean function (tested against real Go, not proved from fmt's source: count such statements apart). THE CARD IS WHAT COUNTS. Prove the row's statement (the work); the ties are given (YtllmmmggepgblaaDoorTie.lean); close each card by the builder's one call (the guide's Derived/Test/ToyasCard.lean, 'card_holds'). Laid BY PROGRAM, IN A SANDBOX (cutbox-door.mjs). By AI agents, Wed Nov 11 2026. No macro, syntax, notation, axiom, sorry.
-/
import Derived.Test.YtllmmmggepgblaaDoorRows
import GoSem.ClaimSeven
namespace Go.Proofs.YtllmmmggepgblaaDoor
namespace Rows

/-- THE TIED CARD OF 'milepostlaw07.PageMakes'. -/
def pageMakesCard : Claim7 := { stood := { row := pageMakesRow, standIns := [], harness := (true, "b995103158a3ac81c5b7f2c54b22dadacb0db21ceb8c019cd9329e86d756896e"), looks := false }, kinds := [], alts := [], laidByText := true, laidKinds := [.data], laidTests := true, laidLooks := .later }
def PageMakesCardSaid : Prop := Claim7.holds Tryd.pinned (.plain (OpenSpec.ofChange pageMakesSpec)) pageMakesCard

/-- THE TIED CARD OF 'milepostlaw07.PageOpens'. -/
def pageOpensCard : Claim7 := { stood := { row := pageOpensRow, standIns := [], harness := (true, "b995103158a3ac81c5b7f2c54b22dadacb0db21ceb8c019cd9329e86d756896e"), looks := false }, kinds := [], alts := [], laidByText := true, laidKinds := [.data], laidTests := true, laidLooks := .later }
def PageOpensCardSaid : Prop := Claim7.holds Tryd.pinned (.plain (OpenSpec.ofChange pageOpensSpec)) pageOpensCard

/-- THE TIED CARD OF 'milepostlaw07.PageBack'. -/
def pageBackCard : Claim7 := { stood := { row := pageBackRow, standIns := [], harness := (true, "b995103158a3ac81c5b7f2c54b22dadacb0db21ceb8c019cd9329e86d756896e"), looks := false }, kinds := [], alts := [], laidByText := true, laidKinds := [.data], laidTests := true, laidLooks := .later }
def PageBackCardSaid : Prop := Claim7.holds Tryd.pinned (.plain (OpenSpec.ofChange pageBackSpec)) pageBackCard

/-- THE TIED CARD OF 'milepostlaw07.PageBursts'. -/
def pageBurstsCard : Claim7 := { stood := { row := pageBurstsRow, standIns := [], harness := (true, "b995103158a3ac81c5b7f2c54b22dadacb0db21ceb8c019cd9329e86d756896e"), looks := false }, kinds := [], alts := [], laidByText := true, laidKinds := [.data], laidTests := true, laidLooks := .later }
def PageBurstsCardSaid : Prop := Claim7.holds Tryd.pinned (.plain (OpenSpec.ofChange pageBurstsSpec)) pageBurstsCard

/-- THE TIED CARD OF 'milepostlaw07.PageSizes'. -/
def pageSizesCard : Claim7 := { stood := { row := pageSizesRow, standIns := [], harness := (true, "b995103158a3ac81c5b7f2c54b22dadacb0db21ceb8c019cd9329e86d756896e"), looks := false }, kinds := [], alts := [], laidByText := true, laidKinds := [.data], laidTests := true, laidLooks := .later }
def PageSizesCardSaid : Prop := Claim7.holds Tryd.pinned (.plain (OpenSpec.ofChange pageSizesSpec)) pageSizesCard

/-- THE TIED CARD OF 'milepostlaw07.PageCuts'. -/
def pageCutsCard : Claim7 := { stood := { row := pageCutsRow, standIns := [], harness := (true, "b995103158a3ac81c5b7f2c54b22dadacb0db21ceb8c019cd9329e86d756896e"), looks := false }, kinds := [], alts := [], laidByText := true, laidKinds := [.data], laidTests := true, laidLooks := .later }
def PageCutsCardSaid : Prop := Claim7.holds Tryd.pinned (.plain (OpenSpec.ofChange pageCutsSpec)) pageCutsCard

/-- THE TIED CARD OF 'milepostlaw07.PageFills'. -/
def pageFillsCard : Claim7 := { stood := { row := pageFillsRow, standIns := [], harness := (true, "b995103158a3ac81c5b7f2c54b22dadacb0db21ceb8c019cd9329e86d756896e"), looks := false }, kinds := [], alts := [], laidByText := true, laidKinds := [.data], laidTests := true, laidLooks := .later }
def PageFillsCardSaid : Prop := Claim7.holds Tryd.pinned (.plain (OpenSpec.ofChange pageFillsSpec)) pageFillsCard

/-- THE SECOND FORM's CARD OF 'milepostlaw07.PageMakes'. -/
def pageMakesUptoCard : Claim7 := { stood := { row := pageMakesUptoRow, standIns := [], harness := (true, "b995103158a3ac81c5b7f2c54b22dadacb0db21ceb8c019cd9329e86d756896e"), looks := false }, kinds := [], alts := [], laidByText := true, laidKinds := [.data], laidTests := true, laidLooks := .later }
def PageMakesUptoCardSaid : Prop := Claim7.holds Tryd.pinned (.plain (OpenSpec.upto pageMakesSpec)) pageMakesUptoCard

/-- THE SECOND FORM's CARD OF 'milepostlaw07.PageOpens'. -/
def pageOpensUptoCard : Claim7 := { stood := { row := pageOpensUptoRow, standIns := [], harness := (true, "b995103158a3ac81c5b7f2c54b22dadacb0db21ceb8c019cd9329e86d756896e"), looks := false }, kinds := [], alts := [], laidByText := true, laidKinds := [.data], laidTests := true, laidLooks := .later }
def PageOpensUptoCardSaid : Prop := Claim7.holds Tryd.pinned (.plain (OpenSpec.upto pageOpensSpec)) pageOpensUptoCard

/-- THE SECOND FORM's CARD OF 'milepostlaw07.PageBack'. -/
def pageBackUptoCard : Claim7 := { stood := { row := pageBackUptoRow, standIns := [], harness := (true, "b995103158a3ac81c5b7f2c54b22dadacb0db21ceb8c019cd9329e86d756896e"), looks := false }, kinds := [], alts := [], laidByText := true, laidKinds := [.data], laidTests := true, laidLooks := .later }
def PageBackUptoCardSaid : Prop := Claim7.holds Tryd.pinned (.plain (OpenSpec.upto pageBackSpec)) pageBackUptoCard

/-- THE SECOND FORM's CARD OF 'milepostlaw07.PageBursts'. -/
def pageBurstsUptoCard : Claim7 := { stood := { row := pageBurstsUptoRow, standIns := [], harness := (true, "b995103158a3ac81c5b7f2c54b22dadacb0db21ceb8c019cd9329e86d756896e"), looks := false }, kinds := [], alts := [], laidByText := true, laidKinds := [.data], laidTests := true, laidLooks := .later }
def PageBurstsUptoCardSaid : Prop := Claim7.holds Tryd.pinned (.plain (OpenSpec.upto pageBurstsSpec)) pageBurstsUptoCard

/-- THE SECOND FORM's CARD OF 'milepostlaw07.PageSizes'. -/
def pageSizesUptoCard : Claim7 := { stood := { row := pageSizesUptoRow, standIns := [], harness := (true, "b995103158a3ac81c5b7f2c54b22dadacb0db21ceb8c019cd9329e86d756896e"), looks := false }, kinds := [], alts := [], laidByText := true, laidKinds := [.data], laidTests := true, laidLooks := .later }
def PageSizesUptoCardSaid : Prop := Claim7.holds Tryd.pinned (.plain (OpenSpec.upto pageSizesSpec)) pageSizesUptoCard

/-- THE SECOND FORM's CARD OF 'milepostlaw07.PageCuts'. -/
def pageCutsUptoCard : Claim7 := { stood := { row := pageCutsUptoRow, standIns := [], harness := (true, "b995103158a3ac81c5b7f2c54b22dadacb0db21ceb8c019cd9329e86d756896e"), looks := false }, kinds := [], alts := [], laidByText := true, laidKinds := [.data], laidTests := true, laidLooks := .later }
def PageCutsUptoCardSaid : Prop := Claim7.holds Tryd.pinned (.plain (OpenSpec.upto pageCutsSpec)) pageCutsUptoCard

/-- THE SECOND FORM's CARD OF 'milepostlaw07.PageFills'. -/
def pageFillsUptoCard : Claim7 := { stood := { row := pageFillsUptoRow, standIns := [], harness := (true, "b995103158a3ac81c5b7f2c54b22dadacb0db21ceb8c019cd9329e86d756896e"), looks := false }, kinds := [], alts := [], laidByText := true, laidKinds := [.data], laidTests := true, laidLooks := .later }
def PageFillsUptoCardSaid : Prop := Claim7.holds Tryd.pinned (.plain (OpenSpec.upto pageFillsSpec)) pageFillsUptoCard
end Rows
end Go.Proofs.YtllmmmggepgblaaDoor
