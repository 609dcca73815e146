/-
  DERIVED. GIVEN WITH THE SEED: THE CARDS: each row of YtjmkagakdhhigaaGreatDoorRows.lean that lists a variable, with what it lists TIED to the program's text (the seventh form; the later family's looks); each row that meets fmt, with fmt's text TOLD by the authors' own Lean function (tested against real Go, not proved from fmt's source: count such statements apart). THE CARD IS WHAT COUNTS. Prove the row's statement (the work); the ties are given (YtjmkagakdhhigaaGreatDoorTie.lean); close each card by the builder's one call (the guide's Derived/Test/ToyasCard.lean, 'card_holds'). Laid BY PROGRAM, IN A SANDBOX (cutbox-door.mjs). By AI agents, Wed Nov 11 2026. No macro, syntax, notation, axiom, sorry.
-/
import Derived.Test.YtjmkagakdhhigaaGreatDoorRows
import GoSem.ClaimSeven
namespace Go.Proofs.YtjmkagakdhhigaaGreatDoor
namespace Rows

/-- THE TIED CARD OF 'milepostlaw12.ExtsortOrder'. -/
def extsortOrderCard : Claim7 := { stood := { row := extsortOrderRow, standIns := [], harness := (true, "3d48ae3143c11d397c51f507d3ffc5b1b82a72406b48c0e61e96fd3ff3bee6ab"), looks := false }, kinds := [], alts := [], laidByText := true, laidKinds := [.data, .data, .data, .data], laidTests := true, laidLooks := .later }
def ExtsortOrderCardSaid : Prop := Claim7.holds Tryz.pinned (.plain (OpenSpec.ofChange extsortOrderSpec)) extsortOrderCard

/-- THE TIED CARD OF 'milepostlaw13.StoreMakes'. -/
def storeMakesCard : Claim7 := { stood := { row := storeMakesRow, standIns := [], harness := (true, "3d48ae3143c11d397c51f507d3ffc5b1b82a72406b48c0e61e96fd3ff3bee6ab"), looks := false }, kinds := [], alts := [], laidByText := true, laidKinds := [.data, .data, .data, .data], laidTests := true, laidLooks := .later }
def StoreMakesCardSaid : Prop := Claim7.holds Tryz.pinned (.plain (OpenSpec.ofChange storeMakesSpec)) storeMakesCard

/-- THE TIED CARD OF 'milepostlaw13.StoreAgrees'. -/
def storeAgreesCard : Claim7 := { stood := { row := storeAgreesRow, standIns := [], harness := (true, "3d48ae3143c11d397c51f507d3ffc5b1b82a72406b48c0e61e96fd3ff3bee6ab"), looks := false }, kinds := [], alts := [], laidByText := true, laidKinds := [.data, .data, .data, .data], laidTests := true, laidLooks := .later }
def StoreAgreesCardSaid : Prop := Claim7.holds Tryz.pinned (.plain (OpenSpec.ofChange storeAgreesSpec)) storeAgreesCard

/-- THE TIED CARD OF 'milepostlaw13.StoreNil'. -/
def storeNilCard : Claim7 := { stood := { row := storeNilRow, standIns := [], harness := (true, "3d48ae3143c11d397c51f507d3ffc5b1b82a72406b48c0e61e96fd3ff3bee6ab"), looks := false }, kinds := [], alts := [], laidByText := true, laidKinds := [.data, .data, .data, .data], laidTests := true, laidLooks := .later }
def StoreNilCardSaid : Prop := Claim7.holds Tryz.pinned (.plain (OpenSpec.ofChange storeNilSpec)) storeNilCard

/-- THE TIED CARD OF 'milepostlaw13.StoreApart'. -/
def storeApartCard : Claim7 := { stood := { row := storeApartRow, standIns := [], harness := (true, "3d48ae3143c11d397c51f507d3ffc5b1b82a72406b48c0e61e96fd3ff3bee6ab"), looks := false }, kinds := [], alts := [], laidByText := true, laidKinds := [.data, .data, .data, .data], laidTests := true, laidLooks := .later }
def StoreApartCardSaid : Prop := Claim7.holds Tryz.pinned (.plain (OpenSpec.ofChange storeApartSpec)) storeApartCard

/-- THE TIED CARD OF 'milepostlaw13.StoreVerts'. -/
def storeVertsCard : Claim7 := { stood := { row := storeVertsRow, standIns := [], harness := (true, "3d48ae3143c11d397c51f507d3ffc5b1b82a72406b48c0e61e96fd3ff3bee6ab"), looks := false }, kinds := [], alts := [], laidByText := true, laidKinds := [.data, .data, .data, .data], laidTests := true, laidLooks := .later }
def StoreVertsCardSaid : Prop := Claim7.holds Tryz.pinned (.plain (OpenSpec.ofChange storeVertsSpec)) storeVertsCard

/-- THE SECOND FORM's CARD OF 'milepostlaw12.ExtsortOrder'. -/
def extsortOrderUptoCard : Claim7 := { stood := { row := extsortOrderUptoRow, standIns := [], harness := (true, "3d48ae3143c11d397c51f507d3ffc5b1b82a72406b48c0e61e96fd3ff3bee6ab"), looks := false }, kinds := [], alts := [], laidByText := true, laidKinds := [.data, .data, .data, .data], laidTests := true, laidLooks := .later }
def ExtsortOrderUptoCardSaid : Prop := Claim7.holds Tryz.pinned (.plain (OpenSpec.upto extsortOrderSpec)) extsortOrderUptoCard

/-- THE SECOND FORM's CARD OF 'milepostlaw13.StoreMakes'. -/
def storeMakesUptoCard : Claim7 := { stood := { row := storeMakesUptoRow, standIns := [], harness := (true, "3d48ae3143c11d397c51f507d3ffc5b1b82a72406b48c0e61e96fd3ff3bee6ab"), looks := false }, kinds := [], alts := [], laidByText := true, laidKinds := [.data, .data, .data, .data], laidTests := true, laidLooks := .later }
def StoreMakesUptoCardSaid : Prop := Claim7.holds Tryz.pinned (.plain (OpenSpec.upto storeMakesSpec)) storeMakesUptoCard

/-- THE SECOND FORM's CARD OF 'milepostlaw13.StoreAgrees'. -/
def storeAgreesUptoCard : Claim7 := { stood := { row := storeAgreesUptoRow, standIns := [], harness := (true, "3d48ae3143c11d397c51f507d3ffc5b1b82a72406b48c0e61e96fd3ff3bee6ab"), looks := false }, kinds := [], alts := [], laidByText := true, laidKinds := [.data, .data, .data, .data], laidTests := true, laidLooks := .later }
def StoreAgreesUptoCardSaid : Prop := Claim7.holds Tryz.pinned (.plain (OpenSpec.upto storeAgreesSpec)) storeAgreesUptoCard

/-- THE SECOND FORM's CARD OF 'milepostlaw13.StoreNil'. -/
def storeNilUptoCard : Claim7 := { stood := { row := storeNilUptoRow, standIns := [], harness := (true, "3d48ae3143c11d397c51f507d3ffc5b1b82a72406b48c0e61e96fd3ff3bee6ab"), looks := false }, kinds := [], alts := [], laidByText := true, laidKinds := [.data, .data, .data, .data], laidTests := true, laidLooks := .later }
def StoreNilUptoCardSaid : Prop := Claim7.holds Tryz.pinned (.plain (OpenSpec.upto storeNilSpec)) storeNilUptoCard

/-- THE SECOND FORM's CARD OF 'milepostlaw13.StoreApart'. -/
def storeApartUptoCard : Claim7 := { stood := { row := storeApartUptoRow, standIns := [], harness := (true, "3d48ae3143c11d397c51f507d3ffc5b1b82a72406b48c0e61e96fd3ff3bee6ab"), looks := false }, kinds := [], alts := [], laidByText := true, laidKinds := [.data, .data, .data, .data], laidTests := true, laidLooks := .later }
def StoreApartUptoCardSaid : Prop := Claim7.holds Tryz.pinned (.plain (OpenSpec.upto storeApartSpec)) storeApartUptoCard

/-- THE SECOND FORM's CARD OF 'milepostlaw13.StoreVerts'. -/
def storeVertsUptoCard : Claim7 := { stood := { row := storeVertsUptoRow, standIns := [], harness := (true, "3d48ae3143c11d397c51f507d3ffc5b1b82a72406b48c0e61e96fd3ff3bee6ab"), looks := false }, kinds := [], alts := [], laidByText := true, laidKinds := [.data, .data, .data, .data], laidTests := true, laidLooks := .later }
def StoreVertsUptoCardSaid : Prop := Claim7.holds Tryz.pinned (.plain (OpenSpec.upto storeVertsSpec)) storeVertsUptoCard
end Rows
end Go.Proofs.YtjmkagakdhhigaaGreatDoor
