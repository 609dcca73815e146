/-
  DERIVED. GIVEN WITH THE SEED: THE CARDS: each row of YtmholhjdpkfleaaDoorRows.lean that lists a variable, with what it lists TIED to the program's text (the seventh form; the later family's looks); each row that meets fmt, with fmt's text TOLD by the authors' own Lean function (tested against real Go, not proved from fmt's source: count such statements apart). THE CARD IS WHAT COUNTS. Prove the row's statement (the work); the ties are given (YtmholhjdpkfleaaDoorTie.lean); close each card by the builder's one call (the guide's Derived/Test/ToyasCard.lean, 'card_holds'). Laid BY PROGRAM, IN A SANDBOX (cutbox-door.mjs). By AI agents, Wed Nov 11 2026. No macro, syntax, notation, axiom, sorry.
-/
import Derived.Test.YtmholhjdpkfleaaDoorRows
import GoSem.ClaimSeven
namespace Go.Proofs.YtmholhjdpkfleaaDoor
namespace Rows

/-- THE TIED CARD OF 'milepostlaw11.StreamBack'. -/
def streamBackCard : Claim7 := { stood := { row := streamBackRow, standIns := [], harness := (true, "505726f30403b26e1e083bcce418b46ae85dff385b18ddec96ac8f90684b2cde"), looks := false }, kinds := [], alts := [], laidByText := true, laidKinds := [.data], laidTests := true, laidLooks := .later }
def StreamBackCardSaid : Prop := Claim7.holds Tryd.pinned (.plain (OpenSpec.ofChange streamBackSpec)) streamBackCard

/-- THE TIED CARD OF 'milepostlaw11.StreamNil'. -/
def streamNilCard : Claim7 := { stood := { row := streamNilRow, standIns := [], harness := (true, "505726f30403b26e1e083bcce418b46ae85dff385b18ddec96ac8f90684b2cde"), looks := false }, kinds := [], alts := [], laidByText := true, laidKinds := [.data], laidTests := true, laidLooks := .later }
def StreamNilCardSaid : Prop := Claim7.holds Tryd.pinned (.plain (OpenSpec.ofChange streamNilSpec)) streamNilCard

/-- THE TIED CARD OF 'milepostlaw11.StreamShape'. -/
def streamShapeCard : Claim7 := { stood := { row := streamShapeRow, standIns := [], harness := (true, "505726f30403b26e1e083bcce418b46ae85dff385b18ddec96ac8f90684b2cde"), looks := false }, kinds := [], alts := [], laidByText := true, laidKinds := [.data], laidTests := true, laidLooks := .later }
def StreamShapeCardSaid : Prop := Claim7.holds Tryd.pinned (.plain (OpenSpec.ofChange streamShapeSpec)) streamShapeCard

/-- THE TIED CARD OF 'milepostlaw11.StreamLeaves'. -/
def streamLeavesCard : Claim7 := { stood := { row := streamLeavesRow, standIns := [], harness := (true, "505726f30403b26e1e083bcce418b46ae85dff385b18ddec96ac8f90684b2cde"), looks := false }, kinds := [], alts := [], laidByText := true, laidKinds := [.data], laidTests := true, laidLooks := .later }
def StreamLeavesCardSaid : Prop := Claim7.holds Tryd.pinned (.plain (OpenSpec.ofChange streamLeavesSpec)) streamLeavesCard

/-- THE SECOND FORM's CARD OF 'milepostlaw11.StreamBack'. -/
def streamBackUptoCard : Claim7 := { stood := { row := streamBackUptoRow, standIns := [], harness := (true, "505726f30403b26e1e083bcce418b46ae85dff385b18ddec96ac8f90684b2cde"), looks := false }, kinds := [], alts := [], laidByText := true, laidKinds := [.data], laidTests := true, laidLooks := .later }
def StreamBackUptoCardSaid : Prop := Claim7.holds Tryd.pinned (.plain (OpenSpec.upto streamBackSpec)) streamBackUptoCard

/-- THE SECOND FORM's CARD OF 'milepostlaw11.StreamNil'. -/
def streamNilUptoCard : Claim7 := { stood := { row := streamNilUptoRow, standIns := [], harness := (true, "505726f30403b26e1e083bcce418b46ae85dff385b18ddec96ac8f90684b2cde"), looks := false }, kinds := [], alts := [], laidByText := true, laidKinds := [.data], laidTests := true, laidLooks := .later }
def StreamNilUptoCardSaid : Prop := Claim7.holds Tryd.pinned (.plain (OpenSpec.upto streamNilSpec)) streamNilUptoCard

/-- THE SECOND FORM's CARD OF 'milepostlaw11.StreamShape'. -/
def streamShapeUptoCard : Claim7 := { stood := { row := streamShapeUptoRow, standIns := [], harness := (true, "505726f30403b26e1e083bcce418b46ae85dff385b18ddec96ac8f90684b2cde"), looks := false }, kinds := [], alts := [], laidByText := true, laidKinds := [.data], laidTests := true, laidLooks := .later }
def StreamShapeUptoCardSaid : Prop := Claim7.holds Tryd.pinned (.plain (OpenSpec.upto streamShapeSpec)) streamShapeUptoCard

/-- THE SECOND FORM's CARD OF 'milepostlaw11.StreamLeaves'. -/
def streamLeavesUptoCard : Claim7 := { stood := { row := streamLeavesUptoRow, standIns := [], harness := (true, "505726f30403b26e1e083bcce418b46ae85dff385b18ddec96ac8f90684b2cde"), looks := false }, kinds := [], alts := [], laidByText := true, laidKinds := [.data], laidTests := true, laidLooks := .later }
def StreamLeavesUptoCardSaid : Prop := Claim7.holds Tryd.pinned (.plain (OpenSpec.upto streamLeavesSpec)) streamLeavesUptoCard
end Rows
end Go.Proofs.YtmholhjdpkfleaaDoor
