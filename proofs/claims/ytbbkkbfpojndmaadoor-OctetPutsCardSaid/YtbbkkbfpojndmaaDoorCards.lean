/-
  DERIVED. GIVEN WITH THE SEED: THE CARDS: each row of YtbbkkbfpojndmaaDoorRows.lean that lists a variable, with what it lists TIED to the program's text (the seventh form; the later family's looks); each row that meets fmt, with fmt's text TOLD by the authors' own Lean function (tested against real Go, not proved from fmt's source: count such statements apart). THE CARD IS WHAT COUNTS. Prove the row's statement (the work); the ties are given (YtbbkkbfpojndmaaDoorTie.lean); close each card by the builder's one call (the guide's Derived/Test/ToyasCard.lean, 'card_holds'). Laid BY PROGRAM, IN A SANDBOX (cutbox-door.mjs). By AI agents, Wed Nov 11 2026. No macro, syntax, notation, axiom, sorry.
-/
import Derived.Test.YtbbkkbfpojndmaaDoorRows
import GoSem.ClaimSeven
namespace Go.Proofs.YtbbkkbfpojndmaaDoor
namespace Rows

/-- THE TIED CARD OF 'milepostlaw01.OctetGets'. -/
def octetGetsCard : Claim7 := { stood := { row := octetGetsRow, standIns := [], harness := (true, "79e42c6065375c7c8c6f631366019ae9cfd4b4f3124ee0d239ec5b0e33c85766"), looks := false }, kinds := [], alts := [], laidByText := true, laidKinds := [.data], laidTests := true, laidLooks := .later }
def OctetGetsCardSaid : Prop := Claim7.holds Tryd.pinned (.plain (OpenSpec.ofChange octetGetsSpec)) octetGetsCard

/-- THE TIED CARD OF 'milepostlaw01.OctetPuts'. -/
def octetPutsCard : Claim7 := { stood := { row := octetPutsRow, standIns := [], harness := (true, "79e42c6065375c7c8c6f631366019ae9cfd4b4f3124ee0d239ec5b0e33c85766"), looks := false }, kinds := [], alts := [], laidByText := true, laidKinds := [.data], laidTests := true, laidLooks := .later }
def OctetPutsCardSaid : Prop := Claim7.holds Tryd.pinned (.plain (OpenSpec.ofChange octetPutsSpec)) octetPutsCard

/-- THE TIED CARD OF 'milepostlaw01.OctetWrites'. -/
def octetWritesCard : Claim7 := { stood := { row := octetWritesRow, standIns := [], harness := (true, "79e42c6065375c7c8c6f631366019ae9cfd4b4f3124ee0d239ec5b0e33c85766"), looks := false }, kinds := [], alts := [], laidByText := true, laidKinds := [.data], laidTests := true, laidLooks := .later }
def OctetWritesCardSaid : Prop := Claim7.holds Tryd.pinned (.plain (OpenSpec.ofChange octetWritesSpec)) octetWritesCard

/-- THE TIED CARD OF 'milepostlaw01.OctetReads'. -/
def octetReadsCard : Claim7 := { stood := { row := octetReadsRow, standIns := [], harness := (true, "79e42c6065375c7c8c6f631366019ae9cfd4b4f3124ee0d239ec5b0e33c85766"), looks := false }, kinds := [], alts := [], laidByText := true, laidKinds := [.data], laidTests := true, laidLooks := .later }
def OctetReadsCardSaid : Prop := Claim7.holds Tryd.pinned (.plain (OpenSpec.ofChange octetReadsSpec)) octetReadsCard

/-- THE TIED CARD OF 'milepostlaw01.OctetBack'. -/
def octetBackCard : Claim7 := { stood := { row := octetBackRow, standIns := [], harness := (true, "79e42c6065375c7c8c6f631366019ae9cfd4b4f3124ee0d239ec5b0e33c85766"), looks := false }, kinds := [], alts := [], laidByText := true, laidKinds := [.data], laidTests := true, laidLooks := .later }
def OctetBackCardSaid : Prop := Claim7.holds Tryd.pinned (.plain (OpenSpec.ofChange octetBackSpec)) octetBackCard

/-- THE TIED CARD OF 'milepostlaw01.OctetPlaces'. -/
def octetPlacesCard : Claim7 := { stood := { row := octetPlacesRow, standIns := [], harness := (true, "79e42c6065375c7c8c6f631366019ae9cfd4b4f3124ee0d239ec5b0e33c85766"), looks := false }, kinds := [], alts := [], laidByText := true, laidKinds := [.data], laidTests := true, laidLooks := .later }
def OctetPlacesCardSaid : Prop := Claim7.holds Tryd.pinned (.plain (OpenSpec.ofChange octetPlacesSpec)) octetPlacesCard

/-- THE TIED CARD OF 'milepostlaw01.OctetHalves'. -/
def octetHalvesCard : Claim7 := { stood := { row := octetHalvesRow, standIns := [], harness := (true, "79e42c6065375c7c8c6f631366019ae9cfd4b4f3124ee0d239ec5b0e33c85766"), looks := false }, kinds := [], alts := [], laidByText := true, laidKinds := [.data], laidTests := true, laidLooks := .later }
def OctetHalvesCardSaid : Prop := Claim7.holds Tryd.pinned (.plain (OpenSpec.ofChange octetHalvesSpec)) octetHalvesCard

/-- THE TIED CARD OF 'milepostlaw01.OctetCuts'. -/
def octetCutsCard : Claim7 := { stood := { row := octetCutsRow, standIns := [], harness := (true, "79e42c6065375c7c8c6f631366019ae9cfd4b4f3124ee0d239ec5b0e33c85766"), looks := false }, kinds := [], alts := [], laidByText := true, laidKinds := [.data], laidTests := true, laidLooks := .later }
def OctetCutsCardSaid : Prop := Claim7.holds Tryd.pinned (.plain (OpenSpec.ofChange octetCutsSpec)) octetCutsCard

/-- THE SECOND FORM's CARD OF 'milepostlaw01.OctetGets'. -/
def octetGetsUptoCard : Claim7 := { stood := { row := octetGetsUptoRow, standIns := [], harness := (true, "79e42c6065375c7c8c6f631366019ae9cfd4b4f3124ee0d239ec5b0e33c85766"), looks := false }, kinds := [], alts := [], laidByText := true, laidKinds := [.data], laidTests := true, laidLooks := .later }
def OctetGetsUptoCardSaid : Prop := Claim7.holds Tryd.pinned (.plain (OpenSpec.upto octetGetsSpec)) octetGetsUptoCard

/-- THE SECOND FORM's CARD OF 'milepostlaw01.OctetPuts'. -/
def octetPutsUptoCard : Claim7 := { stood := { row := octetPutsUptoRow, standIns := [], harness := (true, "79e42c6065375c7c8c6f631366019ae9cfd4b4f3124ee0d239ec5b0e33c85766"), looks := false }, kinds := [], alts := [], laidByText := true, laidKinds := [.data], laidTests := true, laidLooks := .later }
def OctetPutsUptoCardSaid : Prop := Claim7.holds Tryd.pinned (.plain (OpenSpec.upto octetPutsSpec)) octetPutsUptoCard

/-- THE SECOND FORM's CARD OF 'milepostlaw01.OctetWrites'. -/
def octetWritesUptoCard : Claim7 := { stood := { row := octetWritesUptoRow, standIns := [], harness := (true, "79e42c6065375c7c8c6f631366019ae9cfd4b4f3124ee0d239ec5b0e33c85766"), looks := false }, kinds := [], alts := [], laidByText := true, laidKinds := [.data], laidTests := true, laidLooks := .later }
def OctetWritesUptoCardSaid : Prop := Claim7.holds Tryd.pinned (.plain (OpenSpec.upto octetWritesSpec)) octetWritesUptoCard

/-- THE SECOND FORM's CARD OF 'milepostlaw01.OctetReads'. -/
def octetReadsUptoCard : Claim7 := { stood := { row := octetReadsUptoRow, standIns := [], harness := (true, "79e42c6065375c7c8c6f631366019ae9cfd4b4f3124ee0d239ec5b0e33c85766"), looks := false }, kinds := [], alts := [], laidByText := true, laidKinds := [.data], laidTests := true, laidLooks := .later }
def OctetReadsUptoCardSaid : Prop := Claim7.holds Tryd.pinned (.plain (OpenSpec.upto octetReadsSpec)) octetReadsUptoCard

/-- THE SECOND FORM's CARD OF 'milepostlaw01.OctetBack'. -/
def octetBackUptoCard : Claim7 := { stood := { row := octetBackUptoRow, standIns := [], harness := (true, "79e42c6065375c7c8c6f631366019ae9cfd4b4f3124ee0d239ec5b0e33c85766"), looks := false }, kinds := [], alts := [], laidByText := true, laidKinds := [.data], laidTests := true, laidLooks := .later }
def OctetBackUptoCardSaid : Prop := Claim7.holds Tryd.pinned (.plain (OpenSpec.upto octetBackSpec)) octetBackUptoCard

/-- THE SECOND FORM's CARD OF 'milepostlaw01.OctetPlaces'. -/
def octetPlacesUptoCard : Claim7 := { stood := { row := octetPlacesUptoRow, standIns := [], harness := (true, "79e42c6065375c7c8c6f631366019ae9cfd4b4f3124ee0d239ec5b0e33c85766"), looks := false }, kinds := [], alts := [], laidByText := true, laidKinds := [.data], laidTests := true, laidLooks := .later }
def OctetPlacesUptoCardSaid : Prop := Claim7.holds Tryd.pinned (.plain (OpenSpec.upto octetPlacesSpec)) octetPlacesUptoCard

/-- THE SECOND FORM's CARD OF 'milepostlaw01.OctetHalves'. -/
def octetHalvesUptoCard : Claim7 := { stood := { row := octetHalvesUptoRow, standIns := [], harness := (true, "79e42c6065375c7c8c6f631366019ae9cfd4b4f3124ee0d239ec5b0e33c85766"), looks := false }, kinds := [], alts := [], laidByText := true, laidKinds := [.data], laidTests := true, laidLooks := .later }
def OctetHalvesUptoCardSaid : Prop := Claim7.holds Tryd.pinned (.plain (OpenSpec.upto octetHalvesSpec)) octetHalvesUptoCard

/-- THE SECOND FORM's CARD OF 'milepostlaw01.OctetCuts'. -/
def octetCutsUptoCard : Claim7 := { stood := { row := octetCutsUptoRow, standIns := [], harness := (true, "79e42c6065375c7c8c6f631366019ae9cfd4b4f3124ee0d239ec5b0e33c85766"), looks := false }, kinds := [], alts := [], laidByText := true, laidKinds := [.data], laidTests := true, laidLooks := .later }
def OctetCutsUptoCardSaid : Prop := Claim7.holds Tryd.pinned (.plain (OpenSpec.upto octetCutsSpec)) octetCutsUptoCard
end Rows
end Go.Proofs.YtbbkkbfpojndmaaDoor
