/-
  NARROWER THAN 'FOR EVERY INPUT', by the rows' own cells (each row's printed sentence says how): OctetGets: laid · OctetPuts: laid · OctetWrites: laid · OctetReads: laid · OctetBack: laid · OctetPlaces: laid · OctetHalves: laid · OctetCuts: laid.
  DERIVED. THE GIVEN ROWS OF THIS SEAT. 8 by the template 'for every input the law returns true; each argument reads behind the call as it read before'; 0 by the template 'total and deterministic' (their statements: YtbbkkbfpojndmaaDoorTotals.lean).
  GIVEN WITH THE SEED: the statements are not yours to turn. If you find one false, say at which input.
  Laid BY PROGRAM, IN A SANDBOX (cutbox-rows.mjs): the forced cells as the released guide's own fill.sh prints them over the translation 0ebbd273fe68cbe1… (all of the seat's roots in one cut). By AI agents, Wed Nov 11 2026. No macro, syntax, notation, axiom, sorry.
-/
import Derived.Test.YtbbkkbfpojndmaaDoorChecked
import GoSem.Claim
import GoSem.ClaimJoined
import GoSem.ClaimMapViews
import Derived.JoinedTies
import Derived.KernelRfl
namespace Go.Proofs.YtbbkkbfpojndmaaDoor
/- THE CELL 'sum', in the pinned program and in every row, IS THE sha256 OF THE DUMP (.gsa) THAT YtbbkkbfpojndmaaDoorProg.lean LOADS. Nothing in Lean hashes anything: it is a label: what it is worth is what the hold of that sum in a sandbox is worth. -/
noncomputable def Tryd.pinned : Pinned := { name := "ytbbkkbfpojndmaadoor", sum := "0ebbd273fe68cbe11b34770b30125124c5840144f4887e19fc40b81480e87e26", checked := Tryd.checked }
namespace Rows
def none {H : Type} : Left H := { results := [], args := [] }

/- WHAT THE LISTED PACKAGE-LEVEL VARIABLES READ AS WHEN THE CALL BEGINS. Each datum BY PROGRAM (the guide's laid-datum.mjs) off the statement by which the dump's own 'gosem.cut.vars' lays the variable. In a bare row this is a premise. The card (YtbbkkbfpojndmaaDoorCards.lean) ties it to the program's text. -/
def laid_milepost_octet_sizes {H : Type} : DataW H := .agg [.lit (.int .i64 1), .lit (.int .i64 2), .lit (.int .i64 4), .lit (.int .i64 8)]

/-- 'milepostlaw01.OctetGets': WHATEVER THE INPUT: true; the input reads as it did. -/
def octetGetsSpec : ChangeSpec := { name := "octetGets", fn := fun _ => fun
  | [d1, d2, d3] => { results := [.lit (.bool true)], args := [d1, d2, d3] }
  | _ => none }
def octetGetsRow : OpenClaim := { program := "ytbbkkbfpojndmaadoor", sum := "0ebbd273fe68cbe11b34770b30125124c5840144f4887e19fc40b81480e87e26", func := "milepost/milepostlaw01.OctetGets", spec := "octetGets", named := ["milepost/octet.sizes"], apart := false, laid := [("milepost/octet.sizes", laid_milepost_octet_sizes)] }
def OctetGetsSaid : Prop := octetGetsRow.holds Tryd.pinned (OpenSpec.ofChange octetGetsSpec)

/-- ITS FALSE NEIGHBOUR: 'it returns false'. Refute it at one input. -/
def octetGetsWrong : ChangeSpec := { name := "octetGets", fn := fun _ => fun
  | [d1, d2, d3] => { results := [.lit (.bool false)], args := [d1, d2, d3] }
  | _ => none }
def OctetGetsWrongFalsely : Prop := octetGetsRow.holds Tryd.pinned (OpenSpec.ofChange octetGetsWrong)

/-- 'milepostlaw01.OctetPuts': WHATEVER THE INPUT: true; the input reads as it did. -/
def octetPutsSpec : ChangeSpec := { name := "octetPuts", fn := fun _ => fun
  | [d1, d2, d3] => { results := [.lit (.bool true)], args := [d1, d2, d3] }
  | _ => none }
def octetPutsRow : OpenClaim := { program := "ytbbkkbfpojndmaadoor", sum := "0ebbd273fe68cbe11b34770b30125124c5840144f4887e19fc40b81480e87e26", func := "milepost/milepostlaw01.OctetPuts", spec := "octetPuts", named := ["milepost/octet.sizes"], apart := false, laid := [("milepost/octet.sizes", laid_milepost_octet_sizes)] }
def OctetPutsSaid : Prop := octetPutsRow.holds Tryd.pinned (OpenSpec.ofChange octetPutsSpec)

/-- ITS FALSE NEIGHBOUR: 'it returns false'. Refute it at one input. -/
def octetPutsWrong : ChangeSpec := { name := "octetPuts", fn := fun _ => fun
  | [d1, d2, d3] => { results := [.lit (.bool false)], args := [d1, d2, d3] }
  | _ => none }
def OctetPutsWrongFalsely : Prop := octetPutsRow.holds Tryd.pinned (OpenSpec.ofChange octetPutsWrong)

/-- 'milepostlaw01.OctetWrites': WHATEVER THE INPUT: true; the input reads as it did. -/
def octetWritesSpec : ChangeSpec := { name := "octetWrites", fn := fun _ => fun
  | [d] => { results := [.lit (.bool true)], args := [d] }
  | _ => none }
def octetWritesRow : OpenClaim := { program := "ytbbkkbfpojndmaadoor", sum := "0ebbd273fe68cbe11b34770b30125124c5840144f4887e19fc40b81480e87e26", func := "milepost/milepostlaw01.OctetWrites", spec := "octetWrites", named := ["milepost/octet.sizes"], apart := false, laid := [("milepost/octet.sizes", laid_milepost_octet_sizes)] }
def OctetWritesSaid : Prop := octetWritesRow.holds Tryd.pinned (OpenSpec.ofChange octetWritesSpec)

/-- ITS FALSE NEIGHBOUR: 'it returns false'. Refute it at one input. -/
def octetWritesWrong : ChangeSpec := { name := "octetWrites", fn := fun _ => fun
  | [d] => { results := [.lit (.bool false)], args := [d] }
  | _ => none }
def OctetWritesWrongFalsely : Prop := octetWritesRow.holds Tryd.pinned (OpenSpec.ofChange octetWritesWrong)

/-- 'milepostlaw01.OctetReads': WHATEVER THE INPUT: true; the input reads as it did. -/
def octetReadsSpec : ChangeSpec := { name := "octetReads", fn := fun _ => fun
  | [d] => { results := [.lit (.bool true)], args := [d] }
  | _ => none }
def octetReadsRow : OpenClaim := { program := "ytbbkkbfpojndmaadoor", sum := "0ebbd273fe68cbe11b34770b30125124c5840144f4887e19fc40b81480e87e26", func := "milepost/milepostlaw01.OctetReads", spec := "octetReads", named := ["milepost/octet.sizes"], apart := false, laid := [("milepost/octet.sizes", laid_milepost_octet_sizes)] }
def OctetReadsSaid : Prop := octetReadsRow.holds Tryd.pinned (OpenSpec.ofChange octetReadsSpec)

/-- ITS FALSE NEIGHBOUR: 'it returns false'. Refute it at one input. -/
def octetReadsWrong : ChangeSpec := { name := "octetReads", fn := fun _ => fun
  | [d] => { results := [.lit (.bool false)], args := [d] }
  | _ => none }
def OctetReadsWrongFalsely : Prop := octetReadsRow.holds Tryd.pinned (OpenSpec.ofChange octetReadsWrong)

/-- 'milepostlaw01.OctetBack': WHATEVER THE INPUT: true; the input reads as it did. -/
def octetBackSpec : ChangeSpec := { name := "octetBack", fn := fun _ => fun
  | [d1, d2, d3] => { results := [.lit (.bool true)], args := [d1, d2, d3] }
  | _ => none }
def octetBackRow : OpenClaim := { program := "ytbbkkbfpojndmaadoor", sum := "0ebbd273fe68cbe11b34770b30125124c5840144f4887e19fc40b81480e87e26", func := "milepost/milepostlaw01.OctetBack", spec := "octetBack", named := ["milepost/octet.sizes"], apart := false, laid := [("milepost/octet.sizes", laid_milepost_octet_sizes)] }
def OctetBackSaid : Prop := octetBackRow.holds Tryd.pinned (OpenSpec.ofChange octetBackSpec)

/-- ITS FALSE NEIGHBOUR: 'it returns false'. Refute it at one input. -/
def octetBackWrong : ChangeSpec := { name := "octetBack", fn := fun _ => fun
  | [d1, d2, d3] => { results := [.lit (.bool false)], args := [d1, d2, d3] }
  | _ => none }
def OctetBackWrongFalsely : Prop := octetBackRow.holds Tryd.pinned (OpenSpec.ofChange octetBackWrong)

/-- 'milepostlaw01.OctetPlaces': WHATEVER THE INPUT: true; the input reads as it did. -/
def octetPlacesSpec : ChangeSpec := { name := "octetPlaces", fn := fun _ => fun
  | [d] => { results := [.lit (.bool true)], args := [d] }
  | _ => none }
def octetPlacesRow : OpenClaim := { program := "ytbbkkbfpojndmaadoor", sum := "0ebbd273fe68cbe11b34770b30125124c5840144f4887e19fc40b81480e87e26", func := "milepost/milepostlaw01.OctetPlaces", spec := "octetPlaces", named := ["milepost/octet.sizes"], apart := false, laid := [("milepost/octet.sizes", laid_milepost_octet_sizes)] }
def OctetPlacesSaid : Prop := octetPlacesRow.holds Tryd.pinned (OpenSpec.ofChange octetPlacesSpec)

/-- ITS FALSE NEIGHBOUR: 'it returns false'. Refute it at one input. -/
def octetPlacesWrong : ChangeSpec := { name := "octetPlaces", fn := fun _ => fun
  | [d] => { results := [.lit (.bool false)], args := [d] }
  | _ => none }
def OctetPlacesWrongFalsely : Prop := octetPlacesRow.holds Tryd.pinned (OpenSpec.ofChange octetPlacesWrong)

/-- 'milepostlaw01.OctetHalves': WHATEVER THE INPUT: true; the input reads as it did. -/
def octetHalvesSpec : ChangeSpec := { name := "octetHalves", fn := fun _ => fun
  | [d1, d2] => { results := [.lit (.bool true)], args := [d1, d2] }
  | _ => none }
def octetHalvesRow : OpenClaim := { program := "ytbbkkbfpojndmaadoor", sum := "0ebbd273fe68cbe11b34770b30125124c5840144f4887e19fc40b81480e87e26", func := "milepost/milepostlaw01.OctetHalves", spec := "octetHalves", named := ["milepost/octet.sizes"], apart := false, laid := [("milepost/octet.sizes", laid_milepost_octet_sizes)] }
def OctetHalvesSaid : Prop := octetHalvesRow.holds Tryd.pinned (OpenSpec.ofChange octetHalvesSpec)

/-- ITS FALSE NEIGHBOUR: 'it returns false'. Refute it at one input. -/
def octetHalvesWrong : ChangeSpec := { name := "octetHalves", fn := fun _ => fun
  | [d1, d2] => { results := [.lit (.bool false)], args := [d1, d2] }
  | _ => none }
def OctetHalvesWrongFalsely : Prop := octetHalvesRow.holds Tryd.pinned (OpenSpec.ofChange octetHalvesWrong)

/-- 'milepostlaw01.OctetCuts': WHATEVER THE INPUT: true; the input reads as it did. -/
def octetCutsSpec : ChangeSpec := { name := "octetCuts", fn := fun _ => fun
  | [d1, d2, d3] => { results := [.lit (.bool true)], args := [d1, d2, d3] }
  | _ => none }
def octetCutsRow : OpenClaim := { program := "ytbbkkbfpojndmaadoor", sum := "0ebbd273fe68cbe11b34770b30125124c5840144f4887e19fc40b81480e87e26", func := "milepost/milepostlaw01.OctetCuts", spec := "octetCuts", named := ["milepost/octet.sizes"], apart := false, laid := [("milepost/octet.sizes", laid_milepost_octet_sizes)] }
def OctetCutsSaid : Prop := octetCutsRow.holds Tryd.pinned (OpenSpec.ofChange octetCutsSpec)

/-- ITS FALSE NEIGHBOUR: 'it returns false'. Refute it at one input. -/
def octetCutsWrong : ChangeSpec := { name := "octetCuts", fn := fun _ => fun
  | [d1, d2, d3] => { results := [.lit (.bool false)], args := [d1, d2, d3] }
  | _ => none }
def OctetCutsWrongFalsely : Prop := octetCutsRow.holds Tryd.pinned (OpenSpec.ofChange octetCutsWrong)

/- THE SECOND FORM. 'bulk': how many values and letters a reading holds, each counted each time it is reached (what is shared counts as often as it is met; a slice's spare places count too). A statement '..UptoSaid' is the law's where the arguments, and the package variables that the reading takes, are together of bulk at most 1048576: NARROWER than '..Said'. Prove '..Said' where nothing that the law and all that it calls make is longer than what came in: it says more and counts as full. Else prove '..UptoSaid'. A law counts once. -/
mutual
def uptoBulk {H : Type} : DataW H → Nat
  | .lit (.string bytes) => bytes.length + 1
  | .lit _ => 1
  | .nil => 1
  | .ptr d => uptoBulk d + 1
  | .slice elems spare => uptoBulkAll elems + uptoBulkAll spare + 1
  | .agg parts => uptoBulkAll parts + 1
  | .iface _ d => uptoBulk d + 1
  | .map entries => uptoBulkEntries entries + 1
  | .held _ => 1
def uptoBulkAll {H : Type} : List (DataW H) → Nat
  | [] => 0
  | d :: r => uptoBulk d + uptoBulkAll r
def uptoBulkEntries {H : Type} : List (Lit × DataW H) → Nat
  | [] => 0
  | x :: r => uptoBulkEntry x + uptoBulkEntries r
def uptoBulkEntry {H : Type} : Lit × DataW H → Nat
  | (.string bytes, d) => bytes.length + uptoBulk d + 1
  | (_, d) => uptoBulk d + 1
 end
def uptoSmall : (H : Type) → List (DataW H) → Bool := fun _ ds => decide (uptoBulkAll ds ≤ 1048576)
def OpenSpec.upto (s : _root_.Go.ChangeSpec) : _root_.Go.OpenSpec := { _root_.Go.OpenSpec.ofChange s with cond := some uptoSmall }

/-- 'milepostlaw01.OctetGets', WHERE WHAT IT READS IS OF BULK AT MOST 1048576: true; the input reads as it did. -/
def octetGetsUptoRow : OpenClaim := { program := "ytbbkkbfpojndmaadoor", sum := "0ebbd273fe68cbe11b34770b30125124c5840144f4887e19fc40b81480e87e26", func := "milepost/milepostlaw01.OctetGets", spec := "octetGets", named := ["milepost/octet.sizes"], apart := false, laid := [("milepost/octet.sizes", laid_milepost_octet_sizes)], narrowed := true }
def OctetGetsUptoSaid : Prop := octetGetsUptoRow.holds Tryd.pinned (OpenSpec.upto octetGetsSpec)

/-- 'milepostlaw01.OctetPuts', WHERE WHAT IT READS IS OF BULK AT MOST 1048576: true; the input reads as it did. -/
def octetPutsUptoRow : OpenClaim := { program := "ytbbkkbfpojndmaadoor", sum := "0ebbd273fe68cbe11b34770b30125124c5840144f4887e19fc40b81480e87e26", func := "milepost/milepostlaw01.OctetPuts", spec := "octetPuts", named := ["milepost/octet.sizes"], apart := false, laid := [("milepost/octet.sizes", laid_milepost_octet_sizes)], narrowed := true }
def OctetPutsUptoSaid : Prop := octetPutsUptoRow.holds Tryd.pinned (OpenSpec.upto octetPutsSpec)

/-- 'milepostlaw01.OctetWrites', WHERE WHAT IT READS IS OF BULK AT MOST 1048576: true; the input reads as it did. -/
def octetWritesUptoRow : OpenClaim := { program := "ytbbkkbfpojndmaadoor", sum := "0ebbd273fe68cbe11b34770b30125124c5840144f4887e19fc40b81480e87e26", func := "milepost/milepostlaw01.OctetWrites", spec := "octetWrites", named := ["milepost/octet.sizes"], apart := false, laid := [("milepost/octet.sizes", laid_milepost_octet_sizes)], narrowed := true }
def OctetWritesUptoSaid : Prop := octetWritesUptoRow.holds Tryd.pinned (OpenSpec.upto octetWritesSpec)

/-- 'milepostlaw01.OctetReads', WHERE WHAT IT READS IS OF BULK AT MOST 1048576: true; the input reads as it did. -/
def octetReadsUptoRow : OpenClaim := { program := "ytbbkkbfpojndmaadoor", sum := "0ebbd273fe68cbe11b34770b30125124c5840144f4887e19fc40b81480e87e26", func := "milepost/milepostlaw01.OctetReads", spec := "octetReads", named := ["milepost/octet.sizes"], apart := false, laid := [("milepost/octet.sizes", laid_milepost_octet_sizes)], narrowed := true }
def OctetReadsUptoSaid : Prop := octetReadsUptoRow.holds Tryd.pinned (OpenSpec.upto octetReadsSpec)

/-- 'milepostlaw01.OctetBack', WHERE WHAT IT READS IS OF BULK AT MOST 1048576: true; the input reads as it did. -/
def octetBackUptoRow : OpenClaim := { program := "ytbbkkbfpojndmaadoor", sum := "0ebbd273fe68cbe11b34770b30125124c5840144f4887e19fc40b81480e87e26", func := "milepost/milepostlaw01.OctetBack", spec := "octetBack", named := ["milepost/octet.sizes"], apart := false, laid := [("milepost/octet.sizes", laid_milepost_octet_sizes)], narrowed := true }
def OctetBackUptoSaid : Prop := octetBackUptoRow.holds Tryd.pinned (OpenSpec.upto octetBackSpec)

/-- 'milepostlaw01.OctetPlaces', WHERE WHAT IT READS IS OF BULK AT MOST 1048576: true; the input reads as it did. -/
def octetPlacesUptoRow : OpenClaim := { program := "ytbbkkbfpojndmaadoor", sum := "0ebbd273fe68cbe11b34770b30125124c5840144f4887e19fc40b81480e87e26", func := "milepost/milepostlaw01.OctetPlaces", spec := "octetPlaces", named := ["milepost/octet.sizes"], apart := false, laid := [("milepost/octet.sizes", laid_milepost_octet_sizes)], narrowed := true }
def OctetPlacesUptoSaid : Prop := octetPlacesUptoRow.holds Tryd.pinned (OpenSpec.upto octetPlacesSpec)

/-- 'milepostlaw01.OctetHalves', WHERE WHAT IT READS IS OF BULK AT MOST 1048576: true; the input reads as it did. -/
def octetHalvesUptoRow : OpenClaim := { program := "ytbbkkbfpojndmaadoor", sum := "0ebbd273fe68cbe11b34770b30125124c5840144f4887e19fc40b81480e87e26", func := "milepost/milepostlaw01.OctetHalves", spec := "octetHalves", named := ["milepost/octet.sizes"], apart := false, laid := [("milepost/octet.sizes", laid_milepost_octet_sizes)], narrowed := true }
def OctetHalvesUptoSaid : Prop := octetHalvesUptoRow.holds Tryd.pinned (OpenSpec.upto octetHalvesSpec)

/-- 'milepostlaw01.OctetCuts', WHERE WHAT IT READS IS OF BULK AT MOST 1048576: true; the input reads as it did. -/
def octetCutsUptoRow : OpenClaim := { program := "ytbbkkbfpojndmaadoor", sum := "0ebbd273fe68cbe11b34770b30125124c5840144f4887e19fc40b81480e87e26", func := "milepost/milepostlaw01.OctetCuts", spec := "octetCuts", named := ["milepost/octet.sizes"], apart := false, laid := [("milepost/octet.sizes", laid_milepost_octet_sizes)], narrowed := true }
def OctetCutsUptoSaid : Prop := octetCutsUptoRow.holds Tryd.pinned (OpenSpec.upto octetCutsSpec)

end Rows
end Go.Proofs.YtbbkkbfpojndmaaDoor
