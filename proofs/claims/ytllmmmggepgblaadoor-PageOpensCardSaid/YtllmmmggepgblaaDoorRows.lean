/-
  NARROWER THAN 'FOR EVERY INPUT', by the rows' own cells (each row's printed sentence says how): PageMakes: laid · PageOpens: laid · PageBack: laid · PageBursts: laid · PageSizes: laid · PageCuts: laid · PageFills: laid.
  DERIVED. THE GIVEN ROWS OF THIS SEAT. 7 by the template 'for every input the law returns true; each argument reads behind the call as it read before'; 0 by the template 'total and deterministic' (their statements: YtllmmmggepgblaaDoorTotals.lean).
  GIVEN WITH THE SEED: the statements are not yours to turn. If you find one false, say at which input.
  Laid BY PROGRAM, IN A SANDBOX (cutbox-rows.mjs): the forced cells as the released guide's own fill.sh prints them over the translation 1d34737b615fce96… (all of the seat's roots in one cut). By AI agents, Wed Nov 11 2026. No macro, syntax, notation, axiom, sorry.
-/
import Derived.Test.YtllmmmggepgblaaDoorChecked
import GoSem.Claim
import GoSem.ClaimJoined
import GoSem.ClaimMapViews
import Derived.JoinedTies
import Derived.KernelRfl
namespace Go.Proofs.YtllmmmggepgblaaDoor
/- THE CELL 'sum', in the pinned program and in every row, IS THE sha256 OF THE DUMP (.gsa) THAT YtllmmmggepgblaaDoorProg.lean LOADS. Nothing in Lean hashes anything: it is a label: what it is worth is what the hold of that sum in a sandbox is worth. -/
noncomputable def Tryd.pinned : Pinned := { name := "ytllmmmggepgblaadoor", sum := "1d34737b615fce9612097902394a83ba43585ab8e8fca44b46b2aa2c536a1c09", checked := Tryd.checked }
namespace Rows
def none {H : Type} : Left H := { results := [], args := [] }

/- WHAT THE LISTED PACKAGE-LEVEL VARIABLES READ AS WHEN THE CALL BEGINS. Each datum BY PROGRAM (the guide's laid-datum.mjs) off the statement by which the dump's own 'gosem.cut.vars' lays the variable. In a bare row this is a premise. The card (YtllmmmggepgblaaDoorCards.lean) ties it to the program's text. -/
def laid_milepost_octet_sizes {H : Type} : DataW H := .agg [.lit (.int .i64 1), .lit (.int .i64 2), .lit (.int .i64 4), .lit (.int .i64 8)]

/-- 'milepostlaw07.PageMakes': WHATEVER THE INPUT: true; the input reads as it did. -/
def pageMakesSpec : ChangeSpec := { name := "pageMakes", fn := fun _ => fun
  | [d1, d2, d3] => { results := [.lit (.bool true)], args := [d1, d2, d3] }
  | _ => none }
def pageMakesRow : OpenClaim := { program := "ytllmmmggepgblaadoor", sum := "1d34737b615fce9612097902394a83ba43585ab8e8fca44b46b2aa2c536a1c09", func := "milepost/milepostlaw07.PageMakes", spec := "pageMakes", named := ["milepost/octet.sizes"], apart := false, laid := [("milepost/octet.sizes", laid_milepost_octet_sizes)] }
def PageMakesSaid : Prop := pageMakesRow.holds Tryd.pinned (OpenSpec.ofChange pageMakesSpec)

/-- ITS FALSE NEIGHBOUR: 'it returns false'. Refute it at one input. -/
def pageMakesWrong : ChangeSpec := { name := "pageMakes", fn := fun _ => fun
  | [d1, d2, d3] => { results := [.lit (.bool false)], args := [d1, d2, d3] }
  | _ => none }
def PageMakesWrongFalsely : Prop := pageMakesRow.holds Tryd.pinned (OpenSpec.ofChange pageMakesWrong)

/-- 'milepostlaw07.PageOpens': WHATEVER THE INPUT: true; the input reads as it did. -/
def pageOpensSpec : ChangeSpec := { name := "pageOpens", fn := fun _ => fun
  | [d1, d2, d3] => { results := [.lit (.bool true)], args := [d1, d2, d3] }
  | _ => none }
def pageOpensRow : OpenClaim := { program := "ytllmmmggepgblaadoor", sum := "1d34737b615fce9612097902394a83ba43585ab8e8fca44b46b2aa2c536a1c09", func := "milepost/milepostlaw07.PageOpens", spec := "pageOpens", named := ["milepost/octet.sizes"], apart := false, laid := [("milepost/octet.sizes", laid_milepost_octet_sizes)] }
def PageOpensSaid : Prop := pageOpensRow.holds Tryd.pinned (OpenSpec.ofChange pageOpensSpec)

/-- ITS FALSE NEIGHBOUR: 'it returns false'. Refute it at one input. -/
def pageOpensWrong : ChangeSpec := { name := "pageOpens", fn := fun _ => fun
  | [d1, d2, d3] => { results := [.lit (.bool false)], args := [d1, d2, d3] }
  | _ => none }
def PageOpensWrongFalsely : Prop := pageOpensRow.holds Tryd.pinned (OpenSpec.ofChange pageOpensWrong)

/-- 'milepostlaw07.PageBack': WHATEVER THE INPUT: true; the input reads as it did. -/
def pageBackSpec : ChangeSpec := { name := "pageBack", fn := fun _ => fun
  | [d] => { results := [.lit (.bool true)], args := [d] }
  | _ => none }
def pageBackRow : OpenClaim := { program := "ytllmmmggepgblaadoor", sum := "1d34737b615fce9612097902394a83ba43585ab8e8fca44b46b2aa2c536a1c09", func := "milepost/milepostlaw07.PageBack", spec := "pageBack", named := ["milepost/octet.sizes"], apart := false, laid := [("milepost/octet.sizes", laid_milepost_octet_sizes)] }
def PageBackSaid : Prop := pageBackRow.holds Tryd.pinned (OpenSpec.ofChange pageBackSpec)

/-- ITS FALSE NEIGHBOUR: 'it returns false'. Refute it at one input. -/
def pageBackWrong : ChangeSpec := { name := "pageBack", fn := fun _ => fun
  | [d] => { results := [.lit (.bool false)], args := [d] }
  | _ => none }
def PageBackWrongFalsely : Prop := pageBackRow.holds Tryd.pinned (OpenSpec.ofChange pageBackWrong)

/-- 'milepostlaw07.PageBursts': WHATEVER THE INPUT: true; the input reads as it did. -/
def pageBurstsSpec : ChangeSpec := { name := "pageBursts", fn := fun _ => fun
  | [d] => { results := [.lit (.bool true)], args := [d] }
  | _ => none }
def pageBurstsRow : OpenClaim := { program := "ytllmmmggepgblaadoor", sum := "1d34737b615fce9612097902394a83ba43585ab8e8fca44b46b2aa2c536a1c09", func := "milepost/milepostlaw07.PageBursts", spec := "pageBursts", named := ["milepost/octet.sizes"], apart := false, laid := [("milepost/octet.sizes", laid_milepost_octet_sizes)] }
def PageBurstsSaid : Prop := pageBurstsRow.holds Tryd.pinned (OpenSpec.ofChange pageBurstsSpec)

/-- ITS FALSE NEIGHBOUR: 'it returns false'. Refute it at one input. -/
def pageBurstsWrong : ChangeSpec := { name := "pageBursts", fn := fun _ => fun
  | [d] => { results := [.lit (.bool false)], args := [d] }
  | _ => none }
def PageBurstsWrongFalsely : Prop := pageBurstsRow.holds Tryd.pinned (OpenSpec.ofChange pageBurstsWrong)

/-- 'milepostlaw07.PageSizes': WHATEVER THE INPUT: true; the input reads as it did. -/
def pageSizesSpec : ChangeSpec := { name := "pageSizes", fn := fun _ => fun
  | [d1, d2, d3] => { results := [.lit (.bool true)], args := [d1, d2, d3] }
  | _ => none }
def pageSizesRow : OpenClaim := { program := "ytllmmmggepgblaadoor", sum := "1d34737b615fce9612097902394a83ba43585ab8e8fca44b46b2aa2c536a1c09", func := "milepost/milepostlaw07.PageSizes", spec := "pageSizes", named := ["milepost/octet.sizes"], apart := false, laid := [("milepost/octet.sizes", laid_milepost_octet_sizes)] }
def PageSizesSaid : Prop := pageSizesRow.holds Tryd.pinned (OpenSpec.ofChange pageSizesSpec)

/-- ITS FALSE NEIGHBOUR: 'it returns false'. Refute it at one input. -/
def pageSizesWrong : ChangeSpec := { name := "pageSizes", fn := fun _ => fun
  | [d1, d2, d3] => { results := [.lit (.bool false)], args := [d1, d2, d3] }
  | _ => none }
def PageSizesWrongFalsely : Prop := pageSizesRow.holds Tryd.pinned (OpenSpec.ofChange pageSizesWrong)

/-- 'milepostlaw07.PageCuts': WHATEVER THE INPUT: true; the input reads as it did. -/
def pageCutsSpec : ChangeSpec := { name := "pageCuts", fn := fun _ => fun
  | [d1, d2] => { results := [.lit (.bool true)], args := [d1, d2] }
  | _ => none }
def pageCutsRow : OpenClaim := { program := "ytllmmmggepgblaadoor", sum := "1d34737b615fce9612097902394a83ba43585ab8e8fca44b46b2aa2c536a1c09", func := "milepost/milepostlaw07.PageCuts", spec := "pageCuts", named := ["milepost/octet.sizes"], apart := false, laid := [("milepost/octet.sizes", laid_milepost_octet_sizes)] }
def PageCutsSaid : Prop := pageCutsRow.holds Tryd.pinned (OpenSpec.ofChange pageCutsSpec)

/-- ITS FALSE NEIGHBOUR: 'it returns false'. Refute it at one input. -/
def pageCutsWrong : ChangeSpec := { name := "pageCuts", fn := fun _ => fun
  | [d1, d2] => { results := [.lit (.bool false)], args := [d1, d2] }
  | _ => none }
def PageCutsWrongFalsely : Prop := pageCutsRow.holds Tryd.pinned (OpenSpec.ofChange pageCutsWrong)

/-- 'milepostlaw07.PageFills': WHATEVER THE INPUT: true; the input reads as it did. -/
def pageFillsSpec : ChangeSpec := { name := "pageFills", fn := fun _ => fun
  | [d1, d2, d3] => { results := [.lit (.bool true)], args := [d1, d2, d3] }
  | _ => none }
def pageFillsRow : OpenClaim := { program := "ytllmmmggepgblaadoor", sum := "1d34737b615fce9612097902394a83ba43585ab8e8fca44b46b2aa2c536a1c09", func := "milepost/milepostlaw07.PageFills", spec := "pageFills", named := ["milepost/octet.sizes"], apart := false, laid := [("milepost/octet.sizes", laid_milepost_octet_sizes)] }
def PageFillsSaid : Prop := pageFillsRow.holds Tryd.pinned (OpenSpec.ofChange pageFillsSpec)

/-- ITS FALSE NEIGHBOUR: 'it returns false'. Refute it at one input. -/
def pageFillsWrong : ChangeSpec := { name := "pageFills", fn := fun _ => fun
  | [d1, d2, d3] => { results := [.lit (.bool false)], args := [d1, d2, d3] }
  | _ => none }
def PageFillsWrongFalsely : Prop := pageFillsRow.holds Tryd.pinned (OpenSpec.ofChange pageFillsWrong)

/- THE SECOND FORM. 'bulk': how many values and letters a reading holds, each counted each time it is reached (what is shared counts as often as it is met; a slice's spare places count too). A statement '..UptoSaid' is the law's where the arguments, and the package variables that the reading takes, are together of bulk at most 1048576: NARROWER than '..Said'. Prove '..Said' where nothing that the law and all that it calls make is longer than what came in: it says more and counts as full. Else prove '..UptoSaid'. A law counts once. -/
mutual
def uptoBulk {H : Type} : DataW H → Nat
  | .lit (.string bytes) => bytes.length + 1
  | .lit _ => 1
  | .nil => 1
  | .ptr d => uptoBulk d + 1
  | .slice elems spare => uptoBulkAll elems + uptoBulkAll spare + 1
  | .agg parts => uptoBulkAll parts + 1
  | .iface _ d => uptoBulk d + 1
  | .map entries => uptoBulkEntries entries + 1
  | .held _ => 1
def uptoBulkAll {H : Type} : List (DataW H) → Nat
  | [] => 0
  | d :: r => uptoBulk d + uptoBulkAll r
def uptoBulkEntries {H : Type} : List (Lit × DataW H) → Nat
  | [] => 0
  | x :: r => uptoBulkEntry x + uptoBulkEntries r
def uptoBulkEntry {H : Type} : Lit × DataW H → Nat
  | (.string bytes, d) => bytes.length + uptoBulk d + 1
  | (_, d) => uptoBulk d + 1
 end
def uptoSmall : (H : Type) → List (DataW H) → Bool := fun _ ds => decide (uptoBulkAll ds ≤ 1048576)
def OpenSpec.upto (s : _root_.Go.ChangeSpec) : _root_.Go.OpenSpec := { _root_.Go.OpenSpec.ofChange s with cond := some uptoSmall }

/-- 'milepostlaw07.PageMakes', WHERE WHAT IT READS IS OF BULK AT MOST 1048576: true; the input reads as it did. -/
def pageMakesUptoRow : OpenClaim := { program := "ytllmmmggepgblaadoor", sum := "1d34737b615fce9612097902394a83ba43585ab8e8fca44b46b2aa2c536a1c09", func := "milepost/milepostlaw07.PageMakes", spec := "pageMakes", named := ["milepost/octet.sizes"], apart := false, laid := [("milepost/octet.sizes", laid_milepost_octet_sizes)], narrowed := true }
def PageMakesUptoSaid : Prop := pageMakesUptoRow.holds Tryd.pinned (OpenSpec.upto pageMakesSpec)

/-- 'milepostlaw07.PageOpens', WHERE WHAT IT READS IS OF BULK AT MOST 1048576: true; the input reads as it did. -/
def pageOpensUptoRow : OpenClaim := { program := "ytllmmmggepgblaadoor", sum := "1d34737b615fce9612097902394a83ba43585ab8e8fca44b46b2aa2c536a1c09", func := "milepost/milepostlaw07.PageOpens", spec := "pageOpens", named := ["milepost/octet.sizes"], apart := false, laid := [("milepost/octet.sizes", laid_milepost_octet_sizes)], narrowed := true }
def PageOpensUptoSaid : Prop := pageOpensUptoRow.holds Tryd.pinned (OpenSpec.upto pageOpensSpec)

/-- 'milepostlaw07.PageBack', WHERE WHAT IT READS IS OF BULK AT MOST 1048576: true; the input reads as it did. -/
def pageBackUptoRow : OpenClaim := { program := "ytllmmmggepgblaadoor", sum := "1d34737b615fce9612097902394a83ba43585ab8e8fca44b46b2aa2c536a1c09", func := "milepost/milepostlaw07.PageBack", spec := "pageBack", named := ["milepost/octet.sizes"], apart := false, laid := [("milepost/octet.sizes", laid_milepost_octet_sizes)], narrowed := true }
def PageBackUptoSaid : Prop := pageBackUptoRow.holds Tryd.pinned (OpenSpec.upto pageBackSpec)

/-- 'milepostlaw07.PageBursts', WHERE WHAT IT READS IS OF BULK AT MOST 1048576: true; the input reads as it did. -/
def pageBurstsUptoRow : OpenClaim := { program := "ytllmmmggepgblaadoor", sum := "1d34737b615fce9612097902394a83ba43585ab8e8fca44b46b2aa2c536a1c09", func := "milepost/milepostlaw07.PageBursts", spec := "pageBursts", named := ["milepost/octet.sizes"], apart := false, laid := [("milepost/octet.sizes", laid_milepost_octet_sizes)], narrowed := true }
def PageBurstsUptoSaid : Prop := pageBurstsUptoRow.holds Tryd.pinned (OpenSpec.upto pageBurstsSpec)

/-- 'milepostlaw07.PageSizes', WHERE WHAT IT READS IS OF BULK AT MOST 1048576: true; the input reads as it did. -/
def pageSizesUptoRow : OpenClaim := { program := "ytllmmmggepgblaadoor", sum := "1d34737b615fce9612097902394a83ba43585ab8e8fca44b46b2aa2c536a1c09", func := "milepost/milepostlaw07.PageSizes", spec := "pageSizes", named := ["milepost/octet.sizes"], apart := false, laid := [("milepost/octet.sizes", laid_milepost_octet_sizes)], narrowed := true }
def PageSizesUptoSaid : Prop := pageSizesUptoRow.holds Tryd.pinned (OpenSpec.upto pageSizesSpec)

/-- 'milepostlaw07.PageCuts', WHERE WHAT IT READS IS OF BULK AT MOST 1048576: true; the input reads as it did. -/
def pageCutsUptoRow : OpenClaim := { program := "ytllmmmggepgblaadoor", sum := "1d34737b615fce9612097902394a83ba43585ab8e8fca44b46b2aa2c536a1c09", func := "milepost/milepostlaw07.PageCuts", spec := "pageCuts", named := ["milepost/octet.sizes"], apart := false, laid := [("milepost/octet.sizes", laid_milepost_octet_sizes)], narrowed := true }
def PageCutsUptoSaid : Prop := pageCutsUptoRow.holds Tryd.pinned (OpenSpec.upto pageCutsSpec)

/-- 'milepostlaw07.PageFills', WHERE WHAT IT READS IS OF BULK AT MOST 1048576: true; the input reads as it did. -/
def pageFillsUptoRow : OpenClaim := { program := "ytllmmmggepgblaadoor", sum := "1d34737b615fce9612097902394a83ba43585ab8e8fca44b46b2aa2c536a1c09", func := "milepost/milepostlaw07.PageFills", spec := "pageFills", named := ["milepost/octet.sizes"], apart := false, laid := [("milepost/octet.sizes", laid_milepost_octet_sizes)], narrowed := true }
def PageFillsUptoSaid : Prop := pageFillsUptoRow.holds Tryd.pinned (OpenSpec.upto pageFillsSpec)

end Rows
end Go.Proofs.YtllmmmggepgblaaDoor
