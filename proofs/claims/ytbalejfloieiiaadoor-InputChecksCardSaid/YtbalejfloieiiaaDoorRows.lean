/-
  NARROWER THAN 'FOR EVERY INPUT', by the rows' own cells (each row's printed sentence says how): InputHeads: laid · InputChecks: laid · InputWrites: laid · InputReduces: laid · InputBack: laid · InputCounts: laid · InputMore: laid · InputFaults: laid · InputRows: laid · InputJoins: laid · InputMarks: laid.
  DERIVED. THE GIVEN ROWS OF THIS SEAT. 11 by the template 'for every input the law returns true; each argument reads behind the call as it read before'; 0 by the template 'total and deterministic' (their statements: YtbalejfloieiiaaDoorTotals.lean).
  GIVEN WITH THE SEED: the statements are not yours to turn. If you find one false, say at which input.
  Laid BY PROGRAM, IN A SANDBOX (cutbox-rows.mjs): the forced cells as the released guide's own fill.sh prints them over the translation 96a7212c9083f08a… (all of the seat's roots in one cut). By AI agents, Wed Nov 11 2026. No macro, syntax, notation, axiom, sorry.
-/
import Derived.Test.YtbalejfloieiiaaDoorChecked
import GoSem.Claim
import GoSem.ClaimJoined
import GoSem.ClaimMapViews
import Derived.JoinedTies
import Derived.KernelRfl
namespace Go.Proofs.YtbalejfloieiiaaDoor
/- THE CELL 'sum', in the pinned program and in every row, IS THE sha256 OF THE DUMP (.gsa) THAT YtbalejfloieiiaaDoorProg.lean LOADS. Nothing in Lean hashes anything: it is a label: what it is worth is what the hold of that sum in a sandbox is worth. -/
noncomputable def Tryd.pinned : Pinned := { name := "ytbalejfloieiiaadoor", sum := "96a7212c9083f08a0808f3a22a9455525b0fd36ad8fabc80966154a27d7d042c", checked := Tryd.checked }
namespace Rows
def none {H : Type} : Left H := { results := [], args := [] }

/- WHAT THE LISTED PACKAGE-LEVEL VARIABLES READ AS WHEN THE CALL BEGINS. Each datum BY PROGRAM (the guide's laid-datum.mjs) off the statement by which the dump's own 'gosem.cut.vars' lays the variable. In a bare row this is a premise. The card (YtbalejfloieiiaaDoorCards.lean) ties it to the program's text. -/
def laid_errors_errorType {H : Type} : DataW H := .iface "internal/reflectlite.rtype" (.agg [.ptr (.lit (.string [101, 114, 114, 111, 114]))])
def laid_milepost_octet_sizes {H : Type} : DataW H := .agg [.lit (.int .i64 1), .lit (.int .i64 2), .lit (.int .i64 4), .lit (.int .i64 8)]

/-- 'milepostlaw05.InputHeads': WHATEVER THE INPUT: true; the input reads as it did. -/
def inputHeadsSpec : ChangeSpec := { name := "inputHeads", fn := fun _ => fun
  | [d1, d2] => { results := [.lit (.bool true)], args := [d1, d2] }
  | _ => none }
def inputHeadsRow : OpenClaim := { program := "ytbalejfloieiiaadoor", sum := "96a7212c9083f08a0808f3a22a9455525b0fd36ad8fabc80966154a27d7d042c", func := "milepost/milepostlaw05.InputHeads", spec := "inputHeads", inPlace := ["internal/reflectlite.ValueOf", "(internal/reflectlite.Value).Type", "(internal/reflectlite.Value).IsNil", "internal/reflectlite.TypeOf", "(internal/reflectlite.Value).Elem", "(internal/reflectlite.Value).Set"], unfollowed := true, recurses := true, named := ["milepost/octet.sizes", "errors.errorType"], plainKeys := false, apart := false, laid := [("errors.errorType", laid_errors_errorType), ("milepost/octet.sizes", laid_milepost_octet_sizes)] }
def InputHeadsSaid : Prop := inputHeadsRow.holds Tryd.pinned (OpenSpec.ofChange inputHeadsSpec)

/-- ITS FALSE NEIGHBOUR: 'it returns false'. Refute it at one input. -/
def inputHeadsWrong : ChangeSpec := { name := "inputHeads", fn := fun _ => fun
  | [d1, d2] => { results := [.lit (.bool false)], args := [d1, d2] }
  | _ => none }
def InputHeadsWrongFalsely : Prop := inputHeadsRow.holds Tryd.pinned (OpenSpec.ofChange inputHeadsWrong)

/-- 'milepostlaw05.InputChecks': WHATEVER THE INPUT: true; the input reads as it did. -/
def inputChecksSpec : ChangeSpec := { name := "inputChecks", fn := fun _ => fun
  | [d] => { results := [.lit (.bool true)], args := [d] }
  | _ => none }
def inputChecksRow : OpenClaim := { program := "ytbalejfloieiiaadoor", sum := "96a7212c9083f08a0808f3a22a9455525b0fd36ad8fabc80966154a27d7d042c", func := "milepost/milepostlaw05.InputChecks", spec := "inputChecks", inPlace := ["internal/reflectlite.ValueOf", "(internal/reflectlite.Value).Type", "(internal/reflectlite.Value).IsNil", "internal/reflectlite.TypeOf", "(internal/reflectlite.Value).Elem", "(internal/reflectlite.Value).Set"], unfollowed := true, recurses := true, named := ["milepost/octet.sizes", "errors.errorType"], plainKeys := false, apart := false, laid := [("errors.errorType", laid_errors_errorType), ("milepost/octet.sizes", laid_milepost_octet_sizes)] }
def InputChecksSaid : Prop := inputChecksRow.holds Tryd.pinned (OpenSpec.ofChange inputChecksSpec)

/-- ITS FALSE NEIGHBOUR: 'it returns false'. Refute it at one input. -/
def inputChecksWrong : ChangeSpec := { name := "inputChecks", fn := fun _ => fun
  | [d] => { results := [.lit (.bool false)], args := [d] }
  | _ => none }
def InputChecksWrongFalsely : Prop := inputChecksRow.holds Tryd.pinned (OpenSpec.ofChange inputChecksWrong)

/-- 'milepostlaw05.InputWrites': WHATEVER THE INPUT: true; the input reads as it did. -/
def inputWritesSpec : ChangeSpec := { name := "inputWrites", fn := fun _ => fun
  | [d1, d2] => { results := [.lit (.bool true)], args := [d1, d2] }
  | _ => none }
def inputWritesRow : OpenClaim := { program := "ytbalejfloieiiaadoor", sum := "96a7212c9083f08a0808f3a22a9455525b0fd36ad8fabc80966154a27d7d042c", func := "milepost/milepostlaw05.InputWrites", spec := "inputWrites", inPlace := ["internal/reflectlite.ValueOf", "(internal/reflectlite.Value).Type", "(internal/reflectlite.Value).IsNil", "internal/reflectlite.TypeOf", "(internal/reflectlite.Value).Elem", "(internal/reflectlite.Value).Set"], unfollowed := true, recurses := true, named := ["milepost/octet.sizes", "errors.errorType"], plainKeys := false, apart := false, laid := [("errors.errorType", laid_errors_errorType), ("milepost/octet.sizes", laid_milepost_octet_sizes)] }
def InputWritesSaid : Prop := inputWritesRow.holds Tryd.pinned (OpenSpec.ofChange inputWritesSpec)

/-- ITS FALSE NEIGHBOUR: 'it returns false'. Refute it at one input. -/
def inputWritesWrong : ChangeSpec := { name := "inputWrites", fn := fun _ => fun
  | [d1, d2] => { results := [.lit (.bool false)], args := [d1, d2] }
  | _ => none }
def InputWritesWrongFalsely : Prop := inputWritesRow.holds Tryd.pinned (OpenSpec.ofChange inputWritesWrong)

/-- 'milepostlaw05.InputReduces': WHATEVER THE INPUT: true; the input reads as it did. -/
def inputReducesSpec : ChangeSpec := { name := "inputReduces", fn := fun _ => fun
  | [d] => { results := [.lit (.bool true)], args := [d] }
  | _ => none }
def inputReducesRow : OpenClaim := { program := "ytbalejfloieiiaadoor", sum := "96a7212c9083f08a0808f3a22a9455525b0fd36ad8fabc80966154a27d7d042c", func := "milepost/milepostlaw05.InputReduces", spec := "inputReduces", inPlace := ["internal/reflectlite.ValueOf", "(internal/reflectlite.Value).Type", "(internal/reflectlite.Value).IsNil", "internal/reflectlite.TypeOf", "(internal/reflectlite.Value).Elem", "(internal/reflectlite.Value).Set"], unfollowed := true, recurses := true, named := ["milepost/octet.sizes", "errors.errorType"], plainKeys := false, apart := false, laid := [("errors.errorType", laid_errors_errorType), ("milepost/octet.sizes", laid_milepost_octet_sizes)] }
def InputReducesSaid : Prop := inputReducesRow.holds Tryd.pinned (OpenSpec.ofChange inputReducesSpec)

/-- ITS FALSE NEIGHBOUR: 'it returns false'. Refute it at one input. -/
def inputReducesWrong : ChangeSpec := { name := "inputReduces", fn := fun _ => fun
  | [d] => { results := [.lit (.bool false)], args := [d] }
  | _ => none }
def InputReducesWrongFalsely : Prop := inputReducesRow.holds Tryd.pinned (OpenSpec.ofChange inputReducesWrong)

/-- 'milepostlaw05.InputBack': WHATEVER THE INPUT: true; the input reads as it did. -/
def inputBackSpec : ChangeSpec := { name := "inputBack", fn := fun _ => fun
  | [d1, d2] => { results := [.lit (.bool true)], args := [d1, d2] }
  | _ => none }
def inputBackRow : OpenClaim := { program := "ytbalejfloieiiaadoor", sum := "96a7212c9083f08a0808f3a22a9455525b0fd36ad8fabc80966154a27d7d042c", func := "milepost/milepostlaw05.InputBack", spec := "inputBack", inPlace := ["internal/reflectlite.ValueOf", "(internal/reflectlite.Value).Type", "(internal/reflectlite.Value).IsNil", "internal/reflectlite.TypeOf", "(internal/reflectlite.Value).Elem", "(internal/reflectlite.Value).Set"], unfollowed := true, recurses := true, named := ["milepost/octet.sizes", "errors.errorType"], plainKeys := false, apart := false, laid := [("errors.errorType", laid_errors_errorType), ("milepost/octet.sizes", laid_milepost_octet_sizes)] }
def InputBackSaid : Prop := inputBackRow.holds Tryd.pinned (OpenSpec.ofChange inputBackSpec)

/-- ITS FALSE NEIGHBOUR: 'it returns false'. Refute it at one input. -/
def inputBackWrong : ChangeSpec := { name := "inputBack", fn := fun _ => fun
  | [d1, d2] => { results := [.lit (.bool false)], args := [d1, d2] }
  | _ => none }
def InputBackWrongFalsely : Prop := inputBackRow.holds Tryd.pinned (OpenSpec.ofChange inputBackWrong)

/-- 'milepostlaw05.InputCounts': WHATEVER THE INPUT: true; the input reads as it did. -/
def inputCountsSpec : ChangeSpec := { name := "inputCounts", fn := fun _ => fun
  | [d] => { results := [.lit (.bool true)], args := [d] }
  | _ => none }
def inputCountsRow : OpenClaim := { program := "ytbalejfloieiiaadoor", sum := "96a7212c9083f08a0808f3a22a9455525b0fd36ad8fabc80966154a27d7d042c", func := "milepost/milepostlaw05.InputCounts", spec := "inputCounts", inPlace := ["internal/reflectlite.ValueOf", "(internal/reflectlite.Value).Type", "(internal/reflectlite.Value).IsNil", "internal/reflectlite.TypeOf", "(internal/reflectlite.Value).Elem", "(internal/reflectlite.Value).Set"], unfollowed := true, recurses := true, named := ["milepost/octet.sizes", "errors.errorType"], plainKeys := false, apart := false, laid := [("errors.errorType", laid_errors_errorType), ("milepost/octet.sizes", laid_milepost_octet_sizes)] }
def InputCountsSaid : Prop := inputCountsRow.holds Tryd.pinned (OpenSpec.ofChange inputCountsSpec)

/-- ITS FALSE NEIGHBOUR: 'it returns false'. Refute it at one input. -/
def inputCountsWrong : ChangeSpec := { name := "inputCounts", fn := fun _ => fun
  | [d] => { results := [.lit (.bool false)], args := [d] }
  | _ => none }
def InputCountsWrongFalsely : Prop := inputCountsRow.holds Tryd.pinned (OpenSpec.ofChange inputCountsWrong)

/-- 'milepostlaw05.InputMore': WHATEVER THE INPUT: true; the input reads as it did. -/
def inputMoreSpec : ChangeSpec := { name := "inputMore", fn := fun _ => fun
  | [d1, d2, d3] => { results := [.lit (.bool true)], args := [d1, d2, d3] }
  | _ => none }
def inputMoreRow : OpenClaim := { program := "ytbalejfloieiiaadoor", sum := "96a7212c9083f08a0808f3a22a9455525b0fd36ad8fabc80966154a27d7d042c", func := "milepost/milepostlaw05.InputMore", spec := "inputMore", inPlace := ["internal/reflectlite.ValueOf", "(internal/reflectlite.Value).Type", "(internal/reflectlite.Value).IsNil", "internal/reflectlite.TypeOf", "(internal/reflectlite.Value).Elem", "(internal/reflectlite.Value).Set"], unfollowed := true, recurses := true, named := ["milepost/octet.sizes", "errors.errorType"], plainKeys := false, apart := false, laid := [("errors.errorType", laid_errors_errorType), ("milepost/octet.sizes", laid_milepost_octet_sizes)] }
def InputMoreSaid : Prop := inputMoreRow.holds Tryd.pinned (OpenSpec.ofChange inputMoreSpec)

/-- ITS FALSE NEIGHBOUR: 'it returns false'. Refute it at one input. -/
def inputMoreWrong : ChangeSpec := { name := "inputMore", fn := fun _ => fun
  | [d1, d2, d3] => { results := [.lit (.bool false)], args := [d1, d2, d3] }
  | _ => none }
def InputMoreWrongFalsely : Prop := inputMoreRow.holds Tryd.pinned (OpenSpec.ofChange inputMoreWrong)

/-- 'milepostlaw05.InputFaults': WHATEVER THE INPUT: true; the input reads as it did. -/
def inputFaultsSpec : ChangeSpec := { name := "inputFaults", fn := fun _ => fun
  | [d1, d2, d3] => { results := [.lit (.bool true)], args := [d1, d2, d3] }
  | _ => none }
def inputFaultsRow : OpenClaim := { program := "ytbalejfloieiiaadoor", sum := "96a7212c9083f08a0808f3a22a9455525b0fd36ad8fabc80966154a27d7d042c", func := "milepost/milepostlaw05.InputFaults", spec := "inputFaults", inPlace := ["internal/reflectlite.ValueOf", "(internal/reflectlite.Value).Type", "(internal/reflectlite.Value).IsNil", "internal/reflectlite.TypeOf", "(internal/reflectlite.Value).Elem", "(internal/reflectlite.Value).Set"], unfollowed := true, recurses := true, named := ["milepost/octet.sizes", "errors.errorType"], plainKeys := false, apart := false, laid := [("errors.errorType", laid_errors_errorType), ("milepost/octet.sizes", laid_milepost_octet_sizes)] }
def InputFaultsSaid : Prop := inputFaultsRow.holds Tryd.pinned (OpenSpec.ofChange inputFaultsSpec)

/-- ITS FALSE NEIGHBOUR: 'it returns false'. Refute it at one input. -/
def inputFaultsWrong : ChangeSpec := { name := "inputFaults", fn := fun _ => fun
  | [d1, d2, d3] => { results := [.lit (.bool false)], args := [d1, d2, d3] }
  | _ => none }
def InputFaultsWrongFalsely : Prop := inputFaultsRow.holds Tryd.pinned (OpenSpec.ofChange inputFaultsWrong)

/-- 'milepostlaw05.InputRows': WHATEVER THE INPUT: true; the input reads as it did. -/
def inputRowsSpec : ChangeSpec := { name := "inputRows", fn := fun _ => fun
  | [d1, d2] => { results := [.lit (.bool true)], args := [d1, d2] }
  | _ => none }
def inputRowsRow : OpenClaim := { program := "ytbalejfloieiiaadoor", sum := "96a7212c9083f08a0808f3a22a9455525b0fd36ad8fabc80966154a27d7d042c", func := "milepost/milepostlaw05.InputRows", spec := "inputRows", inPlace := ["internal/reflectlite.ValueOf", "(internal/reflectlite.Value).Type", "(internal/reflectlite.Value).IsNil", "internal/reflectlite.TypeOf", "(internal/reflectlite.Value).Elem", "(internal/reflectlite.Value).Set"], unfollowed := true, recurses := true, named := ["milepost/octet.sizes", "errors.errorType"], plainKeys := false, apart := false, laid := [("errors.errorType", laid_errors_errorType), ("milepost/octet.sizes", laid_milepost_octet_sizes)] }
def InputRowsSaid : Prop := inputRowsRow.holds Tryd.pinned (OpenSpec.ofChange inputRowsSpec)

/-- ITS FALSE NEIGHBOUR: 'it returns false'. Refute it at one input. -/
def inputRowsWrong : ChangeSpec := { name := "inputRows", fn := fun _ => fun
  | [d1, d2] => { results := [.lit (.bool false)], args := [d1, d2] }
  | _ => none }
def InputRowsWrongFalsely : Prop := inputRowsRow.holds Tryd.pinned (OpenSpec.ofChange inputRowsWrong)

/-- 'milepostlaw05.InputJoins': WHATEVER THE INPUT: true; the input reads as it did. -/
def inputJoinsSpec : ChangeSpec := { name := "inputJoins", fn := fun _ => fun
  | [d1, d2] => { results := [.lit (.bool true)], args := [d1, d2] }
  | _ => none }
def inputJoinsRow : OpenClaim := { program := "ytbalejfloieiiaadoor", sum := "96a7212c9083f08a0808f3a22a9455525b0fd36ad8fabc80966154a27d7d042c", func := "milepost/milepostlaw05.InputJoins", spec := "inputJoins", inPlace := ["internal/reflectlite.ValueOf", "(internal/reflectlite.Value).Type", "(internal/reflectlite.Value).IsNil", "internal/reflectlite.TypeOf", "(internal/reflectlite.Value).Elem", "(internal/reflectlite.Value).Set"], unfollowed := true, recurses := true, named := ["milepost/octet.sizes", "errors.errorType"], plainKeys := false, apart := false, laid := [("errors.errorType", laid_errors_errorType), ("milepost/octet.sizes", laid_milepost_octet_sizes)] }
def InputJoinsSaid : Prop := inputJoinsRow.holds Tryd.pinned (OpenSpec.ofChange inputJoinsSpec)

/-- ITS FALSE NEIGHBOUR: 'it returns false'. Refute it at one input. -/
def inputJoinsWrong : ChangeSpec := { name := "inputJoins", fn := fun _ => fun
  | [d1, d2] => { results := [.lit (.bool false)], args := [d1, d2] }
  | _ => none }
def InputJoinsWrongFalsely : Prop := inputJoinsRow.holds Tryd.pinned (OpenSpec.ofChange inputJoinsWrong)

/-- 'milepostlaw05.InputMarks': WHATEVER THE INPUT: true; the input reads as it did. -/
def inputMarksSpec : ChangeSpec := { name := "inputMarks", fn := fun _ => fun
  | [d] => { results := [.lit (.bool true)], args := [d] }
  | _ => none }
def inputMarksRow : OpenClaim := { program := "ytbalejfloieiiaadoor", sum := "96a7212c9083f08a0808f3a22a9455525b0fd36ad8fabc80966154a27d7d042c", func := "milepost/milepostlaw05.InputMarks", spec := "inputMarks", inPlace := ["internal/reflectlite.ValueOf", "(internal/reflectlite.Value).Type", "(internal/reflectlite.Value).IsNil", "internal/reflectlite.TypeOf", "(internal/reflectlite.Value).Elem", "(internal/reflectlite.Value).Set"], unfollowed := true, recurses := true, named := ["milepost/octet.sizes", "errors.errorType"], plainKeys := false, apart := false, laid := [("errors.errorType", laid_errors_errorType), ("milepost/octet.sizes", laid_milepost_octet_sizes)] }
def InputMarksSaid : Prop := inputMarksRow.holds Tryd.pinned (OpenSpec.ofChange inputMarksSpec)

/-- ITS FALSE NEIGHBOUR: 'it returns false'. Refute it at one input. -/
def inputMarksWrong : ChangeSpec := { name := "inputMarks", fn := fun _ => fun
  | [d] => { results := [.lit (.bool false)], args := [d] }
  | _ => none }
def InputMarksWrongFalsely : Prop := inputMarksRow.holds Tryd.pinned (OpenSpec.ofChange inputMarksWrong)

/- THE SECOND FORM. 'bulk': how many values and letters a reading holds, each counted each time it is reached (what is shared counts as often as it is met; a slice's spare places count too). A statement '..UptoSaid' is the law's where the arguments, and the package variables that the reading takes, are together of bulk at most 1048576: NARROWER than '..Said'. Prove '..Said' where nothing that the law and all that it calls make is longer than what came in: it says more and counts as full. Else prove '..UptoSaid'. A law counts once. -/
mutual
def uptoBulk {H : Type} : DataW H → Nat
  | .lit (.string bytes) => bytes.length + 1
  | .lit _ => 1
  | .nil => 1
  | .ptr d => uptoBulk d + 1
  | .slice elems spare => uptoBulkAll elems + uptoBulkAll spare + 1
  | .agg parts => uptoBulkAll parts + 1
  | .iface _ d => uptoBulk d + 1
  | .map entries => uptoBulkEntries entries + 1
  | .held _ => 1
def uptoBulkAll {H : Type} : List (DataW H) → Nat
  | [] => 0
  | d :: r => uptoBulk d + uptoBulkAll r
def uptoBulkEntries {H : Type} : List (Lit × DataW H) → Nat
  | [] => 0
  | x :: r => uptoBulkEntry x + uptoBulkEntries r
def uptoBulkEntry {H : Type} : Lit × DataW H → Nat
  | (.string bytes, d) => bytes.length + uptoBulk d + 1
  | (_, d) => uptoBulk d + 1
 end
def uptoSmall : (H : Type) → List (DataW H) → Bool := fun _ ds => decide (uptoBulkAll ds ≤ 1048576)
def OpenSpec.upto (s : _root_.Go.ChangeSpec) : _root_.Go.OpenSpec := { _root_.Go.OpenSpec.ofChange s with cond := some uptoSmall }

/-- 'milepostlaw05.InputHeads', WHERE WHAT IT READS IS OF BULK AT MOST 1048576: true; the input reads as it did. -/
def inputHeadsUptoRow : OpenClaim := { program := "ytbalejfloieiiaadoor", sum := "96a7212c9083f08a0808f3a22a9455525b0fd36ad8fabc80966154a27d7d042c", func := "milepost/milepostlaw05.InputHeads", spec := "inputHeads", inPlace := ["internal/reflectlite.ValueOf", "(internal/reflectlite.Value).Type", "(internal/reflectlite.Value).IsNil", "internal/reflectlite.TypeOf", "(internal/reflectlite.Value).Elem", "(internal/reflectlite.Value).Set"], unfollowed := true, recurses := true, named := ["milepost/octet.sizes", "errors.errorType"], plainKeys := false, apart := false, laid := [("errors.errorType", laid_errors_errorType), ("milepost/octet.sizes", laid_milepost_octet_sizes)], narrowed := true }
def InputHeadsUptoSaid : Prop := inputHeadsUptoRow.holds Tryd.pinned (OpenSpec.upto inputHeadsSpec)

/-- 'milepostlaw05.InputChecks', WHERE WHAT IT READS IS OF BULK AT MOST 1048576: true; the input reads as it did. -/
def inputChecksUptoRow : OpenClaim := { program := "ytbalejfloieiiaadoor", sum := "96a7212c9083f08a0808f3a22a9455525b0fd36ad8fabc80966154a27d7d042c", func := "milepost/milepostlaw05.InputChecks", spec := "inputChecks", inPlace := ["internal/reflectlite.ValueOf", "(internal/reflectlite.Value).Type", "(internal/reflectlite.Value).IsNil", "internal/reflectlite.TypeOf", "(internal/reflectlite.Value).Elem", "(internal/reflectlite.Value).Set"], unfollowed := true, recurses := true, named := ["milepost/octet.sizes", "errors.errorType"], plainKeys := false, apart := false, laid := [("errors.errorType", laid_errors_errorType), ("milepost/octet.sizes", laid_milepost_octet_sizes)], narrowed := true }
def InputChecksUptoSaid : Prop := inputChecksUptoRow.holds Tryd.pinned (OpenSpec.upto inputChecksSpec)

/-- 'milepostlaw05.InputWrites', WHERE WHAT IT READS IS OF BULK AT MOST 1048576: true; the input reads as it did. -/
def inputWritesUptoRow : OpenClaim := { program := "ytbalejfloieiiaadoor", sum := "96a7212c9083f08a0808f3a22a9455525b0fd36ad8fabc80966154a27d7d042c", func := "milepost/milepostlaw05.InputWrites", spec := "inputWrites", inPlace := ["internal/reflectlite.ValueOf", "(internal/reflectlite.Value).Type", "(internal/reflectlite.Value).IsNil", "internal/reflectlite.TypeOf", "(internal/reflectlite.Value).Elem", "(internal/reflectlite.Value).Set"], unfollowed := true, recurses := true, named := ["milepost/octet.sizes", "errors.errorType"], plainKeys := false, apart := false, laid := [("errors.errorType", laid_errors_errorType), ("milepost/octet.sizes", laid_milepost_octet_sizes)], narrowed := true }
def InputWritesUptoSaid : Prop := inputWritesUptoRow.holds Tryd.pinned (OpenSpec.upto inputWritesSpec)

/-- 'milepostlaw05.InputReduces', WHERE WHAT IT READS IS OF BULK AT MOST 1048576: true; the input reads as it did. -/
def inputReducesUptoRow : OpenClaim := { program := "ytbalejfloieiiaadoor", sum := "96a7212c9083f08a0808f3a22a9455525b0fd36ad8fabc80966154a27d7d042c", func := "milepost/milepostlaw05.InputReduces", spec := "inputReduces", inPlace := ["internal/reflectlite.ValueOf", "(internal/reflectlite.Value).Type", "(internal/reflectlite.Value).IsNil", "internal/reflectlite.TypeOf", "(internal/reflectlite.Value).Elem", "(internal/reflectlite.Value).Set"], unfollowed := true, recurses := true, named := ["milepost/octet.sizes", "errors.errorType"], plainKeys := false, apart := false, laid := [("errors.errorType", laid_errors_errorType), ("milepost/octet.sizes", laid_milepost_octet_sizes)], narrowed := true }
def InputReducesUptoSaid : Prop := inputReducesUptoRow.holds Tryd.pinned (OpenSpec.upto inputReducesSpec)

/-- 'milepostlaw05.InputBack', WHERE WHAT IT READS IS OF BULK AT MOST 1048576: true; the input reads as it did. -/
def inputBackUptoRow : OpenClaim := { program := "ytbalejfloieiiaadoor", sum := "96a7212c9083f08a0808f3a22a9455525b0fd36ad8fabc80966154a27d7d042c", func := "milepost/milepostlaw05.InputBack", spec := "inputBack", inPlace := ["internal/reflectlite.ValueOf", "(internal/reflectlite.Value).Type", "(internal/reflectlite.Value).IsNil", "internal/reflectlite.TypeOf", "(internal/reflectlite.Value).Elem", "(internal/reflectlite.Value).Set"], unfollowed := true, recurses := true, named := ["milepost/octet.sizes", "errors.errorType"], plainKeys := false, apart := false, laid := [("errors.errorType", laid_errors_errorType), ("milepost/octet.sizes", laid_milepost_octet_sizes)], narrowed := true }
def InputBackUptoSaid : Prop := inputBackUptoRow.holds Tryd.pinned (OpenSpec.upto inputBackSpec)

/-- 'milepostlaw05.InputCounts', WHERE WHAT IT READS IS OF BULK AT MOST 1048576: true; the input reads as it did. -/
def inputCountsUptoRow : OpenClaim := { program := "ytbalejfloieiiaadoor", sum := "96a7212c9083f08a0808f3a22a9455525b0fd36ad8fabc80966154a27d7d042c", func := "milepost/milepostlaw05.InputCounts", spec := "inputCounts", inPlace := ["internal/reflectlite.ValueOf", "(internal/reflectlite.Value).Type", "(internal/reflectlite.Value).IsNil", "internal/reflectlite.TypeOf", "(internal/reflectlite.Value).Elem", "(internal/reflectlite.Value).Set"], unfollowed := true, recurses := true, named := ["milepost/octet.sizes", "errors.errorType"], plainKeys := false, apart := false, laid := [("errors.errorType", laid_errors_errorType), ("milepost/octet.sizes", laid_milepost_octet_sizes)], narrowed := true }
def InputCountsUptoSaid : Prop := inputCountsUptoRow.holds Tryd.pinned (OpenSpec.upto inputCountsSpec)

/-- 'milepostlaw05.InputMore', WHERE WHAT IT READS IS OF BULK AT MOST 1048576: true; the input reads as it did. -/
def inputMoreUptoRow : OpenClaim := { program := "ytbalejfloieiiaadoor", sum := "96a7212c9083f08a0808f3a22a9455525b0fd36ad8fabc80966154a27d7d042c", func := "milepost/milepostlaw05.InputMore", spec := "inputMore", inPlace := ["internal/reflectlite.ValueOf", "(internal/reflectlite.Value).Type", "(internal/reflectlite.Value).IsNil", "internal/reflectlite.TypeOf", "(internal/reflectlite.Value).Elem", "(internal/reflectlite.Value).Set"], unfollowed := true, recurses := true, named := ["milepost/octet.sizes", "errors.errorType"], plainKeys := false, apart := false, laid := [("errors.errorType", laid_errors_errorType), ("milepost/octet.sizes", laid_milepost_octet_sizes)], narrowed := true }
def InputMoreUptoSaid : Prop := inputMoreUptoRow.holds Tryd.pinned (OpenSpec.upto inputMoreSpec)

/-- 'milepostlaw05.InputFaults', WHERE WHAT IT READS IS OF BULK AT MOST 1048576: true; the input reads as it did. -/
def inputFaultsUptoRow : OpenClaim := { program := "ytbalejfloieiiaadoor", sum := "96a7212c9083f08a0808f3a22a9455525b0fd36ad8fabc80966154a27d7d042c", func := "milepost/milepostlaw05.InputFaults", spec := "inputFaults", inPlace := ["internal/reflectlite.ValueOf", "(internal/reflectlite.Value).Type", "(internal/reflectlite.Value).IsNil", "internal/reflectlite.TypeOf", "(internal/reflectlite.Value).Elem", "(internal/reflectlite.Value).Set"], unfollowed := true, recurses := true, named := ["milepost/octet.sizes", "errors.errorType"], plainKeys := false, apart := false, laid := [("errors.errorType", laid_errors_errorType), ("milepost/octet.sizes", laid_milepost_octet_sizes)], narrowed := true }
def InputFaultsUptoSaid : Prop := inputFaultsUptoRow.holds Tryd.pinned (OpenSpec.upto inputFaultsSpec)

/-- 'milepostlaw05.InputRows', WHERE WHAT IT READS IS OF BULK AT MOST 1048576: true; the input reads as it did. -/
def inputRowsUptoRow : OpenClaim := { program := "ytbalejfloieiiaadoor", sum := "96a7212c9083f08a0808f3a22a9455525b0fd36ad8fabc80966154a27d7d042c", func := "milepost/milepostlaw05.InputRows", spec := "inputRows", inPlace := ["internal/reflectlite.ValueOf", "(internal/reflectlite.Value).Type", "(internal/reflectlite.Value).IsNil", "internal/reflectlite.TypeOf", "(internal/reflectlite.Value).Elem", "(internal/reflectlite.Value).Set"], unfollowed := true, recurses := true, named := ["milepost/octet.sizes", "errors.errorType"], plainKeys := false, apart := false, laid := [("errors.errorType", laid_errors_errorType), ("milepost/octet.sizes", laid_milepost_octet_sizes)], narrowed := true }
def InputRowsUptoSaid : Prop := inputRowsUptoRow.holds Tryd.pinned (OpenSpec.upto inputRowsSpec)

/-- 'milepostlaw05.InputJoins', WHERE WHAT IT READS IS OF BULK AT MOST 1048576: true; the input reads as it did. -/
def inputJoinsUptoRow : OpenClaim := { program := "ytbalejfloieiiaadoor", sum := "96a7212c9083f08a0808f3a22a9455525b0fd36ad8fabc80966154a27d7d042c", func := "milepost/milepostlaw05.InputJoins", spec := "inputJoins", inPlace := ["internal/reflectlite.ValueOf", "(internal/reflectlite.Value).Type", "(internal/reflectlite.Value).IsNil", "internal/reflectlite.TypeOf", "(internal/reflectlite.Value).Elem", "(internal/reflectlite.Value).Set"], unfollowed := true, recurses := true, named := ["milepost/octet.sizes", "errors.errorType"], plainKeys := false, apart := false, laid := [("errors.errorType", laid_errors_errorType), ("milepost/octet.sizes", laid_milepost_octet_sizes)], narrowed := true }
def InputJoinsUptoSaid : Prop := inputJoinsUptoRow.holds Tryd.pinned (OpenSpec.upto inputJoinsSpec)

/-- 'milepostlaw05.InputMarks', WHERE WHAT IT READS IS OF BULK AT MOST 1048576: true; the input reads as it did. -/
def inputMarksUptoRow : OpenClaim := { program := "ytbalejfloieiiaadoor", sum := "96a7212c9083f08a0808f3a22a9455525b0fd36ad8fabc80966154a27d7d042c", func := "milepost/milepostlaw05.InputMarks", spec := "inputMarks", inPlace := ["internal/reflectlite.ValueOf", "(internal/reflectlite.Value).Type", "(internal/reflectlite.Value).IsNil", "internal/reflectlite.TypeOf", "(internal/reflectlite.Value).Elem", "(internal/reflectlite.Value).Set"], unfollowed := true, recurses := true, named := ["milepost/octet.sizes", "errors.errorType"], plainKeys := false, apart := false, laid := [("errors.errorType", laid_errors_errorType), ("milepost/octet.sizes", laid_milepost_octet_sizes)], narrowed := true }
def InputMarksUptoSaid : Prop := inputMarksUptoRow.holds Tryd.pinned (OpenSpec.upto inputMarksSpec)

end Rows
end Go.Proofs.YtbalejfloieiiaaDoor
