/-
  NARROWER THAN 'FOR EVERY INPUT', by the rows' own cells (each row's printed sentence says how): StreamBack: laid · StreamNil: laid · StreamShape: laid · StreamLeaves: laid.
  DERIVED. THE GIVEN ROWS OF THIS SEAT. 4 by the template 'for every input the law returns true; each argument reads behind the call as it read before'; 0 by the template 'total and deterministic' (their statements: YtmholhjdpkfleaaDoorTotals.lean).
  GIVEN WITH THE SEED: the statements are not yours to turn. If you find one false, say at which input.
  Laid BY PROGRAM, IN A SANDBOX (cutbox-rows.mjs): the forced cells as the released guide's own fill.sh prints them over the translation 63461b0b270a5cdf… (all of the seat's roots in one cut). By AI agents, Wed Nov 11 2026. No macro, syntax, notation, axiom, sorry.
-/
import Derived.Test.YtmholhjdpkfleaaDoorChecked
import GoSem.Claim
import GoSem.ClaimJoined
import GoSem.ClaimMapViews
import Derived.JoinedTies
import Derived.KernelRfl
namespace Go.Proofs.YtmholhjdpkfleaaDoor
/- THE CELL 'sum', in the pinned program and in every row, IS THE sha256 OF THE DUMP (.gsa) THAT YtmholhjdpkfleaaDoorProg.lean LOADS. Nothing in Lean hashes anything: it is a label: what it is worth is what the hold of that sum in a sandbox is worth. -/
noncomputable def Tryd.pinned : Pinned := { name := "ytmholhjdpkfleaadoor", sum := "63461b0b270a5cdf96dd11abc189e8c83de4e36b63f2d58a10ebf07cbd143a9e", checked := Tryd.checked }
namespace Rows
def none {H : Type} : Left H := { results := [], args := [] }

/- WHAT THE LISTED PACKAGE-LEVEL VARIABLES READ AS WHEN THE CALL BEGINS. Each datum BY PROGRAM (the guide's laid-datum.mjs) off the statement by which the dump's own 'gosem.cut.vars' lays the variable. In a bare row this is a premise. The card (YtmholhjdpkfleaaDoorCards.lean) ties it to the program's text. -/
def laid_milepost_octet_sizes {H : Type} : DataW H := .agg [.lit (.int .i64 1), .lit (.int .i64 2), .lit (.int .i64 4), .lit (.int .i64 8)]

/-- 'milepostlaw11.StreamBack': WHATEVER THE INPUT: true; the input reads as it did. -/
def streamBackSpec : ChangeSpec := { name := "streamBack", fn := fun _ => fun
  | [d1, d2, d3] => { results := [.lit (.bool true)], args := [d1, d2, d3] }
  | _ => none }
def streamBackRow : OpenClaim := { program := "ytmholhjdpkfleaadoor", sum := "63461b0b270a5cdf96dd11abc189e8c83de4e36b63f2d58a10ebf07cbd143a9e", func := "milepost/milepostlaw11.StreamBack", spec := "streamBack", inPlace := ["slices.overlaps[*milepost/pool.frame]"], unfollowed := true, recurses := true, named := ["milepost/octet.sizes"], plainKeys := false, apart := false, laid := [("milepost/octet.sizes", laid_milepost_octet_sizes)] }
def StreamBackSaid : Prop := streamBackRow.holds Tryd.pinned (OpenSpec.ofChange streamBackSpec)

/-- ITS FALSE NEIGHBOUR: 'it returns false'. Refute it at one input. -/
def streamBackWrong : ChangeSpec := { name := "streamBack", fn := fun _ => fun
  | [d1, d2, d3] => { results := [.lit (.bool false)], args := [d1, d2, d3] }
  | _ => none }
def StreamBackWrongFalsely : Prop := streamBackRow.holds Tryd.pinned (OpenSpec.ofChange streamBackWrong)

/-- 'milepostlaw11.StreamNil': WHATEVER THE INPUT: true; the input reads as it did. -/
def streamNilSpec : ChangeSpec := { name := "streamNil", fn := fun _ => fun
  | [d1, d2, d3] => { results := [.lit (.bool true)], args := [d1, d2, d3] }
  | _ => none }
def streamNilRow : OpenClaim := { program := "ytmholhjdpkfleaadoor", sum := "63461b0b270a5cdf96dd11abc189e8c83de4e36b63f2d58a10ebf07cbd143a9e", func := "milepost/milepostlaw11.StreamNil", spec := "streamNil", inPlace := ["slices.overlaps[*milepost/pool.frame]"], unfollowed := true, recurses := true, named := ["milepost/octet.sizes"], plainKeys := false, apart := false, laid := [("milepost/octet.sizes", laid_milepost_octet_sizes)] }
def StreamNilSaid : Prop := streamNilRow.holds Tryd.pinned (OpenSpec.ofChange streamNilSpec)

/-- ITS FALSE NEIGHBOUR: 'it returns false'. Refute it at one input. -/
def streamNilWrong : ChangeSpec := { name := "streamNil", fn := fun _ => fun
  | [d1, d2, d3] => { results := [.lit (.bool false)], args := [d1, d2, d3] }
  | _ => none }
def StreamNilWrongFalsely : Prop := streamNilRow.holds Tryd.pinned (OpenSpec.ofChange streamNilWrong)

/-- 'milepostlaw11.StreamShape': WHATEVER THE INPUT: true; the input reads as it did. -/
def streamShapeSpec : ChangeSpec := { name := "streamShape", fn := fun _ => fun
  | [d1, d2, d3] => { results := [.lit (.bool true)], args := [d1, d2, d3] }
  | _ => none }
def streamShapeRow : OpenClaim := { program := "ytmholhjdpkfleaadoor", sum := "63461b0b270a5cdf96dd11abc189e8c83de4e36b63f2d58a10ebf07cbd143a9e", func := "milepost/milepostlaw11.StreamShape", spec := "streamShape", inPlace := ["slices.overlaps[*milepost/pool.frame]"], unfollowed := true, recurses := true, named := ["milepost/octet.sizes"], plainKeys := false, apart := false, laid := [("milepost/octet.sizes", laid_milepost_octet_sizes)] }
def StreamShapeSaid : Prop := streamShapeRow.holds Tryd.pinned (OpenSpec.ofChange streamShapeSpec)

/-- ITS FALSE NEIGHBOUR: 'it returns false'. Refute it at one input. -/
def streamShapeWrong : ChangeSpec := { name := "streamShape", fn := fun _ => fun
  | [d1, d2, d3] => { results := [.lit (.bool false)], args := [d1, d2, d3] }
  | _ => none }
def StreamShapeWrongFalsely : Prop := streamShapeRow.holds Tryd.pinned (OpenSpec.ofChange streamShapeWrong)

/-- 'milepostlaw11.StreamLeaves': WHATEVER THE INPUT: true; the input reads as it did. -/
def streamLeavesSpec : ChangeSpec := { name := "streamLeaves", fn := fun _ => fun
  | [d1, d2, d3, d4] => { results := [.lit (.bool true)], args := [d1, d2, d3, d4] }
  | _ => none }
def streamLeavesRow : OpenClaim := { program := "ytmholhjdpkfleaadoor", sum := "63461b0b270a5cdf96dd11abc189e8c83de4e36b63f2d58a10ebf07cbd143a9e", func := "milepost/milepostlaw11.StreamLeaves", spec := "streamLeaves", inPlace := ["slices.overlaps[*milepost/pool.frame]"], unfollowed := true, recurses := true, named := ["milepost/octet.sizes"], plainKeys := false, apart := false, laid := [("milepost/octet.sizes", laid_milepost_octet_sizes)] }
def StreamLeavesSaid : Prop := streamLeavesRow.holds Tryd.pinned (OpenSpec.ofChange streamLeavesSpec)

/-- ITS FALSE NEIGHBOUR: 'it returns false'. Refute it at one input. -/
def streamLeavesWrong : ChangeSpec := { name := "streamLeaves", fn := fun _ => fun
  | [d1, d2, d3, d4] => { results := [.lit (.bool false)], args := [d1, d2, d3, d4] }
  | _ => none }
def StreamLeavesWrongFalsely : Prop := streamLeavesRow.holds Tryd.pinned (OpenSpec.ofChange streamLeavesWrong)

/- THE SECOND FORM. 'bulk': how many values and letters a reading holds, each counted each time it is reached (what is shared counts as often as it is met; a slice's spare places count too). A statement '..UptoSaid' is the law's where the arguments, and the package variables that the reading takes, are together of bulk at most 1048576: NARROWER than '..Said'. Prove '..Said' where nothing that the law and all that it calls make is longer than what came in: it says more and counts as full. Else prove '..UptoSaid'. A law counts once. -/
mutual
def uptoBulk {H : Type} : DataW H → Nat
  | .lit (.string bytes) => bytes.length + 1
  | .lit _ => 1
  | .nil => 1
  | .ptr d => uptoBulk d + 1
  | .slice elems spare => uptoBulkAll elems + uptoBulkAll spare + 1
  | .agg parts => uptoBulkAll parts + 1
  | .iface _ d => uptoBulk d + 1
  | .map entries => uptoBulkEntries entries + 1
  | .held _ => 1
def uptoBulkAll {H : Type} : List (DataW H) → Nat
  | [] => 0
  | d :: r => uptoBulk d + uptoBulkAll r
def uptoBulkEntries {H : Type} : List (Lit × DataW H) → Nat
  | [] => 0
  | x :: r => uptoBulkEntry x + uptoBulkEntries r
def uptoBulkEntry {H : Type} : Lit × DataW H → Nat
  | (.string bytes, d) => bytes.length + uptoBulk d + 1
  | (_, d) => uptoBulk d + 1
 end
def uptoSmall : (H : Type) → List (DataW H) → Bool := fun _ ds => decide (uptoBulkAll ds ≤ 1048576)
def OpenSpec.upto (s : _root_.Go.ChangeSpec) : _root_.Go.OpenSpec := { _root_.Go.OpenSpec.ofChange s with cond := some uptoSmall }

/-- 'milepostlaw11.StreamBack', WHERE WHAT IT READS IS OF BULK AT MOST 1048576: true; the input reads as it did. -/
def streamBackUptoRow : OpenClaim := { program := "ytmholhjdpkfleaadoor", sum := "63461b0b270a5cdf96dd11abc189e8c83de4e36b63f2d58a10ebf07cbd143a9e", func := "milepost/milepostlaw11.StreamBack", spec := "streamBack", inPlace := ["slices.overlaps[*milepost/pool.frame]"], unfollowed := true, recurses := true, named := ["milepost/octet.sizes"], plainKeys := false, apart := false, laid := [("milepost/octet.sizes", laid_milepost_octet_sizes)], narrowed := true }
def StreamBackUptoSaid : Prop := streamBackUptoRow.holds Tryd.pinned (OpenSpec.upto streamBackSpec)

/-- 'milepostlaw11.StreamNil', WHERE WHAT IT READS IS OF BULK AT MOST 1048576: true; the input reads as it did. -/
def streamNilUptoRow : OpenClaim := { program := "ytmholhjdpkfleaadoor", sum := "63461b0b270a5cdf96dd11abc189e8c83de4e36b63f2d58a10ebf07cbd143a9e", func := "milepost/milepostlaw11.StreamNil", spec := "streamNil", inPlace := ["slices.overlaps[*milepost/pool.frame]"], unfollowed := true, recurses := true, named := ["milepost/octet.sizes"], plainKeys := false, apart := false, laid := [("milepost/octet.sizes", laid_milepost_octet_sizes)], narrowed := true }
def StreamNilUptoSaid : Prop := streamNilUptoRow.holds Tryd.pinned (OpenSpec.upto streamNilSpec)

/-- 'milepostlaw11.StreamShape', WHERE WHAT IT READS IS OF BULK AT MOST 1048576: true; the input reads as it did. -/
def streamShapeUptoRow : OpenClaim := { program := "ytmholhjdpkfleaadoor", sum := "63461b0b270a5cdf96dd11abc189e8c83de4e36b63f2d58a10ebf07cbd143a9e", func := "milepost/milepostlaw11.StreamShape", spec := "streamShape", inPlace := ["slices.overlaps[*milepost/pool.frame]"], unfollowed := true, recurses := true, named := ["milepost/octet.sizes"], plainKeys := false, apart := false, laid := [("milepost/octet.sizes", laid_milepost_octet_sizes)], narrowed := true }
def StreamShapeUptoSaid : Prop := streamShapeUptoRow.holds Tryd.pinned (OpenSpec.upto streamShapeSpec)

/-- 'milepostlaw11.StreamLeaves', WHERE WHAT IT READS IS OF BULK AT MOST 1048576: true; the input reads as it did. -/
def streamLeavesUptoRow : OpenClaim := { program := "ytmholhjdpkfleaadoor", sum := "63461b0b270a5cdf96dd11abc189e8c83de4e36b63f2d58a10ebf07cbd143a9e", func := "milepost/milepostlaw11.StreamLeaves", spec := "streamLeaves", inPlace := ["slices.overlaps[*milepost/pool.frame]"], unfollowed := true, recurses := true, named := ["milepost/octet.sizes"], plainKeys := false, apart := false, laid := [("milepost/octet.sizes", laid_milepost_octet_sizes)], narrowed := true }
def StreamLeavesUptoSaid : Prop := streamLeavesUptoRow.holds Tryd.pinned (OpenSpec.upto streamLeavesSpec)

end Rows
end Go.Proofs.YtmholhjdpkfleaaDoor
