/-
  NARROWER THAN 'FOR EVERY INPUT', by the rows' own cells (each row's printed sentence says how): PagefileNil: laid · PagefileBack: laid · PagefileTells: laid · PagefileTorn: laid · PagefileNumbers: laid · PagefileGrows: laid.
  DERIVED. THE GIVEN ROWS OF THIS SEAT. 6 by the template 'for every input the law returns true; each argument reads behind the call as it read before'; 0 by the template 'total and deterministic' (their statements: YtbpiiegjbcoapaaDoorTotals.lean).
  GIVEN WITH THE SEED: the statements are not yours to turn. If you find one false, say at which input.
  Laid BY PROGRAM, IN A SANDBOX (cutbox-rows.mjs): the forced cells as the released guide's own fill.sh prints them over the translation e1860e7a20d1c69b… (all of the seat's roots in one cut). By AI agents, Wed Nov 11 2026. No macro, syntax, notation, axiom, sorry.
-/
import Derived.Test.YtbpiiegjbcoapaaDoorChecked
import GoSem.Claim
import GoSem.ClaimJoined
import GoSem.ClaimMapViews
import Derived.JoinedTies
import Derived.KernelRfl
namespace Go.Proofs.YtbpiiegjbcoapaaDoor
/- THE CELL 'sum', in the pinned program and in every row, IS THE sha256 OF THE DUMP (.gsa) THAT YtbpiiegjbcoapaaDoorProg.lean LOADS. Nothing in Lean hashes anything: it is a label: what it is worth is what the hold of that sum in a sandbox is worth. -/
noncomputable def Tryd.pinned : Pinned := { name := "ytbpiiegjbcoapaadoor", sum := "e1860e7a20d1c69b05d7a4ffe2ba53cfab242a0731a4d3442a2865c464e07280", checked := Tryd.checked }
namespace Rows
def none {H : Type} : Left H := { results := [], args := [] }

/- WHAT THE LISTED PACKAGE-LEVEL VARIABLES READ AS WHEN THE CALL BEGINS. Each datum BY PROGRAM (the guide's laid-datum.mjs) off the statement by which the dump's own 'gosem.cut.vars' lays the variable. In a bare row this is a premise. The card (YtbpiiegjbcoapaaDoorCards.lean) ties it to the program's text. -/
def laid_milepost_octet_sizes {H : Type} : DataW H := .agg [.lit (.int .i64 1), .lit (.int .i64 2), .lit (.int .i64 4), .lit (.int .i64 8)]

/-- 'milepostlaw08.PagefileNil': WHATEVER THE INPUT: true; the input reads as it did. -/
def pagefileNilSpec : ChangeSpec := { name := "pagefileNil", fn := fun _ => fun
  | [d1, d2, d3] => { results := [.lit (.bool true)], args := [d1, d2, d3] }
  | _ => none }
def pagefileNilRow : OpenClaim := { program := "ytbpiiegjbcoapaadoor", sum := "e1860e7a20d1c69b05d7a4ffe2ba53cfab242a0731a4d3442a2865c464e07280", func := "milepost/milepostlaw08.PagefileNil", spec := "pagefileNil", unfollowed := true, recurses := true, named := ["milepost/octet.sizes"], plainKeys := false, apart := false, laid := [("milepost/octet.sizes", laid_milepost_octet_sizes)] }
def PagefileNilSaid : Prop := pagefileNilRow.holds Tryd.pinned (OpenSpec.ofChange pagefileNilSpec)

/-- ITS FALSE NEIGHBOUR: 'it returns false'. Refute it at one input. -/
def pagefileNilWrong : ChangeSpec := { name := "pagefileNil", fn := fun _ => fun
  | [d1, d2, d3] => { results := [.lit (.bool false)], args := [d1, d2, d3] }
  | _ => none }
def PagefileNilWrongFalsely : Prop := pagefileNilRow.holds Tryd.pinned (OpenSpec.ofChange pagefileNilWrong)

/-- 'milepostlaw08.PagefileBack': WHATEVER THE INPUT: true; the input reads as it did. -/
def pagefileBackSpec : ChangeSpec := { name := "pagefileBack", fn := fun _ => fun
  | [d1, d2, d3] => { results := [.lit (.bool true)], args := [d1, d2, d3] }
  | _ => none }
def pagefileBackRow : OpenClaim := { program := "ytbpiiegjbcoapaadoor", sum := "e1860e7a20d1c69b05d7a4ffe2ba53cfab242a0731a4d3442a2865c464e07280", func := "milepost/milepostlaw08.PagefileBack", spec := "pagefileBack", unfollowed := true, recurses := true, named := ["milepost/octet.sizes"], plainKeys := false, apart := false, laid := [("milepost/octet.sizes", laid_milepost_octet_sizes)] }
def PagefileBackSaid : Prop := pagefileBackRow.holds Tryd.pinned (OpenSpec.ofChange pagefileBackSpec)

/-- ITS FALSE NEIGHBOUR: 'it returns false'. Refute it at one input. -/
def pagefileBackWrong : ChangeSpec := { name := "pagefileBack", fn := fun _ => fun
  | [d1, d2, d3] => { results := [.lit (.bool false)], args := [d1, d2, d3] }
  | _ => none }
def PagefileBackWrongFalsely : Prop := pagefileBackRow.holds Tryd.pinned (OpenSpec.ofChange pagefileBackWrong)

/-- 'milepostlaw08.PagefileTells': WHATEVER THE INPUT: true; the input reads as it did. -/
def pagefileTellsSpec : ChangeSpec := { name := "pagefileTells", fn := fun _ => fun
  | [d1, d2, d3, d4] => { results := [.lit (.bool true)], args := [d1, d2, d3, d4] }
  | _ => none }
def pagefileTellsRow : OpenClaim := { program := "ytbpiiegjbcoapaadoor", sum := "e1860e7a20d1c69b05d7a4ffe2ba53cfab242a0731a4d3442a2865c464e07280", func := "milepost/milepostlaw08.PagefileTells", spec := "pagefileTells", unfollowed := true, recurses := true, named := ["milepost/octet.sizes"], plainKeys := false, apart := false, laid := [("milepost/octet.sizes", laid_milepost_octet_sizes)] }
def PagefileTellsSaid : Prop := pagefileTellsRow.holds Tryd.pinned (OpenSpec.ofChange pagefileTellsSpec)

/-- ITS FALSE NEIGHBOUR: 'it returns false'. Refute it at one input. -/
def pagefileTellsWrong : ChangeSpec := { name := "pagefileTells", fn := fun _ => fun
  | [d1, d2, d3, d4] => { results := [.lit (.bool false)], args := [d1, d2, d3, d4] }
  | _ => none }
def PagefileTellsWrongFalsely : Prop := pagefileTellsRow.holds Tryd.pinned (OpenSpec.ofChange pagefileTellsWrong)

/-- 'milepostlaw08.PagefileTorn': WHATEVER THE INPUT: true; the input reads as it did. -/
def pagefileTornSpec : ChangeSpec := { name := "pagefileTorn", fn := fun _ => fun
  | [d1, d2, d3, d4] => { results := [.lit (.bool true)], args := [d1, d2, d3, d4] }
  | _ => none }
def pagefileTornRow : OpenClaim := { program := "ytbpiiegjbcoapaadoor", sum := "e1860e7a20d1c69b05d7a4ffe2ba53cfab242a0731a4d3442a2865c464e07280", func := "milepost/milepostlaw08.PagefileTorn", spec := "pagefileTorn", inPlace := ["internal/bytealg.abigen_runtime_cmpstring"], unfollowed := true, recurses := true, named := ["milepost/octet.sizes"], plainKeys := false, apart := false, laid := [("milepost/octet.sizes", laid_milepost_octet_sizes)] }
def PagefileTornSaid : Prop := pagefileTornRow.holds Tryd.pinned (OpenSpec.ofChange pagefileTornSpec)

/-- ITS FALSE NEIGHBOUR: 'it returns false'. Refute it at one input. -/
def pagefileTornWrong : ChangeSpec := { name := "pagefileTorn", fn := fun _ => fun
  | [d1, d2, d3, d4] => { results := [.lit (.bool false)], args := [d1, d2, d3, d4] }
  | _ => none }
def PagefileTornWrongFalsely : Prop := pagefileTornRow.holds Tryd.pinned (OpenSpec.ofChange pagefileTornWrong)

/-- 'milepostlaw08.PagefileNumbers': WHATEVER THE INPUT: true; the input reads as it did. -/
def pagefileNumbersSpec : ChangeSpec := { name := "pagefileNumbers", fn := fun _ => fun
  | [d1, d2, d3] => { results := [.lit (.bool true)], args := [d1, d2, d3] }
  | _ => none }
def pagefileNumbersRow : OpenClaim := { program := "ytbpiiegjbcoapaadoor", sum := "e1860e7a20d1c69b05d7a4ffe2ba53cfab242a0731a4d3442a2865c464e07280", func := "milepost/milepostlaw08.PagefileNumbers", spec := "pagefileNumbers", unfollowed := true, recurses := true, named := ["milepost/octet.sizes"], plainKeys := false, apart := false, laid := [("milepost/octet.sizes", laid_milepost_octet_sizes)] }
def PagefileNumbersSaid : Prop := pagefileNumbersRow.holds Tryd.pinned (OpenSpec.ofChange pagefileNumbersSpec)

/-- ITS FALSE NEIGHBOUR: 'it returns false'. Refute it at one input. -/
def pagefileNumbersWrong : ChangeSpec := { name := "pagefileNumbers", fn := fun _ => fun
  | [d1, d2, d3] => { results := [.lit (.bool false)], args := [d1, d2, d3] }
  | _ => none }
def PagefileNumbersWrongFalsely : Prop := pagefileNumbersRow.holds Tryd.pinned (OpenSpec.ofChange pagefileNumbersWrong)

/-- 'milepostlaw08.PagefileGrows': WHATEVER THE INPUT: true; the input reads as it did. -/
def pagefileGrowsSpec : ChangeSpec := { name := "pagefileGrows", fn := fun _ => fun
  | [d1, d2, d3] => { results := [.lit (.bool true)], args := [d1, d2, d3] }
  | _ => none }
def pagefileGrowsRow : OpenClaim := { program := "ytbpiiegjbcoapaadoor", sum := "e1860e7a20d1c69b05d7a4ffe2ba53cfab242a0731a4d3442a2865c464e07280", func := "milepost/milepostlaw08.PagefileGrows", spec := "pagefileGrows", unfollowed := true, recurses := true, named := ["milepost/octet.sizes"], plainKeys := false, apart := false, laid := [("milepost/octet.sizes", laid_milepost_octet_sizes)] }
def PagefileGrowsSaid : Prop := pagefileGrowsRow.holds Tryd.pinned (OpenSpec.ofChange pagefileGrowsSpec)

/-- ITS FALSE NEIGHBOUR: 'it returns false'. Refute it at one input. -/
def pagefileGrowsWrong : ChangeSpec := { name := "pagefileGrows", fn := fun _ => fun
  | [d1, d2, d3] => { results := [.lit (.bool false)], args := [d1, d2, d3] }
  | _ => none }
def PagefileGrowsWrongFalsely : Prop := pagefileGrowsRow.holds Tryd.pinned (OpenSpec.ofChange pagefileGrowsWrong)

/- THE SECOND FORM. 'bulk': how many values and letters a reading holds, each counted each time it is reached (what is shared counts as often as it is met; a slice's spare places count too). A statement '..UptoSaid' is the law's where the arguments, and the package variables that the reading takes, are together of bulk at most 1048576: NARROWER than '..Said'. Prove '..Said' where nothing that the law and all that it calls make is longer than what came in: it says more and counts as full. Else prove '..UptoSaid'. A law counts once. -/
mutual
def uptoBulk {H : Type} : DataW H → Nat
  | .lit (.string bytes) => bytes.length + 1
  | .lit _ => 1
  | .nil => 1
  | .ptr d => uptoBulk d + 1
  | .slice elems spare => uptoBulkAll elems + uptoBulkAll spare + 1
  | .agg parts => uptoBulkAll parts + 1
  | .iface _ d => uptoBulk d + 1
  | .map entries => uptoBulkEntries entries + 1
  | .held _ => 1
def uptoBulkAll {H : Type} : List (DataW H) → Nat
  | [] => 0
  | d :: r => uptoBulk d + uptoBulkAll r
def uptoBulkEntries {H : Type} : List (Lit × DataW H) → Nat
  | [] => 0
  | x :: r => uptoBulkEntry x + uptoBulkEntries r
def uptoBulkEntry {H : Type} : Lit × DataW H → Nat
  | (.string bytes, d) => bytes.length + uptoBulk d + 1
  | (_, d) => uptoBulk d + 1
 end
def uptoSmall : (H : Type) → List (DataW H) → Bool := fun _ ds => decide (uptoBulkAll ds ≤ 1048576)
def OpenSpec.upto (s : _root_.Go.ChangeSpec) : _root_.Go.OpenSpec := { _root_.Go.OpenSpec.ofChange s with cond := some uptoSmall }

/-- 'milepostlaw08.PagefileNil', WHERE WHAT IT READS IS OF BULK AT MOST 1048576: true; the input reads as it did. -/
def pagefileNilUptoRow : OpenClaim := { program := "ytbpiiegjbcoapaadoor", sum := "e1860e7a20d1c69b05d7a4ffe2ba53cfab242a0731a4d3442a2865c464e07280", func := "milepost/milepostlaw08.PagefileNil", spec := "pagefileNil", unfollowed := true, recurses := true, named := ["milepost/octet.sizes"], plainKeys := false, apart := false, laid := [("milepost/octet.sizes", laid_milepost_octet_sizes)], narrowed := true }
def PagefileNilUptoSaid : Prop := pagefileNilUptoRow.holds Tryd.pinned (OpenSpec.upto pagefileNilSpec)

/-- 'milepostlaw08.PagefileBack', WHERE WHAT IT READS IS OF BULK AT MOST 1048576: true; the input reads as it did. -/
def pagefileBackUptoRow : OpenClaim := { program := "ytbpiiegjbcoapaadoor", sum := "e1860e7a20d1c69b05d7a4ffe2ba53cfab242a0731a4d3442a2865c464e07280", func := "milepost/milepostlaw08.PagefileBack", spec := "pagefileBack", unfollowed := true, recurses := true, named := ["milepost/octet.sizes"], plainKeys := false, apart := false, laid := [("milepost/octet.sizes", laid_milepost_octet_sizes)], narrowed := true }
def PagefileBackUptoSaid : Prop := pagefileBackUptoRow.holds Tryd.pinned (OpenSpec.upto pagefileBackSpec)

/-- 'milepostlaw08.PagefileTells', WHERE WHAT IT READS IS OF BULK AT MOST 1048576: true; the input reads as it did. -/
def pagefileTellsUptoRow : OpenClaim := { program := "ytbpiiegjbcoapaadoor", sum := "e1860e7a20d1c69b05d7a4ffe2ba53cfab242a0731a4d3442a2865c464e07280", func := "milepost/milepostlaw08.PagefileTells", spec := "pagefileTells", unfollowed := true, recurses := true, named := ["milepost/octet.sizes"], plainKeys := false, apart := false, laid := [("milepost/octet.sizes", laid_milepost_octet_sizes)], narrowed := true }
def PagefileTellsUptoSaid : Prop := pagefileTellsUptoRow.holds Tryd.pinned (OpenSpec.upto pagefileTellsSpec)

/-- 'milepostlaw08.PagefileTorn', WHERE WHAT IT READS IS OF BULK AT MOST 1048576: true; the input reads as it did. -/
def pagefileTornUptoRow : OpenClaim := { program := "ytbpiiegjbcoapaadoor", sum := "e1860e7a20d1c69b05d7a4ffe2ba53cfab242a0731a4d3442a2865c464e07280", func := "milepost/milepostlaw08.PagefileTorn", spec := "pagefileTorn", inPlace := ["internal/bytealg.abigen_runtime_cmpstring"], unfollowed := true, recurses := true, named := ["milepost/octet.sizes"], plainKeys := false, apart := false, laid := [("milepost/octet.sizes", laid_milepost_octet_sizes)], narrowed := true }
def PagefileTornUptoSaid : Prop := pagefileTornUptoRow.holds Tryd.pinned (OpenSpec.upto pagefileTornSpec)

/-- 'milepostlaw08.PagefileNumbers', WHERE WHAT IT READS IS OF BULK AT MOST 1048576: true; the input reads as it did. -/
def pagefileNumbersUptoRow : OpenClaim := { program := "ytbpiiegjbcoapaadoor", sum := "e1860e7a20d1c69b05d7a4ffe2ba53cfab242a0731a4d3442a2865c464e07280", func := "milepost/milepostlaw08.PagefileNumbers", spec := "pagefileNumbers", unfollowed := true, recurses := true, named := ["milepost/octet.sizes"], plainKeys := false, apart := false, laid := [("milepost/octet.sizes", laid_milepost_octet_sizes)], narrowed := true }
def PagefileNumbersUptoSaid : Prop := pagefileNumbersUptoRow.holds Tryd.pinned (OpenSpec.upto pagefileNumbersSpec)

/-- 'milepostlaw08.PagefileGrows', WHERE WHAT IT READS IS OF BULK AT MOST 1048576: true; the input reads as it did. -/
def pagefileGrowsUptoRow : OpenClaim := { program := "ytbpiiegjbcoapaadoor", sum := "e1860e7a20d1c69b05d7a4ffe2ba53cfab242a0731a4d3442a2865c464e07280", func := "milepost/milepostlaw08.PagefileGrows", spec := "pagefileGrows", unfollowed := true, recurses := true, named := ["milepost/octet.sizes"], plainKeys := false, apart := false, laid := [("milepost/octet.sizes", laid_milepost_octet_sizes)], narrowed := true }
def PagefileGrowsUptoSaid : Prop := pagefileGrowsUptoRow.holds Tryd.pinned (OpenSpec.upto pagefileGrowsSpec)

end Rows
end Go.Proofs.YtbpiiegjbcoapaaDoor
