/-
  NARROWER THAN 'FOR EVERY INPUT', by the rows' own cells (each row's printed sentence says how): PagefilePlays: laid · PoolNil: laid · PoolBudget: laid · PoolBack: laid · PoolHolds: laid · PoolFlushes: laid.
  DERIVED. THE GIVEN ROWS OF THIS SEAT. 6 by the template 'for every input the law returns true; each argument reads behind the call as it read before'; 0 by the template 'total and deterministic' (their statements: YtamboappeahgpaaGreatDoorTotals.lean).
  GIVEN WITH THE SEED: the statements are not yours to turn. If you find one false, say at which input.
  Laid BY PROGRAM, IN A SANDBOX (cutbox-rows.mjs): the forced cells as the released guide's own fill.sh prints them over the translation 12d6cf5a876b5567… (all of the seat's roots in one cut). By AI agents, Wed Nov 11 2026. No macro, syntax, notation, axiom, sorry.
-/
import Derived.Test.YtamboappeahgpaaGreatDoorChecked
import GoSem.Claim
import GoSem.ClaimJoined
import GoSem.ClaimMapViews
import Derived.JoinedTies
import Derived.KernelRfl
namespace Go.Proofs.YtamboappeahgpaaGreatDoor
/- THE CELL 'sum', in the pinned program and in every row, IS THE sha256 OF THE DUMP (.gsa) THAT YtamboappeahgpaaGreatDoorProg.lean LOADS. Nothing in Lean hashes anything: it is a label: what it is worth is what the hold of that sum in a sandbox is worth. -/
noncomputable def Tryz.pinned : Pinned := { name := "ytamboappeahgpaagreatdoor", sum := "12d6cf5a876b5567c4d1ef405b9a6564662faebd35c717e286c4c157428eabf8", checked := Tryz.checked }
namespace Rows
def none {H : Type} : Left H := { results := [], args := [] }

/- WHAT THE LISTED PACKAGE-LEVEL VARIABLES READ AS WHEN THE CALL BEGINS. Each datum BY PROGRAM (the guide's laid-datum.mjs) off the statement by which the dump's own 'gosem.cut.vars' lays the variable. In a bare row this is a premise. The card (YtamboappeahgpaaGreatDoorCards.lean) ties it to the program's text. -/
def laid_milepost_octet_sizes {H : Type} : DataW H := .agg [.lit (.int .i64 1), .lit (.int .i64 2), .lit (.int .i64 4), .lit (.int .i64 8)]

/-- 'milepostlaw08.PagefilePlays': WHATEVER THE INPUT: true; the input reads as it did. -/
def pagefilePlaysSpec : ChangeSpec := { name := "pagefilePlays", fn := fun _ => fun
  | [d1, d2] => { results := [.lit (.bool true)], args := [d1, d2] }
  | _ => none }
def pagefilePlaysRow : OpenClaim := { program := "ytamboappeahgpaagreatdoor", sum := "12d6cf5a876b5567c4d1ef405b9a6564662faebd35c717e286c4c157428eabf8", func := "milepost/milepostlaw08.PagefilePlays", spec := "pagefilePlays", inPlace := ["internal/bytealg.abigen_runtime_cmpstring"], unfollowed := true, recurses := true, named := ["milepost/octet.sizes"], plainKeys := false, apart := false, laid := [("milepost/octet.sizes", laid_milepost_octet_sizes)] }
def PagefilePlaysSaid : Prop := pagefilePlaysRow.holds Tryz.pinned (OpenSpec.ofChange pagefilePlaysSpec)

/-- ITS FALSE NEIGHBOUR: 'it returns false'. Refute it at one input. -/
def pagefilePlaysWrong : ChangeSpec := { name := "pagefilePlays", fn := fun _ => fun
  | [d1, d2] => { results := [.lit (.bool false)], args := [d1, d2] }
  | _ => none }
def PagefilePlaysWrongFalsely : Prop := pagefilePlaysRow.holds Tryz.pinned (OpenSpec.ofChange pagefilePlaysWrong)

/-- 'milepostlaw10.PoolNil': WHATEVER THE INPUT: true; the input reads as it did. -/
def poolNilSpec : ChangeSpec := { name := "poolNil", fn := fun _ => fun
  | [d] => { results := [.lit (.bool true)], args := [d] }
  | _ => none }
def poolNilRow : OpenClaim := { program := "ytamboappeahgpaagreatdoor", sum := "12d6cf5a876b5567c4d1ef405b9a6564662faebd35c717e286c4c157428eabf8", func := "milepost/milepostlaw10.PoolNil", spec := "poolNil", inPlace := ["slices.overlaps[*milepost/pool.frame]", "internal/bytealg.abigen_runtime_cmpstring"], unfollowed := true, recurses := true, named := ["milepost/octet.sizes"], plainKeys := false, apart := false, laid := [("milepost/octet.sizes", laid_milepost_octet_sizes)] }
def PoolNilSaid : Prop := poolNilRow.holds Tryz.pinned (OpenSpec.ofChange poolNilSpec)

/-- ITS FALSE NEIGHBOUR: 'it returns false'. Refute it at one input. -/
def poolNilWrong : ChangeSpec := { name := "poolNil", fn := fun _ => fun
  | [d] => { results := [.lit (.bool false)], args := [d] }
  | _ => none }
def PoolNilWrongFalsely : Prop := poolNilRow.holds Tryz.pinned (OpenSpec.ofChange poolNilWrong)

/-- 'milepostlaw10.PoolBudget': WHATEVER THE INPUT: true; the input reads as it did. -/
def poolBudgetSpec : ChangeSpec := { name := "poolBudget", fn := fun _ => fun
  | [d1, d2, d3] => { results := [.lit (.bool true)], args := [d1, d2, d3] }
  | _ => none }
def poolBudgetRow : OpenClaim := { program := "ytamboappeahgpaagreatdoor", sum := "12d6cf5a876b5567c4d1ef405b9a6564662faebd35c717e286c4c157428eabf8", func := "milepost/milepostlaw10.PoolBudget", spec := "poolBudget", inPlace := ["slices.overlaps[*milepost/pool.frame]", "internal/bytealg.abigen_runtime_cmpstring"], unfollowed := true, recurses := true, named := ["milepost/octet.sizes"], plainKeys := false, apart := false, laid := [("milepost/octet.sizes", laid_milepost_octet_sizes)] }
def PoolBudgetSaid : Prop := poolBudgetRow.holds Tryz.pinned (OpenSpec.ofChange poolBudgetSpec)

/-- ITS FALSE NEIGHBOUR: 'it returns false'. Refute it at one input. -/
def poolBudgetWrong : ChangeSpec := { name := "poolBudget", fn := fun _ => fun
  | [d1, d2, d3] => { results := [.lit (.bool false)], args := [d1, d2, d3] }
  | _ => none }
def PoolBudgetWrongFalsely : Prop := poolBudgetRow.holds Tryz.pinned (OpenSpec.ofChange poolBudgetWrong)

/-- 'milepostlaw10.PoolBack': WHATEVER THE INPUT: true; the input reads as it did. -/
def poolBackSpec : ChangeSpec := { name := "poolBack", fn := fun _ => fun
  | [d1, d2] => { results := [.lit (.bool true)], args := [d1, d2] }
  | _ => none }
def poolBackRow : OpenClaim := { program := "ytamboappeahgpaagreatdoor", sum := "12d6cf5a876b5567c4d1ef405b9a6564662faebd35c717e286c4c157428eabf8", func := "milepost/milepostlaw10.PoolBack", spec := "poolBack", inPlace := ["slices.overlaps[*milepost/pool.frame]", "internal/bytealg.abigen_runtime_cmpstring"], unfollowed := true, recurses := true, named := ["milepost/octet.sizes"], plainKeys := false, apart := false, laid := [("milepost/octet.sizes", laid_milepost_octet_sizes)] }
def PoolBackSaid : Prop := poolBackRow.holds Tryz.pinned (OpenSpec.ofChange poolBackSpec)

/-- ITS FALSE NEIGHBOUR: 'it returns false'. Refute it at one input. -/
def poolBackWrong : ChangeSpec := { name := "poolBack", fn := fun _ => fun
  | [d1, d2] => { results := [.lit (.bool false)], args := [d1, d2] }
  | _ => none }
def PoolBackWrongFalsely : Prop := poolBackRow.holds Tryz.pinned (OpenSpec.ofChange poolBackWrong)

/-- 'milepostlaw10.PoolHolds': WHATEVER THE INPUT: true; the input reads as it did. -/
def poolHoldsSpec : ChangeSpec := { name := "poolHolds", fn := fun _ => fun
  | [d1, d2, d3] => { results := [.lit (.bool true)], args := [d1, d2, d3] }
  | _ => none }
def poolHoldsRow : OpenClaim := { program := "ytamboappeahgpaagreatdoor", sum := "12d6cf5a876b5567c4d1ef405b9a6564662faebd35c717e286c4c157428eabf8", func := "milepost/milepostlaw10.PoolHolds", spec := "poolHolds", inPlace := ["slices.overlaps[*milepost/pool.frame]", "internal/bytealg.abigen_runtime_cmpstring"], unfollowed := true, recurses := true, named := ["milepost/octet.sizes"], plainKeys := false, apart := false, laid := [("milepost/octet.sizes", laid_milepost_octet_sizes)] }
def PoolHoldsSaid : Prop := poolHoldsRow.holds Tryz.pinned (OpenSpec.ofChange poolHoldsSpec)

/-- ITS FALSE NEIGHBOUR: 'it returns false'. Refute it at one input. -/
def poolHoldsWrong : ChangeSpec := { name := "poolHolds", fn := fun _ => fun
  | [d1, d2, d3] => { results := [.lit (.bool false)], args := [d1, d2, d3] }
  | _ => none }
def PoolHoldsWrongFalsely : Prop := poolHoldsRow.holds Tryz.pinned (OpenSpec.ofChange poolHoldsWrong)

/-- 'milepostlaw10.PoolFlushes': WHATEVER THE INPUT: true; the input reads as it did. -/
def poolFlushesSpec : ChangeSpec := { name := "poolFlushes", fn := fun _ => fun
  | [d1, d2, d3] => { results := [.lit (.bool true)], args := [d1, d2, d3] }
  | _ => none }
def poolFlushesRow : OpenClaim := { program := "ytamboappeahgpaagreatdoor", sum := "12d6cf5a876b5567c4d1ef405b9a6564662faebd35c717e286c4c157428eabf8", func := "milepost/milepostlaw10.PoolFlushes", spec := "poolFlushes", inPlace := ["slices.overlaps[*milepost/pool.frame]", "internal/bytealg.abigen_runtime_cmpstring"], unfollowed := true, recurses := true, named := ["milepost/octet.sizes"], plainKeys := false, apart := false, laid := [("milepost/octet.sizes", laid_milepost_octet_sizes)] }
def PoolFlushesSaid : Prop := poolFlushesRow.holds Tryz.pinned (OpenSpec.ofChange poolFlushesSpec)

/-- ITS FALSE NEIGHBOUR: 'it returns false'. Refute it at one input. -/
def poolFlushesWrong : ChangeSpec := { name := "poolFlushes", fn := fun _ => fun
  | [d1, d2, d3] => { results := [.lit (.bool false)], args := [d1, d2, d3] }
  | _ => none }
def PoolFlushesWrongFalsely : Prop := poolFlushesRow.holds Tryz.pinned (OpenSpec.ofChange poolFlushesWrong)

/- THE SECOND FORM. 'bulk': how many values and letters a reading holds, each counted each time it is reached (what is shared counts as often as it is met; a slice's spare places count too). A statement '..UptoSaid' is the law's where the arguments, and the package variables that the reading takes, are together of bulk at most 1048576: NARROWER than '..Said'. Prove '..Said' where nothing that the law and all that it calls make is longer than what came in: it says more and counts as full. Else prove '..UptoSaid'. A law counts once. -/
mutual
def uptoBulk {H : Type} : DataW H → Nat
  | .lit (.string bytes) => bytes.length + 1
  | .lit _ => 1
  | .nil => 1
  | .ptr d => uptoBulk d + 1
  | .slice elems spare => uptoBulkAll elems + uptoBulkAll spare + 1
  | .agg parts => uptoBulkAll parts + 1
  | .iface _ d => uptoBulk d + 1
  | .map entries => uptoBulkEntries entries + 1
  | .held _ => 1
def uptoBulkAll {H : Type} : List (DataW H) → Nat
  | [] => 0
  | d :: r => uptoBulk d + uptoBulkAll r
def uptoBulkEntries {H : Type} : List (Lit × DataW H) → Nat
  | [] => 0
  | x :: r => uptoBulkEntry x + uptoBulkEntries r
def uptoBulkEntry {H : Type} : Lit × DataW H → Nat
  | (.string bytes, d) => bytes.length + uptoBulk d + 1
  | (_, d) => uptoBulk d + 1
 end
def uptoSmall : (H : Type) → List (DataW H) → Bool := fun _ ds => decide (uptoBulkAll ds ≤ 1048576)
def OpenSpec.upto (s : _root_.Go.ChangeSpec) : _root_.Go.OpenSpec := { _root_.Go.OpenSpec.ofChange s with cond := some uptoSmall }

/-- 'milepostlaw08.PagefilePlays', WHERE WHAT IT READS IS OF BULK AT MOST 1048576: true; the input reads as it did. -/
def pagefilePlaysUptoRow : OpenClaim := { program := "ytamboappeahgpaagreatdoor", sum := "12d6cf5a876b5567c4d1ef405b9a6564662faebd35c717e286c4c157428eabf8", func := "milepost/milepostlaw08.PagefilePlays", spec := "pagefilePlays", inPlace := ["internal/bytealg.abigen_runtime_cmpstring"], unfollowed := true, recurses := true, named := ["milepost/octet.sizes"], plainKeys := false, apart := false, laid := [("milepost/octet.sizes", laid_milepost_octet_sizes)], narrowed := true }
def PagefilePlaysUptoSaid : Prop := pagefilePlaysUptoRow.holds Tryz.pinned (OpenSpec.upto pagefilePlaysSpec)

/-- 'milepostlaw10.PoolNil', WHERE WHAT IT READS IS OF BULK AT MOST 1048576: true; the input reads as it did. -/
def poolNilUptoRow : OpenClaim := { program := "ytamboappeahgpaagreatdoor", sum := "12d6cf5a876b5567c4d1ef405b9a6564662faebd35c717e286c4c157428eabf8", func := "milepost/milepostlaw10.PoolNil", spec := "poolNil", inPlace := ["slices.overlaps[*milepost/pool.frame]", "internal/bytealg.abigen_runtime_cmpstring"], unfollowed := true, recurses := true, named := ["milepost/octet.sizes"], plainKeys := false, apart := false, laid := [("milepost/octet.sizes", laid_milepost_octet_sizes)], narrowed := true }
def PoolNilUptoSaid : Prop := poolNilUptoRow.holds Tryz.pinned (OpenSpec.upto poolNilSpec)

/-- 'milepostlaw10.PoolBudget', WHERE WHAT IT READS IS OF BULK AT MOST 1048576: true; the input reads as it did. -/
def poolBudgetUptoRow : OpenClaim := { program := "ytamboappeahgpaagreatdoor", sum := "12d6cf5a876b5567c4d1ef405b9a6564662faebd35c717e286c4c157428eabf8", func := "milepost/milepostlaw10.PoolBudget", spec := "poolBudget", inPlace := ["slices.overlaps[*milepost/pool.frame]", "internal/bytealg.abigen_runtime_cmpstring"], unfollowed := true, recurses := true, named := ["milepost/octet.sizes"], plainKeys := false, apart := false, laid := [("milepost/octet.sizes", laid_milepost_octet_sizes)], narrowed := true }
def PoolBudgetUptoSaid : Prop := poolBudgetUptoRow.holds Tryz.pinned (OpenSpec.upto poolBudgetSpec)

/-- 'milepostlaw10.PoolBack', WHERE WHAT IT READS IS OF BULK AT MOST 1048576: true; the input reads as it did. -/
def poolBackUptoRow : OpenClaim := { program := "ytamboappeahgpaagreatdoor", sum := "12d6cf5a876b5567c4d1ef405b9a6564662faebd35c717e286c4c157428eabf8", func := "milepost/milepostlaw10.PoolBack", spec := "poolBack", inPlace := ["slices.overlaps[*milepost/pool.frame]", "internal/bytealg.abigen_runtime_cmpstring"], unfollowed := true, recurses := true, named := ["milepost/octet.sizes"], plainKeys := false, apart := false, laid := [("milepost/octet.sizes", laid_milepost_octet_sizes)], narrowed := true }
def PoolBackUptoSaid : Prop := poolBackUptoRow.holds Tryz.pinned (OpenSpec.upto poolBackSpec)

/-- 'milepostlaw10.PoolHolds', WHERE WHAT IT READS IS OF BULK AT MOST 1048576: true; the input reads as it did. -/
def poolHoldsUptoRow : OpenClaim := { program := "ytamboappeahgpaagreatdoor", sum := "12d6cf5a876b5567c4d1ef405b9a6564662faebd35c717e286c4c157428eabf8", func := "milepost/milepostlaw10.PoolHolds", spec := "poolHolds", inPlace := ["slices.overlaps[*milepost/pool.frame]", "internal/bytealg.abigen_runtime_cmpstring"], unfollowed := true, recurses := true, named := ["milepost/octet.sizes"], plainKeys := false, apart := false, laid := [("milepost/octet.sizes", laid_milepost_octet_sizes)], narrowed := true }
def PoolHoldsUptoSaid : Prop := poolHoldsUptoRow.holds Tryz.pinned (OpenSpec.upto poolHoldsSpec)

/-- 'milepostlaw10.PoolFlushes', WHERE WHAT IT READS IS OF BULK AT MOST 1048576: true; the input reads as it did. -/
def poolFlushesUptoRow : OpenClaim := { program := "ytamboappeahgpaagreatdoor", sum := "12d6cf5a876b5567c4d1ef405b9a6564662faebd35c717e286c4c157428eabf8", func := "milepost/milepostlaw10.PoolFlushes", spec := "poolFlushes", inPlace := ["slices.overlaps[*milepost/pool.frame]", "internal/bytealg.abigen_runtime_cmpstring"], unfollowed := true, recurses := true, named := ["milepost/octet.sizes"], plainKeys := false, apart := false, laid := [("milepost/octet.sizes", laid_milepost_octet_sizes)], narrowed := true }
def PoolFlushesUptoSaid : Prop := poolFlushesUptoRow.holds Tryz.pinned (OpenSpec.upto poolFlushesSpec)

end Rows
end Go.Proofs.YtamboappeahgpaaGreatDoor
