/-
  No cell of these rows narrows 'for every input' (looked for: loops, veiled, ifaces, maps, wideKeys, modest, calm, conditions, laid).
  DERIVED. THE GIVEN ROWS OF THIS SEAT. 5 by the template 'for every input the law returns true; each argument reads behind the call as it read before'; 0 by the template 'total and deterministic' (their statements: YtegckdhomkdegaaTotals.lean).
  GIVEN WITH THE SEED: the statements are not yours to turn. If you find one false, say at which input.
  Laid BY PROGRAM, IN A SANDBOX (cutbox-rows.mjs): the forced cells as the released guide's own fill.sh prints them over the translation d1cea8b34714cf08… (all of the seat's roots in one cut). By AI agents, Wed Nov 11 2026. No macro, syntax, notation, axiom, sorry.
-/
import Derived.Test.YtegckdhomkdegaaChecked
import GoSem.Claim
import GoSem.ClaimJoined
import GoSem.ClaimMapViews
import Derived.JoinedTies
import Derived.KernelRfl
namespace Go.Proofs.Ytegckdhomkdegaa
/- THE CELL 'sum', in the pinned program and in every row, IS THE sha256 OF THE DUMP (.gsa) THAT YtegckdhomkdegaaProg.lean LOADS. Nothing in Lean hashes anything: it is a label: what it is worth is what the hold of that sum in a sandbox is worth. -/
noncomputable def Try.pinned : Pinned := { name := "ytegckdhomkdegaa", sum := "d1cea8b34714cf08bf3031e85098368b40c1c7ff1abba124d586ec7f5cc3aec9", checked := Try.checked }
namespace Rows
def none {H : Type} : Left H := { results := [], args := [] }

/-- 'milepostlaw15.PrioKeys': WHATEVER THE INPUT: true; the input reads as it did. -/
def prioKeysSpec : ChangeSpec := { name := "prioKeys", fn := fun _ => fun
  | [d1, d2] => { results := [.lit (.bool true)], args := [d1, d2] }
  | _ => none }
def prioKeysRow : OpenClaim := { program := "ytegckdhomkdegaa", sum := "d1cea8b34714cf08bf3031e85098368b40c1c7ff1abba124d586ec7f5cc3aec9", func := "milepost/milepostlaw15.PrioKeys", spec := "prioKeys", apart := false }
def PrioKeysSaid : Prop := prioKeysRow.holds Try.pinned (OpenSpec.ofChange prioKeysSpec)

/-- ITS FALSE NEIGHBOUR: 'it returns false'. Refute it at one input. -/
def prioKeysWrong : ChangeSpec := { name := "prioKeys", fn := fun _ => fun
  | [d1, d2] => { results := [.lit (.bool false)], args := [d1, d2] }
  | _ => none }
def PrioKeysWrongFalsely : Prop := prioKeysRow.holds Try.pinned (OpenSpec.ofChange prioKeysWrong)

/-- 'milepostlaw15.PrioSteps': WHATEVER THE INPUT: true; the input reads as it did. -/
def prioStepsSpec : ChangeSpec := { name := "prioSteps", fn := fun _ => fun
  | [d1, d2] => { results := [.lit (.bool true)], args := [d1, d2] }
  | _ => none }
def prioStepsRow : OpenClaim := { program := "ytegckdhomkdegaa", sum := "d1cea8b34714cf08bf3031e85098368b40c1c7ff1abba124d586ec7f5cc3aec9", func := "milepost/milepostlaw15.PrioSteps", spec := "prioSteps", apart := false }
def PrioStepsSaid : Prop := prioStepsRow.holds Try.pinned (OpenSpec.ofChange prioStepsSpec)

/-- ITS FALSE NEIGHBOUR: 'it returns false'. Refute it at one input. -/
def prioStepsWrong : ChangeSpec := { name := "prioSteps", fn := fun _ => fun
  | [d1, d2] => { results := [.lit (.bool false)], args := [d1, d2] }
  | _ => none }
def PrioStepsWrongFalsely : Prop := prioStepsRow.holds Try.pinned (OpenSpec.ofChange prioStepsWrong)

/-- 'milepostlaw15.PrioVerts': WHATEVER THE INPUT: true; the input reads as it did. -/
def prioVertsSpec : ChangeSpec := { name := "prioVerts", fn := fun _ => fun
  | [d1, d2, d3] => { results := [.lit (.bool true)], args := [d1, d2, d3] }
  | _ => none }
def prioVertsRow : OpenClaim := { program := "ytegckdhomkdegaa", sum := "d1cea8b34714cf08bf3031e85098368b40c1c7ff1abba124d586ec7f5cc3aec9", func := "milepost/milepostlaw15.PrioVerts", spec := "prioVerts", apart := false }
def PrioVertsSaid : Prop := prioVertsRow.holds Try.pinned (OpenSpec.ofChange prioVertsSpec)

/-- ITS FALSE NEIGHBOUR: 'it returns false'. Refute it at one input. -/
def prioVertsWrong : ChangeSpec := { name := "prioVerts", fn := fun _ => fun
  | [d1, d2, d3] => { results := [.lit (.bool false)], args := [d1, d2, d3] }
  | _ => none }
def PrioVertsWrongFalsely : Prop := prioVertsRow.holds Try.pinned (OpenSpec.ofChange prioVertsWrong)

/-- 'milepostlaw15.PrioCuts': WHATEVER THE INPUT: true; the input reads as it did. -/
def prioCutsSpec : ChangeSpec := { name := "prioCuts", fn := fun _ => fun
  | [d1, d2] => { results := [.lit (.bool true)], args := [d1, d2] }
  | _ => none }
def prioCutsRow : OpenClaim := { program := "ytegckdhomkdegaa", sum := "d1cea8b34714cf08bf3031e85098368b40c1c7ff1abba124d586ec7f5cc3aec9", func := "milepost/milepostlaw15.PrioCuts", spec := "prioCuts", apart := false }
def PrioCutsSaid : Prop := prioCutsRow.holds Try.pinned (OpenSpec.ofChange prioCutsSpec)

/-- ITS FALSE NEIGHBOUR: 'it returns false'. Refute it at one input. -/
def prioCutsWrong : ChangeSpec := { name := "prioCuts", fn := fun _ => fun
  | [d1, d2] => { results := [.lit (.bool false)], args := [d1, d2] }
  | _ => none }
def PrioCutsWrongFalsely : Prop := prioCutsRow.holds Try.pinned (OpenSpec.ofChange prioCutsWrong)

/-- 'milepostlaw15.PrioBoth': WHATEVER THE INPUT: true; the input reads as it did. -/
def prioBothSpec : ChangeSpec := { name := "prioBoth", fn := fun _ => fun
  | [d1, d2, d3] => { results := [.lit (.bool true)], args := [d1, d2, d3] }
  | _ => none }
def prioBothRow : OpenClaim := { program := "ytegckdhomkdegaa", sum := "d1cea8b34714cf08bf3031e85098368b40c1c7ff1abba124d586ec7f5cc3aec9", func := "milepost/milepostlaw15.PrioBoth", spec := "prioBoth", apart := false }
def PrioBothSaid : Prop := prioBothRow.holds Try.pinned (OpenSpec.ofChange prioBothSpec)

/-- ITS FALSE NEIGHBOUR: 'it returns false'. Refute it at one input. -/
def prioBothWrong : ChangeSpec := { name := "prioBoth", fn := fun _ => fun
  | [d1, d2, d3] => { results := [.lit (.bool false)], args := [d1, d2, d3] }
  | _ => none }
def PrioBothWrongFalsely : Prop := prioBothRow.holds Try.pinned (OpenSpec.ofChange prioBothWrong)

/- THE SECOND FORM. 'bulk': how many values and letters a reading holds, each counted each time it is reached (what is shared counts as often as it is met; a slice's spare places count too). A statement '..UptoSaid' is the law's where the arguments, and the package variables that the reading takes, are together of bulk at most 1048576: NARROWER than '..Said'. Prove '..Said' where nothing that the law and all that it calls make is longer than what came in: it says more and counts as full. Else prove '..UptoSaid'. A law counts once. -/
mutual
def uptoBulk {H : Type} : DataW H → Nat
  | .lit (.string bytes) => bytes.length + 1
  | .lit _ => 1
  | .nil => 1
  | .ptr d => uptoBulk d + 1
  | .slice elems spare => uptoBulkAll elems + uptoBulkAll spare + 1
  | .agg parts => uptoBulkAll parts + 1
  | .iface _ d => uptoBulk d + 1
  | .map entries => uptoBulkEntries entries + 1
  | .held _ => 1
def uptoBulkAll {H : Type} : List (DataW H) → Nat
  | [] => 0
  | d :: r => uptoBulk d + uptoBulkAll r
def uptoBulkEntries {H : Type} : List (Lit × DataW H) → Nat
  | [] => 0
  | x :: r => uptoBulkEntry x + uptoBulkEntries r
def uptoBulkEntry {H : Type} : Lit × DataW H → Nat
  | (.string bytes, d) => bytes.length + uptoBulk d + 1
  | (_, d) => uptoBulk d + 1
 end
def uptoSmall : (H : Type) → List (DataW H) → Bool := fun _ ds => decide (uptoBulkAll ds ≤ 1048576)
def OpenSpec.upto (s : _root_.Go.ChangeSpec) : _root_.Go.OpenSpec := { _root_.Go.OpenSpec.ofChange s with cond := some uptoSmall }

/-- 'milepostlaw15.PrioKeys', WHERE WHAT IT READS IS OF BULK AT MOST 1048576: true; the input reads as it did. -/
def prioKeysUptoRow : OpenClaim := { program := "ytegckdhomkdegaa", sum := "d1cea8b34714cf08bf3031e85098368b40c1c7ff1abba124d586ec7f5cc3aec9", func := "milepost/milepostlaw15.PrioKeys", spec := "prioKeys", apart := false, narrowed := true }
def PrioKeysUptoSaid : Prop := prioKeysUptoRow.holds Try.pinned (OpenSpec.upto prioKeysSpec)

/-- 'milepostlaw15.PrioSteps', WHERE WHAT IT READS IS OF BULK AT MOST 1048576: true; the input reads as it did. -/
def prioStepsUptoRow : OpenClaim := { program := "ytegckdhomkdegaa", sum := "d1cea8b34714cf08bf3031e85098368b40c1c7ff1abba124d586ec7f5cc3aec9", func := "milepost/milepostlaw15.PrioSteps", spec := "prioSteps", apart := false, narrowed := true }
def PrioStepsUptoSaid : Prop := prioStepsUptoRow.holds Try.pinned (OpenSpec.upto prioStepsSpec)

/-- 'milepostlaw15.PrioVerts', WHERE WHAT IT READS IS OF BULK AT MOST 1048576: true; the input reads as it did. -/
def prioVertsUptoRow : OpenClaim := { program := "ytegckdhomkdegaa", sum := "d1cea8b34714cf08bf3031e85098368b40c1c7ff1abba124d586ec7f5cc3aec9", func := "milepost/milepostlaw15.PrioVerts", spec := "prioVerts", apart := false, narrowed := true }
def PrioVertsUptoSaid : Prop := prioVertsUptoRow.holds Try.pinned (OpenSpec.upto prioVertsSpec)

/-- 'milepostlaw15.PrioCuts', WHERE WHAT IT READS IS OF BULK AT MOST 1048576: true; the input reads as it did. -/
def prioCutsUptoRow : OpenClaim := { program := "ytegckdhomkdegaa", sum := "d1cea8b34714cf08bf3031e85098368b40c1c7ff1abba124d586ec7f5cc3aec9", func := "milepost/milepostlaw15.PrioCuts", spec := "prioCuts", apart := false, narrowed := true }
def PrioCutsUptoSaid : Prop := prioCutsUptoRow.holds Try.pinned (OpenSpec.upto prioCutsSpec)

/-- 'milepostlaw15.PrioBoth', WHERE WHAT IT READS IS OF BULK AT MOST 1048576: true; the input reads as it did. -/
def prioBothUptoRow : OpenClaim := { program := "ytegckdhomkdegaa", sum := "d1cea8b34714cf08bf3031e85098368b40c1c7ff1abba124d586ec7f5cc3aec9", func := "milepost/milepostlaw15.PrioBoth", spec := "prioBoth", apart := false, narrowed := true }
def PrioBothUptoSaid : Prop := prioBothUptoRow.holds Try.pinned (OpenSpec.upto prioBothSpec)

end Rows
end Go.Proofs.Ytegckdhomkdegaa
