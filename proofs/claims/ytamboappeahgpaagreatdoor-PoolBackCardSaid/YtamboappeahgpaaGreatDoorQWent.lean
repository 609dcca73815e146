/- A call of a disk, and its turn: what is known before and behind. -/
import Derived.Test.YtamboappeahgpaaGreatDoorQLawDisk
import Derived.Test.YtamboappeahgpaaGreatDoorQOctet
namespace Go.Proofs.YtamboappeahgpaaGreatDoor
open Go.RowKit
set_option linter.unusedSimpArgs false
set_option linter.unusedVariables false
set_option maxRecDepth 100000

theorem sizes_have {K : DiskOk} {w0 w : World} {b : Nat} {F : Nat → Prop} {s : Ds} (hS : Sizes w0) (h : Have K w0 w b F s) : Sizes w := hS.keep h.kp

section
variable {K : DiskOk} {w0 w : World} {b : Nat} {F : Nat → Prop} {s : Ds}
/-- an error, and the disk's turn -/
def WentU (K : DiskOk) (w0 w : World) (b : Nat) (F : Nat → Prop) (s' : Ds) (E : Nat) (e : Ending) (w' : World) : Prop := e = .returned (.int .i64 (E : Int)) ∧ ∃ F', Have K w0 w' b F' s' ∧ Turns w w' F F'
theorem Have.went (h : Have K w0 w b F s) {fn : FuncId} {args : Array Value} {r : Ds × Nat} {s' : Ds} {E : Nat} (hr : r = (s', E))
    (c : Calls Tryz.prog fn args w fun e w' => e = .returned (.int .i64 (r.2 : Int)) ∧ ∃ F', K.D w' b F' r.1 ∧ Turns w w' F F') : Calls Tryz.prog fn args w (WentU K w0 w b F s' E) := by
  subst hr
  exact c.mono fun e w' q => by obtain ⟨he, F', hD, ht⟩ := q; exact ⟨he, F', h.step hD ht, ht⟩
theorem went_keep {w' : World} {E : Nat} (h : Have K w0 w b F s) (k : Keeps w w') : WentU K w0 w b F s E (.returned (.int .i64 (E : Int))) w' := ⟨rfl, F, h.keep k, Turns.of_keeps k⟩
end
end Go.Proofs.YtamboappeahgpaaGreatDoor
