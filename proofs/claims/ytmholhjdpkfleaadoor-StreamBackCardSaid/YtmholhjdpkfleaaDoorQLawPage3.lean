/- The walk of PageSizes. -/
import Derived.Test.YtmholhjdpkfleaaDoorQLawPage2
import Derived.OwnWalk
namespace Go.Proofs.YtmholhjdpkfleaaDoor
open Go.RowKit
set_option linter.unusedSimpArgs false
set_option linter.unusedVariables false
set_option maxRecDepth 100000

theorem made_noughts (s : Nat) : (madeCells (Value.int .u8 0).cells (s * 1)).toList = cel (noughts s) := by
  rw [Nat.mul_one]
  apply List.ext_getElem?
  intro j
  by_cases hj : j < s
  · simp [madeCells, noughts, cel, hj, Value.cells, Nat.mod_one]
  · simp [madeCells, noughts, cel, hj, Value.cells]

end Go.Proofs.YtmholhjdpkfleaaDoor
