/- The reference of layer 7: milepostref07.Make, Open and Tag. -/
import Derived.Test.YtmholhjdpkfleaaDoorQLawPage
import Derived.Test.YtmholhjdpkfleaaDoorQOctetRows
import Derived.Test.YtmholhjdpkfleaaDoorQBase
namespace Go.Proofs.YtmholhjdpkfleaaDoor
open Go.RowKit
set_option linter.unusedSimpArgs false
set_option linter.unusedVariables false
set_option maxRecDepth 100000

def lenV : Value → Nat
  | .slice _ n _ => n
  | _ => 0
theorem sz4 (l : List UInt8) (x : Nat) : (l ++ if isSz 4 then nb (4 : Int).toNat x else []) = l ++ nb 4 x := rfl
theorem noughts_succ (k : Nat) : noughts (k + 1) = noughts k ++ [0] := by simp [noughts, List.replicate_succ']

end Go.Proofs.YtmholhjdpkfleaaDoor
