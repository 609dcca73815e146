/- What is kept of a vertex. -/
import Derived.Test.YtegckdhomkdegaaBase
namespace Go.Proofs.Ytegckdhomkdegaa
open Go.RowKit
set_option linter.unusedVariables false

/-! ### what is kept of a vertex -/
structure Vt where
  r : Nat
  l : Nat
  g : Nat
structure VtOk (x : Vt) : Prop where
  r : x.r < 4294967296
  l : x.l < 4294967296
  g : x.g < 4294967296
def vtC (x : Vt) : List Value := [.int .u32 (x.r : Int), .int .u32 (x.l : Int), .int .u32 (x.g : Int)]
theorem vtC_length (x : Vt) : (vtC x).length = 3 := rfl
end Go.Proofs.Ytegckdhomkdegaa
