/- The contracts of package milepostref04: Less and Pop. -/
import Derived.Test.YtkijfbnibfbldaaRefHeap
import Derived.Deep.Light
namespace Go.Proofs.Ytkijfbnibfbldaa
open Go.RowKit
set_option linter.unusedSimpArgs false
set_option linter.unusedVariables false
set_option maxRecDepth 100000

end Go.Proofs.Ytkijfbnibfbldaa
