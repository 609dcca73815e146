/- Numbers of 32 bits as cells. -/
import Derived.Test.YtdfaogagadoooaaBase
namespace Go.Proofs.Ytdfaogagadoooaa
open Go.RowKit
set_option linter.unusedSimpArgs false
set_option linter.unusedVariables false

def u32V (v : Nat) : Value := .int .u32 (v : Int)
def celU (l : List Nat) : List Value := l.map u32V
theorem celU_len (l : List Nat) : (celU l).length = l.length := by simp [celU]
theorem celU_get (l : List Nat) {j : Nat} {v : Nat} (h : l[j]? = some v) : (celU l)[j]? = some (.int .u32 (v : Int)) := by simp [celU, h, u32V]
theorem celU_one (l : List Nat) : ∀ u ∈ celU l, u.oneCell' = true := by
  intro u hu
  obtain ⟨_, _, rfl⟩ := List.mem_map.1 hu
  rfl
end Go.Proofs.Ytdfaogagadoooaa
