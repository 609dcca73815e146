/- The library's variable errors.errorType, as a row that lists it says it. -/
import Derived.Test.YtbalejfloieiiaaDoorRows
import Derived.Test.YtbalejfloieiiaaDoorBase
import Derived.LaidLaws
import Derived.LaidHandle
namespace Go.Proofs.YtbalejfloieiiaaDoor
open Go.RowKit
set_option linter.unusedVariables false
set_option maxRecDepth 100000

/-- the variable holds the handle of the type error -/
def Handle (w : World) : Prop := w.cell? ⟨0, 0, none⟩ = some (.iface 139 (.agg #[typeHandle Tryd.prog 60]))
theorem Handle.keep {w w' : World} (h : Handle w) (k : Keeps w w') : Handle w' := k.cellOf h
theorem hd_var : Tryd.prog.globalNamed "errors.errorType" = some 0 := by kernel_rfl
theorem hd_rtype : (Tryd.prog.cutTypes.find? (·.1 == "internal/reflectlite.rtype")).map (·.2) = some 139 := by kernel_rfl
theorem hd_one : ((List.range Tryd.prog.types.size).filter fun t => Tryd.prog.rowNamed t [101, 114, 114, 111, 114]) = [60] := by kernel_rfl
theorem handle_of {W : World} (h : handlesMet Tryd.prog [("errors.errorType", Rows.laid_errors_errorType)] W) : Handle W := by
  obtain ⟨name, u, ty, e1, e2, e3, e4, e5⟩ := h _ (List.mem_singleton.2 rfl)
  have en : name = [101, 114, 114, 111, 114] := (Option.some.inj e1).symm
  subst en
  obtain rfl := Option.some.inj (hd_rtype.symm.trans e2)
  have hm : ty ∈ (List.range Tryd.prog.types.size).filter fun t => Tryd.prog.rowNamed t [101, 114, 114, 111, 114] := List.mem_filter.2 ⟨List.mem_range.2 e3, e4⟩
  rw [hd_one] at hm
  obtain rfl := List.mem_singleton.1 hm
  have := World.var?_cell hd_var e5 0
  exact this
end Go.Proofs.YtbalejfloieiiaaDoor
