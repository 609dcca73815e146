/- A string as a list of bytes. -/
import Derived.Test.YtmholhjdpkfleaaDoorQBase
import Derived.Test.YtmholhjdpkfleaaDoorQFrame
import Derived.Test.YtmholhjdpkfleaaDoorQLawDisk
import Derived.Test.YtmholhjdpkfleaaDoorQLawDisk6
namespace Go.Proofs.YtmholhjdpkfleaaDoor
open Go.RowKit
theorem str8_is (a : ByteArray) (h : a.size ≤ maxLen) : ∃ l : List UInt8, a = str l ∧ l.length ≤ maxLen := ⟨a.data.toList, rfl, by simpa using h⟩
end Go.Proofs.YtmholhjdpkfleaaDoor
/- A slice of int, opened. -/
namespace Go.Proofs.YtmholhjdpkfleaaDoor
open Go.RowKit
open Go.ChangeShapes Go.WideShapes Go.ChangeAt
set_option linter.unusedVariables false
set_option maxRecDepth 100000
set_option linter.unusedSimpArgs false

theorem flat_int : flat Tryd.prog 6 3 = some [3] := by kernel_rfl
theorem cells_int : Tryd.prog.cellsOf 3 = [3].length := by kernel_rfl
end Go.Proofs.YtmholhjdpkfleaaDoor
/- Arguments of type milepostlaw06.Op, and slices of such, opened. -/
namespace Go.Proofs.YtmholhjdpkfleaaDoor
open Go.RowKit
open Go.ChangeShapes Go.WideShapes Go.ChangeAt Go.Deep
set_option linter.unusedVariables false
set_option maxRecDepth 100000
set_option linter.unusedSimpArgs false

section
variable {H : Type} {enc : TypeId × Value → H} {W : World}
abbrev LeafT (enc : TypeId × Value → H) (W : World) (T : TypeId) (c : Value) : Prop := Leaf enc Tryd.prog W 0 (fun _ => true) true T c
theorem leaf_str {c : Value} (h : LeafT enc W 9 c) : ∃ s : List UInt8, c = strV s ∧ s.length ≤ maxLen := by
  obtain ⟨n, y, h⟩ := h
  obtain ⟨s, e, -, h2⟩ := DataW.trod_string Tryd.underlying9 h
  simp only [List.cons.injEq, and_true] at e
  exact ⟨s.data.toList, by rw [e]; rfl, by simpa using h2⟩
theorem leaf_slice {T E : TypeId} (hT : Tryd.prog.underlying T = some (.slice E)) {c : Value} (h : LeafT enc W T c) : ∃ A n k, c = .slice A n k := by
  obtain ⟨m, y, h⟩ := h
  rcases open_slice hT h with ⟨hcs, _⟩ | ⟨a, len, cap, m', n', D, Pl, hcs, _⟩
  · simp only [List.cons.injEq, and_true] at hcs
    exact ⟨_, _, _, hcs⟩
  · simp only [List.cons.injEq, and_true] at hcs
    exact ⟨_, _, _, hcs⟩
end
end Go.Proofs.YtmholhjdpkfleaaDoor
