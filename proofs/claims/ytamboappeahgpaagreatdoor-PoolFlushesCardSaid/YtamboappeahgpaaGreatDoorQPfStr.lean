/- A string as a list of bytes. -/
import Derived.Test.YtamboappeahgpaaGreatDoorQBase
namespace Go.Proofs.YtamboappeahgpaaGreatDoor
open Go.RowKit
theorem str8_is (a : ByteArray) (h : a.size ≤ maxLen) : ∃ l : List UInt8, a = str l ∧ l.length ≤ maxLen := ⟨a.data.toList, rfl, by simpa using h⟩
end Go.Proofs.YtamboappeahgpaaGreatDoor
