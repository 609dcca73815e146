/- A file's bytes among files. -/
import Derived.Test.YtamboappeahgpaaGreatDoorQLawDisk
import Derived.Test.YtamboappeahgpaaGreatDoorQLawDisk6
import Derived.Test.YtamboappeahgpaaGreatDoorQDiskApart
namespace Go.Proofs.YtamboappeahgpaaGreatDoor
open Go.RowKit
set_option linter.unusedSimpArgs false
set_option linter.unusedVariables false
set_option maxRecDepth 100000

def lookF (l : List (List UInt8 × List UInt8)) (nm : List UInt8) : Option (List UInt8) := (l.find? fun p => decide (p.1 = nm)).map Prod.snd
theorem FilesAt.keep {w w' : World} {base : Nat} {v : Value} {l : List (List UInt8 × List UInt8)} (h : FilesAt w base v l) (k : Keeps w w') : FilesAt w' base v l := by
  obtain ⟨vs, h1, h2, h3⟩ := h
  exact ⟨vs, h1, h2.keep k, fun i b x hi hx => (h3 i b x hi hx).keep k⟩
/-- what fileOf tells -/
def LookV (w : World) (base : Nat) (r : Option (List UInt8)) (e : Ending) (w' : World) : Prop :=
  Keeps w w' ∧ match r with
  | some b => ∃ A c, e = .returned (.tuple #[.slice A b.length c, .bool true]) ∧ Own w' base 5 1 (.slice A b.length c) b.length (cel b)
  | none => e = .returned (.tuple #[.slice none 0 0, .bool false])
theorem str_eq (a b : List UInt8) : ((str a).toList == (str b).toList) = decide (a = b) := by
  rw [str_toList, str_toList]
  by_cases h : a = b <;> simp [h]
end Go.Proofs.YtamboappeahgpaaGreatDoor
/- The loose sectors of a file counted; files compared. -/
namespace Go.Proofs.YtamboappeahgpaaGreatDoor
open Go.RowKit
set_option linter.unusedSimpArgs false
set_option linter.unusedVariables false
set_option maxRecDepth 100000

def cntN (l : List (List UInt8 × Nat)) (nm : List UInt8) : Nat := (l.filter fun p => decide (p.1 = nm)).length
end Go.Proofs.YtamboappeahgpaaGreatDoor
