/- DiskQuota. -/
import Derived.Test.YtjfnpfojboellaaGreatLawDisk11
namespace Go.Proofs.YtjfnpfojboellaaGreat
open Go.RowKit
set_option linter.unusedSimpArgs false
set_option linter.unusedVariables false
set_option maxRecDepth 100000

theorem FilesAt.turn {w w' : World} {base : Nat} {v : Value} {l : List (List UInt8 × List UInt8)} {F F' : Nat → Prop} (h : FilesAt w base v l) (ht : Turns w w' F F') (hF : ∀ i, F i → i < base) : FilesAt w' base v l := by
  obtain ⟨vs, h1, h2, h3⟩ := h
  exact ⟨vs, h1, h2.turns ht (fun k hk hf => by have := (h2.lt k hk).1; have := hF k hf; omega), fun i b x hi hx => (h3 i b x hi hx).turns ht (fun k hk hf => by have := ((h3 i b x hi hx).lt k hk).1; have := hF k hf; omega)⟩
theorem FilesAt.few {w : World} {base : Nat} {v : Value} {l : List (List UInt8 × List UInt8)} (h : FilesAt w base v l) : l.length ≤ 9223372036854775807 := by
  obtain ⟨vs, h1, h2, h3⟩ := h
  obtain ⟨A, c, _, hc, hm, _⟩ := h2.form
  unfold maxLen at hm
  omega
def flsOf (s : Ds) : List (List UInt8 × List UInt8) := s.l.map fun f => (f.name, f.now)
end Go.Proofs.YtjfnpfojboellaaGreat
