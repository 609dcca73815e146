/- Slices of slices, whatever the capacity. -/
import Derived.Test.YtiohijkelagloaaDoorBase
namespace Go.Proofs.YtiohijkelagloaaDoor
open Go.RowKit
set_option linter.unusedSimpArgs false
set_option linter.unusedVariables false

/-- the address of b[k:] -/
def dropA (A : Option Addr) (c k : Nat) : Option Addr := if c = k then A else A.map (·.add k)
theorem Bs.dropA {w : World} {A : Option Addr} {l : List UInt8} (h : Bs w A l) {n c k : Nat} (hn : n = l.length) (hc : n ≤ c) : Bs w (dropA A c k) (l.drop k) := by
  unfold Proofs.YtiohijkelagloaaDoor.dropA
  by_cases e : c = k
  · rw [if_pos e, List.drop_of_length_le (by omega)]
    exact Bs.nil _ _
  · rw [if_neg e]
    rcases A with _ | ad
    · rcases l with _ | ⟨b, l⟩
      · simpa using Bs.nil _ _
      · obtain ⟨ad, e, _⟩ := h.at_ (k := 0) (by simp)
        cases e
    · exact h.drop k
section
variable {P : Program}
theorem run_from (t e : TypeId) (ht : P.underlying t = some (.slice e)) (he : (P.info? e).map (·.size) = some 1) (A : Option Addr) (n c k : Nat) (hk : k ≤ n) (w : World) :
    (Instr.sliceAt t (.slice A n c) (some (.int .i64 (k : Int))) none none).run P w = .ok (.slice (dropA A c k) (n - k) (c - k)) w := by
  have he' : P.elem t = e := by simp [Program.elem, ht]
  have ht' : P.underlying t = some (.slice (P.elem t)) := by rw [he']; exact ht
  obtain ⟨i, hi, hs⟩ := Option.map_eq_some_iff.1 he
  rw [run_sliceAt_slice (h := ht'), run_slice_l (ht := ht') (h0 := by omega) (h1 := by omega)]
  rw [he']
  simp [sizeOf, typeInfo, hi, hs, sliced, dropA]
end
section
variable {P : Program}
theorem run_lohi (t e : TypeId) (ht : P.underlying t = some (.slice e)) (he : (P.info? e).map (·.size) = some 1) (A : Option Addr) (n c i k : Nat) (hi : i ≤ k) (hk : k ≤ c) (w : World) :
    (Instr.sliceAt t (.slice A n c) (some (.int .i64 (i : Int))) (some (.int .i64 (k : Int))) none).run P w = .ok (.slice (dropA A c i) (k - i) (c - i)) w := by
  have he' : P.elem t = e := by simp [Program.elem, ht]
  have ht' : P.underlying t = some (.slice (P.elem t)) := by rw [he']; exact ht
  obtain ⟨y, hy, hs⟩ := Option.map_eq_some_iff.1 he
  rw [run_sliceAt_slice (h := ht'), run_slice_lh (ht := ht') (h0 := by omega) (h1 := by omega) (h2 := by omega)]
  rw [he']
  simp [sizeOf, typeInfo, hy, hs, sliced, dropA]
end
end Go.Proofs.YtiohijkelagloaaDoor
