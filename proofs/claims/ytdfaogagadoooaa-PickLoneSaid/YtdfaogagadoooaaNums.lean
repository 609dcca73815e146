/- Lists of numbers in memory. -/
import Derived.Test.YtdfaogagadoooaaBase
namespace Go.Proofs.Ytdfaogagadoooaa
open Go.RowKit
set_option linter.unusedSimpArgs false
set_option linter.unusedVariables false
set_option maxRecDepth 100000

def u64s (l : List Nat) : List Value := l.map fun (n : Nat) => Value.int .u64 (n : Int)
theorem u64s_length (l : List Nat) : (u64s l).length = l.length := by simp [u64s]
theorem u64s_at {w : World} {A : Option Addr} {l : List Nat} (h : At w w.heap.size A (u64s l)) {k : Nat} (hk : k < l.length) : ∃ ad, A = some ad ∧ w.cell? (ad.add k) = some (.int .u64 ((l.getD k 0 : Nat) : Int)) := by
  obtain ⟨ad, e, _, hc⟩ := At.get h (k := k) (by rw [u64s_length]; exact hk)
  exact ⟨ad, e, by rw [hc]; simp [u64s, List.getD, hk]⟩
end Go.Proofs.Ytdfaogagadoooaa
