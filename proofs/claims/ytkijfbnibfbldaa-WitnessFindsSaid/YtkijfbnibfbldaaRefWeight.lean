/- The contracts of package milepostref03. -/
import Derived.Test.YtkijfbnibfbldaaProg
import Derived.Test.YtkijfbnibfbldaaBase
import Derived.Test.YtkijfbnibfbldaaWeightMath
namespace Go.Proofs.Ytkijfbnibfbldaa
open Go.RowKit
set_option linter.unusedSimpArgs false
set_option linter.unusedVariables false
set_option maxRecDepth 100000

theorem refAdd_any (a b : Nat) (ha : a < 18446744073709551616) (hb : b < 18446744073709551616) (w : World) :
    Calls Try.prog 28 #[.int .u64 a, .int .u64 b] w fun e w' => e = .returned (.tuple #[.int .u64 (addV a b), .bool (addB a b)]) ∧ w = w' := by
  by_cases h : a + b < far
  · have e1 : addB a b = true := by simp [addB, h]
    have e2 := addV_true e1
    unfold far at h
    rw [e1, e2]
    have h1 : decide ((9223372036854775808 : Int) ≤ (a : Int)) = false := decide_eq_false (by omega)
    have h2 : decide ((9223372036854775808 : Int) - (a : Int) ≤ (b : Int)) = false := decide_eq_false (by omega)
    have h3 : (a : Int) + (b : Int) ≤ 18446744073709551615 := by omega
    have h4 : IntKind.u64.wrap ((9223372036854775808 : Int) - (a : Int)) = (9223372036854775808 : Int) - (a : Int) := IntWalk.u64_in _ (by omega)
    clear e1 e2 h
    go_enter Try.func28, Try.ntmps28
    go_wp2
    go_ret2
    exact ⟨rfl, rfl⟩
  · have e1 : addB a b = false := by simp [addB, h]
    have e2 := addV_false e1
    unfold far at h
    rw [e1, e2]
    have h3 : (9223372036854775808 : Int) ≤ (a : Int) + (b : Int) := by omega
    clear e1 e2 h
    by_cases h1 : (9223372036854775808 : Int) ≤ (a : Int)
    · go_enter Try.func28, Try.ntmps28
      go_wp2
      go_ret2
      exact ⟨rfl, rfl⟩
    · have h2 : (9223372036854775808 : Int) - (a : Int) ≤ (b : Int) := by omega
      go_enter Try.func28, Try.ntmps28
      go_wp2
      go_ret2
      exact ⟨rfl, rfl⟩

end Go.Proofs.Ytkijfbnibfbldaa
