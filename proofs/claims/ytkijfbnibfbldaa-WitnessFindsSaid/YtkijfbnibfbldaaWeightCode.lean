/- What Add, Fits and Better of the landed package weight answer. -/
import Derived.Test.YtkijfbnibfbldaaProg
import Derived.Test.YtkijfbnibfbldaaWeightMath
import Derived.Test.YtkijfbnibfbldaaBox
import Derived.Lib.Mul64
import Derived.Laws.Bits64b
import Derived.Laws.Externs
namespace Go.Proofs.Ytkijfbnibfbldaa
open Go.RowKit
set_option linter.unusedSimpArgs false
set_option linter.unusedVariables false
set_option maxRecDepth 100000

/-! ### Sums with a carry -/
theorem run_add64n (x y : Nat) (w : World) : (callFunc 47 #[.int .u64 x, .int .u64 y, .int .u64 0]).run Try.prog w =
    .ok (.value (.tuple #[.int .u64 (((x + y) % 18446744073709551616 : Nat) : Int), .int .u64 (((x + y) / 18446744073709551616 : Nat) : Int)])) w := by
  rw [run_callFunc_extern Try.func47 (by kernel_rfl) (by kernel_rfl) (by kernel_rfl) (e := add64Entry) (by kernel_rfl), run_add64 x y 0 (by omega) (by omega) (by omega) (by omega)]
  simp only [Result.andThen]
  congr 5 <;> omega

theorem wadd_any (a b : Nat) (ha : a < 18446744073709551616) (hb : b < 18446744073709551616) (w : World) :
    Calls Try.prog 40 #[.int .u64 a, .int .u64 b] w fun e w' => e = .returned (.tuple #[.int .u64 (addV a b), .bool (addB a b)]) ∧ w = w' := by
  have E := run_add64n a b
  by_cases h : a + b < far
  · have e1 : addB a b = true := by simp [addB, h]
    have e2 := addV_true e1
    unfold far at h
    rw [e1, e2]
    rw [show (a + b) % 18446744073709551616 = a + b by omega, show (a + b) / 18446744073709551616 = 0 by omega] at E
    generalize a + b = s at *
    have h1 : decide ((9223372036854775808 : Int) ≤ (s : Int)) = false := decide_eq_false (by omega)
    clear e1 e2 h
    go_enter Try.func40, Try.ntmps40
    go_wp2_with (simp only [E])
    go_ret2
    exact ⟨rfl, rfl⟩
  · have e1 : addB a b = false := by simp [addB, h]
    have e2 := addV_false e1
    unfold far at h
    rw [e1, e2]
    clear e1 e2
    by_cases hc : a + b < 18446744073709551616
    · rw [show (a + b) % 18446744073709551616 = a + b by omega, show (a + b) / 18446744073709551616 = 0 by omega] at E
      generalize a + b = s at *
      have h1 : decide ((9223372036854775808 : Int) ≤ (s : Int)) = true := decide_eq_true (by omega)
      clear h hc
      go_enter Try.func40, Try.ntmps40
      go_wp2_with (simp only [E])
      go_ret2
      exact ⟨rfl, rfl⟩
    · rw [show (a + b) / 18446744073709551616 = 1 by omega] at E
      generalize (a + b) % 18446744073709551616 = s at *
      clear h hc
      go_enter Try.func40, Try.ntmps40
      go_wp2_with (simp only [E])
      go_ret2
      exact ⟨rfl, rfl⟩

/-! ### Products of two words: the halves -/
theorem maskN (a : Nat) (ha : a < 18446744073709551616) : bits .and .u64 (a : Int) 4294967295 = ((a % 4294967296 : Nat) : Int) := by
  have h := bits_and_u64_nat a 4294967295 ha (by omega)
  have e : a &&& 4294967295 = a % 4294967296 := Nat.and_two_pow_sub_one_eq_mod a 32
  rw [e] at h
  exact h
theorem divN (a : Nat) : (a : Int) / 4294967296 = ((a / 4294967296 : Nat) : Int) := by omega
theorem mulN (a b : Nat) : (a : Int) * (b : Int) = ((a * b : Nat) : Int) := (Int.natCast_mul a b).symm
theorem addN (a b : Nat) : (a : Int) + (b : Int) = ((a + b : Nat) : Int) := (Int.natCast_add a b).symm
theorem wrapN (a : Nat) (ha : a < 18446744073709551616) : IntKind.u64.wrap (a : Int) = (a : Int) := by rw [IntKind.wrap_u64]; omega
theorem wrapM (a : Nat) : IntKind.u64.wrap (a : Int) = ((a % 18446744073709551616 : Nat) : Int) := by rw [IntKind.wrap_u64]; omega

/-! ### What tells two edges apart -/
def ahead (x y m n : Nat) : Bool := decide (x < y) || (decide (x = y) && decide (m < n))
theorem box_third (w : World) (a b : Obj) (t : TypeId) (cs : Array Value) : Box (((w.alloc a).alloc b).alloc (.cells cs t)) (w.heap.size + 1 + 1) t cs := by
  have h := Box.new ((w.alloc a).alloc b) t cs
  simpa using h
end Go.Proofs.Ytkijfbnibfbldaa
