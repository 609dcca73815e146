/- The contracts of package milepostref03. -/
import Derived.Test.YtbalejfloieiiaaDoorProg
import Derived.Test.YtbalejfloieiiaaDoorBase
import Derived.Test.YtbalejfloieiiaaDoorWeightMath
namespace Go.Proofs.YtbalejfloieiiaaDoor
open Go.RowKit
set_option linter.unusedSimpArgs false
set_option linter.unusedVariables false
set_option maxRecDepth 100000

theorem refFits_any (n m : Nat) (hn : n < 4294967296) (hm : m < 18446744073709551616) (w : World) :
    Calls Tryd.prog 36 #[.int .u32 n, .int .u64 m] w fun e w' => e = .returned (.bool (fitB n m)) ∧ w = w' := by
  by_cases h0 : n = 0
  · subst h0
    have e1 : fitB 0 m = true := by simp [fitB, far]
    rw [e1]
    clear e1
    go_enter Tryd.func36, Tryd.ntmps36
    go_wp2
    go_ret
    exact ⟨rfl, rfl⟩
  · have h1 : (0 : Int) < (n : Int) := by omega
    have h2 : ¬ (n : Int) = 0 := by omega
    have e1 : fitB n m = decide ((m : Int) ≤ (9223372036854775807 : Int) / (n : Int)) := by
      unfold fitB far
      rw [decide_eq_decide, Int.le_ediv_iff_mul_le h1]
      rw [show ((m : Int) * (n : Int)) = ((n * m : Nat) : Int) by rw [Nat.mul_comm]; simp]
      omega
    rw [e1]
    have hd : (9223372036854775807 : Int) / (n : Int) ≤ 9223372036854775807 := Int.ediv_le_self _ (by omega)
    have hd0 : 0 ≤ (9223372036854775807 : Int) / (n : Int) := Int.ediv_nonneg (by omega) (by omega)
    have h3 : ((n : Int) == 0) = false := by simp; omega
    clear e1 h0
    go_enter Tryd.func36, Tryd.ntmps36
    go_wp2
    go_ret
    exact ⟨rfl, rfl⟩

theorem refBetter_any (t h x m t' h' x' m' : Nat) (hx : x < 18446744073709551616) (hm : m < 4294967296) (hx' : x' < 18446744073709551616) (hm' : m' < 4294967296) (w : World) :
    Calls Tryd.prog 51 #[.agg #[.int .u32 t, .int .u32 h, .int .u64 x, .int .u32 m], .agg #[.int .u32 t', .int .u32 h', .int .u64 x', .int .u32 m']] w fun e w' => e = .returned (.bool (betB x m x' m')) ∧ Keeps w w' := by
  have k0 := fun a b => keeps_trans (keeps_alloc w a) (keeps_alloc (w.alloc a) b)
  by_cases h1 : x < x'
  · have e1 : betB x m x' m' = true := by simp [betB, h1]
    rw [e1]
    clear e1
    go_enter Tryd.func51, Tryd.ntmps51
    go_wp2
    go_ret
    exact ⟨rfl, k0 _ _⟩
  · by_cases h2 : x = x'
    · subst h2
      have e1 : betB x m x m' = decide (((m : Int) + 1) % 4294967296 < ((m' : Int) + 1) % 4294967296) := by
        have e : (mid1 m < mid1 m') ↔ (((m : Int) + 1) % 4294967296 < ((m' : Int) + 1) % 4294967296) := by unfold mid1; omega
        simp [betB, e]
      rw [e1]
      clear e1
      go_enter Tryd.func51, Tryd.ntmps51
      go_wp2
      go_ret
      exact ⟨rfl, k0 _ _⟩
    · have e1 : betB x m x' m' = false := by simp [betB, h1, h2]
      have h3 : ((x : Int) == (x' : Int)) = false := by simp; omega
      rw [e1]
      clear e1
      go_enter Tryd.func51, Tryd.ntmps51
      go_wp2
      go_ret
      exact ⟨rfl, k0 _ _⟩
end Go.Proofs.YtbalejfloieiiaaDoor
