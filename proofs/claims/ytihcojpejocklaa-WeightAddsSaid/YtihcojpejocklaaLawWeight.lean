/- The walks of layer 3's statements, from the contracts of weight.Add, weight.Fits and weight.Better. -/
import Derived.Test.YtihcojpejocklaaRefWeight
import Derived.Deep.RegionHeld3
namespace Go.Proofs.Ytihcojpejocklaa
open Go.RowKit
set_option linter.unusedSimpArgs false
set_option linter.unusedVariables false
set_option maxRecDepth 100000

/-- What a law leaves. -/
def Yes (w : World) (e : Ending) (w' : World) : Prop := e = .returned (.bool true) ∧ Keeps w w'
/-- What the calls of package weight answer. -/
structure WeightOk : Prop where
  add : ∀ (a b : Nat), a < 18446744073709551616 → b < 18446744073709551616 → ∀ w : World,
    Calls Try.prog 11 #[.int .u64 a, .int .u64 b] w fun e w' => e = .returned (.tuple #[.int .u64 (addV a b), .bool (addB a b)]) ∧ Keeps w w'
  fits : ∀ (n m : Nat), n < 4294967296 → m < 18446744073709551616 → ∀ w : World,
    Calls Try.prog 13 #[.int .u32 n, .int .u64 m] w fun e w' => e = .returned (.bool (fitB n m)) ∧ Keeps w w'
  better : ∀ (t h x m t' h' x' m' : Nat), t < 4294967296 → h < 4294967296 → x < 18446744073709551616 → m < 4294967296 → t' < 4294967296 → h' < 4294967296 → x' < 18446744073709551616 → m' < 4294967296 → ∀ w : World,
    Calls Try.prog 16 #[.agg #[.int .u32 t, .int .u32 h, .int .u64 x, .int .u32 m], .agg #[.int .u32 t', .int .u32 h', .int .u64 x', .int .u32 m']] w fun e w' => e = .returned (.bool (betB x m x' m')) ∧ Keeps w w'

theorem works_weight (K : WeightOk) (w : World) : Calls Try.prog 15 #[] w (Yes w) := by
  have A1 := Lib.hid (K.add 1 2 (by decide) (by decide))
  have A2 := Lib.hid (K.add 9223372036854775807 1 (by decide) (by decide))
  have F1 := Lib.hid (K.fits 2 4611686018427387904 (by decide) (by decide))
  have B1 := Lib.hid (K.better 0 0 3 4294967295 0 0 3 0 (by decide) (by decide) (by decide) (by decide) (by decide) (by decide) (by decide) (by decide))
  rw [show addV 1 2 = 3 by decide, show addB 1 2 = true by decide] at A1
  rw [show addV 9223372036854775807 1 = 0 by decide, show addB 9223372036854775807 1 = false by decide] at A2
  rw [show fitB 2 4611686018427387904 = false by decide] at F1
  rw [show betB 3 4294967295 3 0 = true by decide] at B1
  go_enter Try.func15, Try.ntmps15
  go_wp2_with fail
  refine (A1.out _).mono ?_
  rintro e w1 ⟨rfl, k1⟩
  go_wp2_with fail
  refine (A2.out _).mono ?_
  rintro e w2 ⟨rfl, k2⟩
  go_wp2_with fail
  refine (F1.out _).mono ?_
  rintro e w3 ⟨rfl, k3⟩
  go_wp2_with fail
  refine (B1.out _).mono ?_
  rintro e w4 ⟨rfl, k4⟩
  go_wp2_with fail
  go_ret
  exact ⟨rfl, keeps_trans k1 (keeps_trans k2 (keeps_trans k3 k4))⟩

theorem adds_walk (K : WeightOk) (a b n : Nat) (ha : a < 18446744073709551616) (hb : b < 18446744073709551616) (hn : n < 4294967296) (w : World) :
    Calls Try.prog 3 #[.int .u64 a, .int .u64 b, .int .u32 n] w (Yes w) := by
  have A1 := Lib.hid (K.add a b ha hb)
  have A2 := Lib.hid (fun w => refAdd_any a b ha hb w)
  have F1 := Lib.hid (K.fits n a hn ha)
  have F2 := Lib.hid (fun w => refFits_any n a hn ha w)
  have WW := Lib.hid (fun W => works_weight K W)
  generalize addV a b = s at *
  generalize addB a b = t at *
  generalize fitB n a = f at *
  go_enter Try.func3, Try.ntmps3
  go_wp2_with fail
  refine (A1.out _).mono ?_
  rintro e w1 ⟨rfl, k1⟩
  go_wp2_with fail
  refine (A2.out _).mono ?_
  rintro e w' ⟨rfl, rfl⟩
  go_wp2_with fail
  refine (F1.out _).mono ?_
  rintro e w2 ⟨rfl, k2⟩
  go_wp2_with fail
  refine (F2.out _).mono ?_
  rintro e w' ⟨rfl, rfl⟩
  go_wp2_with fail
  refine (WW.out _).mono ?_
  rintro e w3 ⟨rfl, k3⟩
  go_wp2_with fail
  go_ret
  exact ⟨rfl, keeps_trans k1 (keeps_trans k2 k3)⟩

theorem less_walk (K : WeightOk) (n m a b : Nat) (hn : n < 4294967296) (hm : m < 4294967296) (ha : a < 18446744073709551616) (hb : b < 18446744073709551616) (w : World) :
    Calls Try.prog 9 #[.agg #[.int .u32 n, .int .u32 m, .int .u64 a, .int .u64 b]] w (Yes w) := by
  have WW := Lib.hid (fun W => works_weight K W)
  by_cases h : n < m ∨ a < b
  · by_cases h1 : n < m
    · clear h
      go_enter Try.func9, Try.ntmps9
      go_wp2_with fail
      refine (WW.out _).mono ?_
      rintro e w1 ⟨rfl, k1⟩
      go_wp2_with fail
      go_ret
      exact ⟨rfl, keeps_trans (keeps_alloc _ _) k1⟩
    · have h2 : a < b := by omega
      clear h
      go_enter Try.func9, Try.ntmps9
      go_wp2_with fail
      refine (WW.out _).mono ?_
      rintro e w1 ⟨rfl, k1⟩
      go_wp2_with fail
      go_ret
      exact ⟨rfl, keeps_trans (keeps_alloc _ _) k1⟩
  · have h1 : m ≤ n := by omega
    have h2 : b ≤ a := by omega
    have F1 := Lib.hid (K.fits n a hn ha)
    have F2 := Lib.hid (K.fits m b hm hb)
    have F3 := Lib.hid (K.fits 0 a (by decide) ha)
    have F4 := Lib.hid (K.fits n 0 hn (by decide))
    rw [show fitB 0 a = true by simp [fitB, far]] at F3
    rw [show fitB n 0 = true by simp [fitB, far]] at F4
    have himp : fitB n a = true → fitB m b = true := by
      simp only [fitB, decide_eq_true_eq]
      intro h
      exact Nat.lt_of_le_of_lt (Nat.mul_le_mul h1 h2) h
    have HI := Lib.hid himp
    clear h himp
    generalize fitB n a = f at *
    generalize fitB m b = g at *
    cases f
    · go_enter Try.func9, Try.ntmps9
      go_wp2_with fail
      refine (F1.out _).mono ?_
      rintro e w1 ⟨rfl, k1⟩
      go_wp2_with fail
      refine (F3.out _).mono ?_
      rintro e w2 ⟨rfl, k2⟩
      go_wp2_with fail
      refine (F4.out _).mono ?_
      rintro e w3 ⟨rfl, k3⟩
      go_wp2_with fail
      refine (WW.out _).mono ?_
      rintro e w4 ⟨rfl, k4⟩
      go_wp2_with fail
      go_ret
      exact ⟨rfl, keeps_trans (keeps_alloc _ _) (keeps_trans k1 (keeps_trans k2 (keeps_trans k3 k4)))⟩
    · obtain rfl : g = true := HI.out rfl
      go_enter Try.func9, Try.ntmps9
      go_wp2_with fail
      refine (F1.out _).mono ?_
      rintro e w1 ⟨rfl, k1⟩
      go_wp2_with fail
      refine (F2.out _).mono ?_
      rintro e w1' ⟨rfl, k1'⟩
      go_wp2_with fail
      refine (F3.out _).mono ?_
      rintro e w2 ⟨rfl, k2⟩
      go_wp2_with fail
      refine (F4.out _).mono ?_
      rintro e w3 ⟨rfl, k3⟩
      go_wp2_with fail
      refine (WW.out _).mono ?_
      rintro e w4 ⟨rfl, k4⟩
      go_wp2_with fail
      go_ret
      exact ⟨rfl, keeps_trans (keeps_alloc _ _) (keeps_trans k1 (keeps_trans k1' (keeps_trans k2 (keeps_trans k3 k4))))⟩
end Go.Proofs.Ytihcojpejocklaa
