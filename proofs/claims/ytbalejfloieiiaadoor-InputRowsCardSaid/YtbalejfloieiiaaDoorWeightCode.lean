/- What Add, Fits and Better of the landed package weight answer. -/
import Derived.Test.YtbalejfloieiiaaDoorProg
import Derived.Test.YtbalejfloieiiaaDoorWeightMath
import Derived.Test.YtbalejfloieiiaaDoorBox
import Derived.Lib.Mul64
import Derived.Laws.Bits64b
import Derived.Laws.Externs
namespace Go.Proofs.YtbalejfloieiiaaDoor
open Go.RowKit
set_option linter.unusedSimpArgs false
set_option linter.unusedVariables false
set_option maxRecDepth 100000

/-! ### Sums with a carry -/
/-! ### Products of two words: the halves -/
theorem maskN (a : Nat) (ha : a < 18446744073709551616) : bits .and .u64 (a : Int) 4294967295 = ((a % 4294967296 : Nat) : Int) := by
  have h := bits_and_u64_nat a 4294967295 ha (by omega)
  have e : a &&& 4294967295 = a % 4294967296 := Nat.and_two_pow_sub_one_eq_mod a 32
  rw [e] at h
  exact h
theorem divN (a : Nat) : (a : Int) / 4294967296 = ((a / 4294967296 : Nat) : Int) := by omega
theorem mulN (a b : Nat) : (a : Int) * (b : Int) = ((a * b : Nat) : Int) := (Int.natCast_mul a b).symm
theorem addN (a b : Nat) : (a : Int) + (b : Int) = ((a + b : Nat) : Int) := (Int.natCast_add a b).symm
theorem wrapN (a : Nat) (ha : a < 18446744073709551616) : IntKind.u64.wrap (a : Int) = (a : Int) := by rw [IntKind.wrap_u64]; omega
theorem wrapM (a : Nat) : IntKind.u64.wrap (a : Int) = ((a % 18446744073709551616 : Nat) : Int) := by rw [IntKind.wrap_u64]; omega

set_option maxHeartbeats 1000000 in
theorem mul64_any (x y : Nat) (hx : x < 18446744073709551616) (hy : y < 18446744073709551616) (w : World) :
    Calls Tryd.prog 77 #[.int .u64 x, .int .u64 y] w fun e w' => e = .returned (.tuple #[.int .u64 ((x * y / 18446744073709551616 : Nat) : Int), .int .u64 ((x * y % 18446744073709551616 : Nat) : Int)]) ∧ w = w' := by
  obtain ⟨bd, bt, bw, hhi⟩ := Lib.mul64_hi x y hx hy
  have ba := Lib.half_mul_le (a := x / 4294967296) (b := y / 4294967296) (by omega) (by omega)
  have bb := Lib.half_mul_le (a := x / 4294967296) (b := y % 4294967296) (by omega) (by omega)
  have bc := Lib.half_mul_le (a := x % 4294967296) (b := y / 4294967296) (by omega) (by omega)
  have ba' : x / 4294967296 * (y / 4294967296) < 18446744073709551616 := by omega
  have bb' : x / 4294967296 * (y % 4294967296) < 18446744073709551616 := by omega
  have bc' : x % 4294967296 * (y / 4294967296) < 18446744073709551616 := by omega
  have bh1 : x / 4294967296 * (y / 4294967296) + (x / 4294967296 * (y % 4294967296) + x % 4294967296 * (y % 4294967296) / 4294967296) / 4294967296 < 18446744073709551616 := by omega
  have bh : x / 4294967296 * (y / 4294967296) + (x / 4294967296 * (y % 4294967296) + x % 4294967296 * (y % 4294967296) / 4294967296) / 4294967296 + ((x / 4294967296 * (y % 4294967296) + x % 4294967296 * (y % 4294967296) / 4294967296) % 4294967296 + x % 4294967296 * (y / 4294967296)) / 4294967296 < 18446744073709551616 := by omega
  go_enter Tryd.func77, Tryd.ntmps77
  go_wp2
  simp only [maskN x hx, maskN y hy, divN, mulN, addN, wrapN _ bd, wrapN _ bb', wrapN _ bt, maskN _ bt, wrapN _ bc', wrapN _ bw, wrapN _ ba', wrapN _ bh1, wrapN _ bh, wrapM (x * y)]
  rw [hhi]
  go_ret2
  exact ⟨rfl, rfl⟩

theorem fits_any (n m : Nat) (hn : n < 4294967296) (hm : m < 18446744073709551616) (w : World) :
    Calls Tryd.prog 60 #[.int .u32 n, .int .u64 m] w fun e w' => e = .returned (.bool (fitB n m)) ∧ w = w' := by
  have M := Lib.hid (mul64_any n m (by omega) hm w)
  by_cases h : n * m < 18446744073709551616
  · have e : fitB n m = decide (((n * m : Nat) : Int) < 9223372036854775808) := by
      unfold fitB far
      rw [decide_eq_decide]; omega
    rw [show n * m / 18446744073709551616 = 0 by omega, show n * m % 18446744073709551616 = n * m by omega] at M
    rw [e]
    generalize n * m = p at *
    clear e h
    go_enter Tryd.func60, Tryd.ntmps60
    go_wp2_with fail
    refine (M.out).mono ?_
    rintro e w' ⟨rfl, rfl⟩
    go_wp2_with fail
    go_ret
    exact ⟨rfl, rfl⟩
  · have e : fitB n m = false := by
      unfold fitB far
      rw [decide_eq_false_iff_not]; omega
    rw [e]
    have hq : 0 < n * m / 18446744073709551616 := Nat.div_pos (by omega) (by omega)
    generalize n * m / 18446744073709551616 = q at *
    generalize n * m % 18446744073709551616 = p at *
    have h0 : ((q : Int) == 0) = false := by simp; omega
    clear e h hq
    go_enter Tryd.func60, Tryd.ntmps60
    go_wp2_with fail
    refine (M.out).mono ?_
    rintro e w' ⟨rfl, rfl⟩
    go_wp2_with fail
    go_ret
    exact ⟨rfl, rfl⟩

/-! ### What tells two edges apart -/
def ahead (x y m n : Nat) : Bool := decide (x < y) || (decide (x = y) && decide (m < n))
theorem isAhead_any (b x y m n : Nat) (w : World) (hb : Box w b 125 #[.int .u64 x, .int .u64 y, .int .u64 m, .int .u64 n]) :
    Calls Tryd.prog 79 #[.slice (some ⟨b, 0, none⟩) 2 2] w fun e w' => e = .returned (.bool (ahead x y m n)) ∧ Keeps w w' := by
  have HB := Lib.hid hb
  clear hb
  go_enter Tryd.func79, Tryd.ntmps79
  go_wp2_with fail
  go_loopw [7] (fun i wr => ∃ k : Nat, k ≤ 2 ∧ i = .int .i64 k ∧ (0 < k → x = y) ∧ (1 < k → m = n) ∧ Keeps w wr) (fun i _ => 2 - (intOf i).toNat)
  case atStart => exact ⟨0, by omega, rfl, by omega, by omega, keeps_refl _⟩
  case round =>
    obtain ⟨k, hk, rfl, h0, h1, hkp⟩ := hrel
    have hB := HB.out.keep hkp
    have c0 := hB.cell 0 (v := .int .u64 x) rfl
    have c1 := hB.cell 1 (v := .int .u64 y) rfl
    have c2 := hB.cell 2 (v := .int .u64 m) rfl
    have c3 := hB.cell 3 (v := .int .u64 n) rfl
    have hlt := hB.lt
    have KP := Lib.hid hkp
    clear hkp hB
    rcases (show k = 0 ∨ k = 1 ∨ k = 2 by omega) with rfl | rfl | rfl
    · by_cases e : x = y
      · subst e
        go_wp2_with fail
        go_roundw
        case rel => exact ⟨1, by omega, rfl, by simp, by simp, keeps_trans KP.out (keeps_alloc _ _)⟩
        case measure => simp [intOf]
      · have e2 : ((x : Int) == (y : Int)) = false := by simp; omega
        have e3 : ahead x y m n = decide (x < y) := by simp [ahead, e]
        have E3 := Lib.hid e3
        clear e e3 h0 h1
        go_wp2_with fail
        go_ret
        exact ⟨by rw [E3.out]; rfl, keeps_trans KP.out (keeps_alloc _ _)⟩
    · obtain rfl : x = y := h0 (by omega)
      by_cases e : m = n
      · subst e
        go_wp2_with fail
        go_roundw
        case rel => exact ⟨2, by omega, rfl, by simp, by simp, keeps_trans KP.out (keeps_alloc _ _)⟩
        case measure => simp [intOf]
      · have e2 : ((m : Int) == (n : Int)) = false := by simp; omega
        have e3 : ahead x x m n = decide (m < n) := by simp [ahead]
        have E3 := Lib.hid e3
        clear e e3 h0 h1
        go_wp2_with fail
        go_ret
        exact ⟨by rw [E3.out]; rfl, keeps_trans KP.out (keeps_alloc _ _)⟩
    · obtain rfl : x = y := h0 (by omega)
      obtain rfl : m = n := h1 (by omega)
      have e3 : ahead x x m m = false := by simp [ahead]
      have E3 := Lib.hid e3
      clear e3 h0 h1
      go_wp2_with fail
      go_ret
      exact ⟨by rw [E3.out]; rfl, KP.out⟩

theorem box_third (w : World) (a b : Obj) (t : TypeId) (cs : Array Value) : Box (((w.alloc a).alloc b).alloc (.cells cs t)) (w.heap.size + 1 + 1) t cs := by
  have h := Box.new ((w.alloc a).alloc b) t cs
  simpa using h
theorem better_any (t h x m t' h' x' m' : Nat) (hx : x < 18446744073709551616) (hm : m < 4294967296) (hx' : x' < 18446744073709551616) (hm' : m' < 4294967296) (w : World) :
    Calls Tryd.prog 65 #[.agg #[.int .u32 t, .int .u32 h, .int .u64 x, .int .u32 m], .agg #[.int .u32 t', .int .u32 h', .int .u64 x', .int .u32 m']] w fun e w' => e = .returned (.bool (betB x m x' m')) ∧ Keeps w w' := by
  have e : betB x m x' m' = ahead x x' (mid1 m) (mid1 m') := rfl
  rw [e]
  clear e
  have m1 : ((m : Int) + 1) % 4294967296 = ((mid1 m : Nat) : Int) := by unfold mid1; omega
  have m2 : ((m' : Int) + 1) % 4294967296 = ((mid1 m' : Nat) : Int) := by unfold mid1; omega
  go_enter Tryd.func65, Tryd.ntmps65
  go_wp2_with fail
  refine (isAhead_any (w.heap.size + 1 + 1) x x' (mid1 m) (mid1 m') _ (box_third w _ _ _ _)).mono ?_
  rintro e w1 ⟨rfl, k1⟩
  go_wp2_with fail
  go_ret
  exact ⟨rfl, keeps_trans (keeps_trans (keeps_trans (keeps_alloc _ _) (keeps_alloc _ _)) (keeps_alloc _ _)) k1⟩
end Go.Proofs.YtbalejfloieiiaaDoor
