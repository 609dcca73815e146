/- Mathematics of no program: weights that do not wrap, and the order of edges. -/
import Derived.Handy
namespace Go.Proofs.Ytkijfbnibfbldaa
set_option linter.unusedSimpArgs false
set_option linter.unusedVariables false
set_option maxRecDepth 100000

def far : Nat := 9223372036854775808
def addB (a b : Nat) : Bool := decide (a + b < far)
def addV (a b : Nat) : Nat := bif addB a b then a + b else 0
def fitB (n m : Nat) : Bool := decide (n * m < far)
def mid1 (m : Nat) : Nat := (m + 1) % 4294967296
/-- an edge: tail, head, weight, middle -/
structure Ed where
  t : Nat
  h : Nat
  x : Nat
  m : Nat
structure EdOk (e : Ed) : Prop where
  t : e.t < 4294967296
  h : e.h < 4294967296
  x : e.x < 18446744073709551616
  m : e.m < 4294967296
def betB (x m y k : Nat) : Bool := decide (x < y) || (decide (x = y) && decide (mid1 m < mid1 k))
theorem mid1_inj {m k : Nat} (hm : m < 4294967296) (hk : k < 4294967296) (h : mid1 m = mid1 k) : m = k := by
  unfold mid1 at h
  omega
theorem betB_true (x m y k : Nat) : betB x m y k = true ↔ x < y ∨ (x = y ∧ mid1 m < mid1 k) := by simp [betB]
theorem betB_irr (x m : Nat) : betB x m x m = false := by simp [betB]
theorem betB_asym {x m y k : Nat} (h : betB x m y k = true) : betB y k x m = false := by
  rw [Bool.eq_false_iff]
  intro h'
  rw [betB_true] at h h'
  omega
theorem betB_trans {x m y k z j : Nat} (h : betB x m y k = true) (h' : betB y k z j = true) : betB x m z j = true := by
  rw [betB_true] at *
  omega
theorem betB_tot {x m y k : Nat} (hm : m < 4294967296) (hk : k < 4294967296) (h : betB x m y k = false) (h' : betB y k x m = false) : x = y ∧ m = k := by
  rw [Bool.eq_false_iff, ne_eq, betB_true] at h h'
  have e : x = y := by omega
  refine ⟨e, mid1_inj hm hk ?_⟩
  omega
theorem addB_comm (a b : Nat) : addB a b = addB b a := by simp [addB, Nat.add_comm]
theorem addV_comm (a b : Nat) : addV a b = addV b a := by simp [addV, addB_comm a b, Nat.add_comm]
theorem addV_lt (a b : Nat) : addV a b < far := by
  unfold addV
  cases h : addB a b
  · simp [far]
  · simpa [addB] using h
theorem addV_true {a b : Nat} (h : addB a b = true) : addV a b = a + b := by simp [addV, h]
theorem addV_false {a b : Nat} (h : addB a b = false) : addV a b = 0 := by simp [addV, h]
end Go.Proofs.Ytkijfbnibfbldaa
