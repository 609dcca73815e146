/- The contracts of package milepostref04: Less and Pop. -/
import Derived.Test.YtldmecannmifiaaRefHeap
import Derived.Deep.Light
namespace Go.Proofs.Ytldmecannmifiaa
open Go.RowKit
set_option linter.unusedSimpArgs false
set_option linter.unusedVariables false
set_option maxRecDepth 100000

theorem refLess_any (a b : It) (w : World) :
    Calls Try.prog 20 #[.agg #[.int .u64 (a.k : Int), .int .u32 (a.i : Int)], .agg #[.int .u64 (b.k : Int), .int .u32 (b.i : Int)]] w fun e w' => e = .returned (.bool (lessB a b)) ∧ Keeps w w' := by
  have k0 := fun a b => keeps_trans (keeps_alloc w a) (keeps_alloc (w.alloc a) b)
  by_cases h1 : a.k < b.k
  · have e1 : lessB a b = true := by simp [lessB, h1]
    rw [e1]
    clear e1
    go_enter Try.func20, Try.ntmps20
    go_wp2
    go_ret
    exact ⟨rfl, k0 _ _⟩
  · by_cases h2 : a.k = b.k
    · have e1 : lessB a b = decide (a.i < b.i) := by simp [lessB, h2]
      have e2 : ((a.k : Int) == (b.k : Int)) = true := by simp; omega
      rw [e1]
      clear e1 h2
      by_cases h3 : a.i < b.i
      · rw [decide_eq_true h3]
        go_enter Try.func20, Try.ntmps20
        go_wp2
        go_ret
        exact ⟨rfl, k0 _ _⟩
      · rw [decide_eq_false h3]
        go_enter Try.func20, Try.ntmps20
        go_wp2
        go_ret
        exact ⟨rfl, k0 _ _⟩
    · have e1 : lessB a b = false := by simp [lessB, h1, h2]
      have h3 : ((a.k : Int) == (b.k : Int)) = false := by simp; omega
      rw [e1]
      clear e1
      go_enter Try.func20, Try.ntmps20
      go_wp2
      go_ret
      exact ⟨rfl, k0 _ _⟩

theorem refPop_none {B : Nat} {w : World} {rb : Nat} {v : Value} (h : RefAt B w rb v []) :
    Calls Try.prog 12 #[.pointer (some ⟨rb, 0, none⟩)] w fun e w' => e = .returned (.tuple #[.agg #[.int .u64 0, .int .u32 0], .bool false]) ∧ Keeps w w' := by
  obtain ⟨A, cap, rfl, _⟩ := h.own.form
  have c0 := h.box.cell 0 rfl
  have l0 := h.box.lt
  have kz := keeps_alloc w (.cells #[.int .u64 0, .int .u32 0] 32)
  clear h
  go_enter Try.func12, Try.ntmps12
  go_wp2
  exact bodyPost_ret (v := .tuple #[.agg #[.int .u64 0, .int .u32 0], .bool false]) (by simp [results, Try.results12, go_sem]) rfl ⟨rfl, kz⟩
end Go.Proofs.Ytldmecannmifiaa
