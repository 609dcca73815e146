/- A slice of int, opened. -/
import Derived.Test.YtbpiiegjbcoapaaDoorFrame
import Derived.Test.YtbpiiegjbcoapaaDoorFlat
import Derived.Test.YtbpiiegjbcoapaaDoorLawDisk
namespace Go.Proofs.YtbpiiegjbcoapaaDoor
open Go.RowKit
open Go.ChangeShapes Go.WideShapes Go.ChangeAt
set_option linter.unusedVariables false
set_option maxRecDepth 100000
set_option linter.unusedSimpArgs false

theorem flat_int : flat Tryd.prog 6 3 = some [3] := by kernel_rfl
theorem cells_int : Tryd.prog.cellsOf 3 = [3].length := by kernel_rfl
theorem ints_of {H : Type} {enc : TypeId × Value → H} {W : World} {A : Option Addr} {n c : Nat} {d : DataW H} {p : List MemPlace} (hT : DataW.Trod enc Tryd.prog W 0 (fun _ => true) true 28 (.slice A n c) d p) :
    ∃ l : List Int, n = l.length ∧ n ≤ c ∧ c ≤ maxLen ∧ At W W.heap.size A (intC l) ∧ ∀ x ∈ l, -9223372036854775808 ≤ x ∧ x ≤ 9223372036854775807 := by
  obtain ⟨fuel, hf⟩ := hT
  obtain ⟨h1, h2, h3, h4⟩ := flat_slice Tryd.underlying28 flat_int cells_int ⟨fuel, _, hf⟩
  obtain ⟨l, hl, hq⟩ := list_of (Q := fun i (e : Int) => (-9223372036854775808 ≤ e ∧ e ≤ 9223372036854775807) ∧ ∃ ad, A = some ad ∧ ∀ j u, [Value.int .i64 e][j]? = some u → W.cell? (ad.add (i * 1 + j)) = some u) n fun i hi => by
    obtain ⟨ad, rfl, hc⟩ := h4 i hi
    obtain ⟨c0, hc0, lf0⟩ := hc 0 3 rfl
    obtain ⟨z0, rfl, q0⟩ := lf0.int Tryd.underlying3
    have m0 := bounds_i64 q0
    refine ⟨z0, m0, ad, rfl, fun j u hu => ?_⟩
    have hj : j < 1 := by have := (List.getElem?_eq_some_iff.1 hu).1; simpa using this
    obtain rfl : j = 0 := by omega
    obtain rfl := Option.some.inj hu
    exact hc0
  have e : intC l = l.flatMap fun (e : Int) => [Value.int .i64 e] := by
    unfold intC
    clear hl hq
    induction l with
    | nil => rfl
    | cons a l ih => simpa using ih
  refine ⟨l, hl.symm, h1, h2, ?_, fun e he => ?_⟩
  · rcases A with _ | ad
    · obtain ⟨rfl, _⟩ := h3 rfl
      left
      have : l = [] := List.eq_nil_of_length_eq_zero hl
      subst this
      rfl
    · rw [e]
      refine at_rows (fun (e : Int) => [Value.int .i64 e]) 1 (fun _ => rfl) (by decide) l hl ad (fun _ => rfl) fun i x hx => ?_
      obtain ⟨_, ad', e', hc⟩ := hq i x hx
      obtain rfl := Option.some.inj e'
      exact hc
  · obtain ⟨i, hi⟩ := List.getElem?_of_mem he
    exact (hq i e hi).1
end Go.Proofs.YtbpiiegjbcoapaaDoor
