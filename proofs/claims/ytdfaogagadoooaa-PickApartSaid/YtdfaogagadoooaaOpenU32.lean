/- A slice of uint32, opened. -/
import Derived.Test.YtdfaogagadoooaaFrame
import Derived.Test.YtdfaogagadoooaaFlat
import Derived.Test.YtdfaogagadoooaaU32s
namespace Go.Proofs.Ytdfaogagadoooaa
open Go.RowKit
open Go.ChangeShapes Go.WideShapes Go.ChangeAt
set_option linter.unusedVariables false
set_option maxRecDepth 100000
set_option linter.unusedSimpArgs false

theorem flat_u32s : flat Try.prog 6 30 = some [30] := by kernel_rfl
theorem cells_u32s : Try.prog.cellsOf 30 = [30].length := by kernel_rfl
theorem u32s_of {H : Type} {enc : TypeId × Value → H} {W : World} {A : Option Addr} {n c : Nat} {d : DataW H} {p : List MemPlace} (hT : DataW.Trod enc Try.prog W 0 (fun _ => true) true 26 (.slice A n c) d p) :
    ∃ l : List Nat, n = l.length ∧ n ≤ c ∧ c ≤ maxLen ∧ At W W.heap.size A (celU l) ∧ ∀ x ∈ l, x < 4294967296 := by
  obtain ⟨fuel, hf⟩ := hT
  obtain ⟨h1, h2, h3, h4⟩ := flat_slice Try.underlying26 flat_u32s cells_u32s ⟨fuel, _, hf⟩
  obtain ⟨l, hl, hq⟩ := list_of (Q := fun i (e : Nat) => e < 4294967296 ∧ ∃ ad, A = some ad ∧ ∀ j u, [Value.int .u32 (e : Int)][j]? = some u → W.cell? (ad.add (i * 1 + j)) = some u) n fun i hi => by
    obtain ⟨ad, rfl, hc⟩ := h4 i hi
    obtain ⟨c0, hc0, lf0⟩ := hc 0 30 rfl
    obtain ⟨z0, rfl, q0⟩ := lf0.int Try.underlying30
    obtain ⟨x0, rfl, m0⟩ := nat_u32 q0
    refine ⟨x0, m0, ad, rfl, fun j u hu => ?_⟩
    have hj : j < 1 := by have := (List.getElem?_eq_some_iff.1 hu).1; simpa using this
    obtain rfl : j = 0 := by omega
    obtain rfl := Option.some.inj hu
    exact hc0
  have e : celU l = l.flatMap fun (e : Nat) => [Value.int .u32 (e : Int)] := by
    unfold celU
    clear hl hq
    induction l with
    | nil => rfl
    | cons a l ih => simpa [u32V] using ih
  refine ⟨l, hl.symm, h1, h2, ?_, fun e he => ?_⟩
  · rcases A with _ | ad
    · obtain ⟨rfl, _⟩ := h3 rfl
      left
      have : l = [] := List.eq_nil_of_length_eq_zero hl
      subst this
      rfl
    · rw [e]
      refine at_rows (fun (e : Nat) => [Value.int .u32 (e : Int)]) 1 (fun _ => rfl) (by decide) l hl ad (fun _ => rfl) fun i x hx => ?_
      obtain ⟨_, ad', e', hc⟩ := hq i x hx
      obtain rfl := Option.some.inj e'
      exact hc
  · obtain ⟨i, hi⟩ := List.getElem?_of_mem he
    exact (hq i e hi).1
end Go.Proofs.Ytdfaogagadoooaa
