/- A slice of uint64, opened. -/
import Derived.Test.YtdfaogagadoooaaFrame
import Derived.Test.YtdfaogagadoooaaFlat
import Derived.Test.YtdfaogagadoooaaNums
namespace Go.Proofs.Ytdfaogagadoooaa
open Go.RowKit
open Go.ChangeShapes Go.WideShapes Go.ChangeAt
set_option linter.unusedVariables false
set_option maxRecDepth 100000
set_option linter.unusedSimpArgs false

theorem flat_u64 : flat Try.prog 6 31 = some [31] := by kernel_rfl
theorem cells_u64 : Try.prog.cellsOf 31 = [31].length := by kernel_rfl
theorem u64s_of {H : Type} {enc : TypeId × Value → H} {W : World} {A : Option Addr} {n c : Nat} {d : DataW H} {p : List MemPlace} (hT : DataW.Trod enc Try.prog W 0 (fun _ => true) true 36 (.slice A n c) d p) :
    ∃ l : List Nat, n = l.length ∧ n ≤ c ∧ c ≤ maxLen ∧ At W W.heap.size A (u64s l) ∧ ∀ x ∈ l, x < 18446744073709551616 := by
  obtain ⟨fuel, hf⟩ := hT
  obtain ⟨h1, h2, h3, h4⟩ := flat_slice Try.underlying36 flat_u64 cells_u64 ⟨fuel, _, hf⟩
  obtain ⟨l, hl, hq⟩ := list_of (Q := fun i (e : Nat) => e < 18446744073709551616 ∧ ∃ ad, A = some ad ∧ ∀ j u, [Value.int .u64 (e : Int)][j]? = some u → W.cell? (ad.add (i * 1 + j)) = some u) n fun i hi => by
    obtain ⟨ad, rfl, hc⟩ := h4 i hi
    obtain ⟨c0, hc0, lf0⟩ := hc 0 31 rfl
    obtain ⟨z0, rfl, q0⟩ := lf0.int Try.underlying31
    obtain ⟨x0, rfl, m0⟩ := nat_u64 q0
    refine ⟨x0, m0, ad, rfl, fun j u hu => ?_⟩
    have hj : j < 1 := by have := (List.getElem?_eq_some_iff.1 hu).1; simpa using this
    obtain rfl : j = 0 := by omega
    obtain rfl := Option.some.inj hu
    exact hc0
  have e : u64s l = l.flatMap fun (e : Nat) => [Value.int .u64 (e : Int)] := by
    unfold u64s
    clear hl hq
    induction l with
    | nil => rfl
    | cons a l ih => simpa using ih
  refine ⟨l, hl.symm, h1, h2, ?_, fun e he => ?_⟩
  · rcases A with _ | ad
    · obtain ⟨rfl, _⟩ := h3 rfl
      left
      have : l = [] := List.eq_nil_of_length_eq_zero hl
      subst this
      rfl
    · rw [e]
      refine at_rows (fun (e : Nat) => [Value.int .u64 (e : Int)]) 1 (fun _ => rfl) (by decide) l hl ad (fun _ => rfl) fun i x hx => ?_
      obtain ⟨_, ad', e', hc⟩ := hq i x hx
      obtain rfl := Option.some.inj e'
      exact hc
  · obtain ⟨i, hi⟩ := List.getElem?_of_mem he
    exact (hq i e hi).1
end Go.Proofs.Ytdfaogagadoooaa
