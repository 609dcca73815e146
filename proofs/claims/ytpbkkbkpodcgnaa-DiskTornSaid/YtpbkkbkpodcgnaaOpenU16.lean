/- A slice of uint16, opened. -/
import Derived.Test.YtpbkkbkpodcgnaaFrame
import Derived.Test.YtpbkkbkpodcgnaaFlat
import Derived.Test.YtpbkkbkpodcgnaaLawDisk9
namespace Go.Proofs.Ytpbkkbkpodcgnaa
open Go.RowKit
open Go.ChangeShapes Go.WideShapes Go.ChangeAt
set_option linter.unusedVariables false
set_option maxRecDepth 100000
set_option linter.unusedSimpArgs false

theorem flat_u16 : flat Try.prog 6 61 = some [61] := by kernel_rfl
theorem cells_u16 : Try.prog.cellsOf 61 = [61].length := by kernel_rfl
theorem u16s_of {H : Type} {enc : TypeId × Value → H} {W : World} {A : Option Addr} {n c : Nat} {d : DataW H} {p : List MemPlace} (hT : DataW.Trod enc Try.prog W 0 (fun _ => true) true 56 (.slice A n c) d p) :
    ∃ l : List Nat, n = l.length ∧ n ≤ c ∧ c ≤ maxLen ∧ At W W.heap.size A (u16C l) ∧ ∀ x ∈ l, x < 65536 := by
  obtain ⟨fuel, hf⟩ := hT
  obtain ⟨h1, h2, h3, h4⟩ := flat_slice Try.underlying56 flat_u16 cells_u16 ⟨fuel, _, hf⟩
  obtain ⟨l, hl, hq⟩ := list_of (Q := fun i (e : Nat) => e < 65536 ∧ ∃ ad, A = some ad ∧ ∀ j u, [Value.int .u16 (e : Int)][j]? = some u → W.cell? (ad.add (i * 1 + j)) = some u) n fun i hi => by
    obtain ⟨ad, rfl, hc⟩ := h4 i hi
    obtain ⟨c0, hc0, lf0⟩ := hc 0 61 rfl
    obtain ⟨z0, rfl, q0⟩ := lf0.int Try.underlying61
    obtain ⟨x0, rfl, m0⟩ := nat_u16 q0
    refine ⟨x0, m0, ad, rfl, fun j u hu => ?_⟩
    have hj : j < 1 := by have := (List.getElem?_eq_some_iff.1 hu).1; simpa using this
    obtain rfl : j = 0 := by omega
    obtain rfl := Option.some.inj hu
    exact hc0
  have e : u16C l = l.flatMap fun (e : Nat) => [Value.int .u16 (e : Int)] := by
    unfold u16C
    clear hl hq
    induction l with
    | nil => rfl
    | cons a l ih => simpa using ih
  refine ⟨l, hl.symm, h1, h2, ?_, fun e he => ?_⟩
  · rcases A with _ | ad
    · obtain ⟨rfl, _⟩ := h3 rfl
      left
      have : l = [] := List.eq_nil_of_length_eq_zero hl
      subst this
      rfl
    · rw [e]
      refine at_rows (fun (e : Nat) => [Value.int .u16 (e : Int)]) 1 (fun _ => rfl) (by decide) l hl ad (fun _ => rfl) fun i x hx => ?_
      obtain ⟨_, ad', e', hc⟩ := hq i x hx
      obtain rfl := Option.some.inj e'
      exact hc
  · obtain ⟨i, hi⟩ := List.getElem?_of_mem he
    exact (hq i e hi).1
end Go.Proofs.Ytpbkkbkpodcgnaa
