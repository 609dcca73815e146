/- An argument of type api.Item, and a slice of such, opened. -/
import Derived.Test.YtldmecannmifiaaFrame
import Derived.Test.YtldmecannmifiaaFlat
import Derived.Test.YtldmecannmifiaaHeapMath
namespace Go.Proofs.Ytldmecannmifiaa
open Go.RowKit
open Go.ChangeShapes Go.WideShapes Go.ChangeAt
set_option linter.unusedVariables false
set_option maxRecDepth 100000
set_option linter.unusedSimpArgs false

theorem flat_item : flat Try.prog 6 32 = some [29, 30] := by kernel_rfl
theorem cells_item : Try.prog.cellsOf 32 = [29, 30].length := by kernel_rfl
theorem item_of {H : Type} {enc : TypeId × Value → H} {W : World} {rc : Reach} {b0 : Nat} {v : Value} {d : DataW H} {p : List MemPlace} (hv : Value.okWide Try.prog W rc b0 32 v) (hT : DataW.Trod enc Try.prog W 0 (fun _ => true) true 32 v d p) :
    ∃ e : It, v = .agg #[.int .u64 (e.k : Int), .int .u32 (e.i : Int)] ∧ ItOk e := by
  obtain ⟨cs, rfl, hl, hf⟩ := flat_agg Try.underlying32 flat_item cells_item hv hT
  match cs, hl with
  | [d0, d1], _ =>
    obtain ⟨c0, hc0, lf0⟩ := hf 0 29 rfl
    obtain ⟨z0, rfl, q0⟩ := lf0.int Try.underlying29
    obtain ⟨x0, rfl, m0⟩ := nat_u64 q0
    obtain ⟨c1, hc1, lf1⟩ := hf 1 30 rfl
    obtain ⟨z1, rfl, q1⟩ := lf1.int Try.underlying30
    obtain ⟨x1, rfl, m1⟩ := nat_u32 q1
    obtain rfl := Option.some.inj hc0
    obtain rfl := Option.some.inj hc1
    exact ⟨⟨x0, x1⟩, rfl, ⟨m0, m1⟩⟩
theorem items_of {H : Type} {enc : TypeId × Value → H} {W : World} {A : Option Addr} {n c : Nat} {d : DataW H} {p : List MemPlace} (hT : DataW.Trod enc Try.prog W 0 (fun _ => true) true 26 (.slice A n c) d p) :
    ∃ l : List It, n = l.length ∧ n ≤ c ∧ c ≤ maxLen ∧ At W W.heap.size A (l.flatMap itC) ∧ ∀ e ∈ l, ItOk e := by
  obtain ⟨fuel, hf⟩ := hT
  obtain ⟨h1, h2, h3, h4⟩ := flat_slice Try.underlying26 flat_item cells_item ⟨fuel, _, hf⟩
  obtain ⟨l, hl, hq⟩ := list_of (Q := fun i (e : It) => ItOk e ∧ ∃ ad, A = some ad ∧ ∀ j u, (itC e)[j]? = some u → W.cell? (ad.add (i * 2 + j)) = some u) n fun i hi => by
    obtain ⟨ad, rfl, hc⟩ := h4 i hi
    obtain ⟨c0, hc0, lf0⟩ := hc 0 29 rfl
    obtain ⟨z0, rfl, q0⟩ := lf0.int Try.underlying29
    obtain ⟨x0, rfl, m0⟩ := nat_u64 q0
    obtain ⟨c1, hc1, lf1⟩ := hc 1 30 rfl
    obtain ⟨z1, rfl, q1⟩ := lf1.int Try.underlying30
    obtain ⟨x1, rfl, m1⟩ := nat_u32 q1
    refine ⟨⟨x0, x1⟩, ⟨m0, m1⟩, ad, rfl, fun j u hu => ?_⟩
    have hj : j < 2 := by have := (List.getElem?_eq_some_iff.1 hu).1; simpa [itC] using this
    rcases (show j = 0 ∨ j = 1 by omega) with rfl | rfl
    · obtain rfl := Option.some.inj hu; exact hc0
    · obtain rfl := Option.some.inj hu; exact hc1
  refine ⟨l, hl.symm, h1, h2, ?_, fun e he => ?_⟩
  · rcases A with _ | ad
    · obtain ⟨rfl, _⟩ := h3 rfl
      left
      have : l = [] := List.eq_nil_of_length_eq_zero hl
      subst this
      rfl
    · refine at_rows itC 2 (fun _ => rfl) (by decide) l hl ad (fun _ => rfl) fun i x hx => ?_
      obtain ⟨_, ad', e', hc⟩ := hq i x hx
      obtain rfl := Option.some.inj e'
      exact hc
  · obtain ⟨i, hi⟩ := List.getElem?_of_mem he
    exact (hq i e hi).1
end Go.Proofs.Ytldmecannmifiaa
