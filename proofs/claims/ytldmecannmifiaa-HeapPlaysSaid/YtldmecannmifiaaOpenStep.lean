/- An argument of type milepostlaw04.Step, and a slice of such, opened. -/
import Derived.Test.YtldmecannmifiaaFrame
import Derived.Test.YtldmecannmifiaaFlat
namespace Go.Proofs.Ytldmecannmifiaa
open Go.RowKit
open Go.ChangeShapes Go.WideShapes Go.ChangeAt
set_option linter.unusedVariables false
set_option maxRecDepth 100000
set_option linter.unusedSimpArgs false

structure StepS where
  p : Bool
  k : Nat
  i : Nat
structure StepOk (e : StepS) : Prop where
  k : e.k < 18446744073709551616
  i : e.i < 4294967296
def stepC (e : StepS) : List Value := [.bool e.p, .int .u64 (e.k : Int), .int .u32 (e.i : Int)]
theorem stepC_length (e : StepS) : (stepC e).length = 3 := rfl
theorem flat_step : flat Try.prog 6 34 = some [4, 29, 30] := by kernel_rfl
theorem cells_step : Try.prog.cellsOf 34 = [4, 29, 30].length := by kernel_rfl
theorem step_of {H : Type} {enc : TypeId × Value → H} {W : World} {rc : Reach} {b0 : Nat} {v : Value} {d : DataW H} {p : List MemPlace} (hv : Value.okWide Try.prog W rc b0 34 v) (hT : DataW.Trod enc Try.prog W 0 (fun _ => true) true 34 v d p) :
    ∃ e : StepS, v = .agg #[.bool e.p, .int .u64 (e.k : Int), .int .u32 (e.i : Int)] ∧ StepOk e := by
  obtain ⟨cs, rfl, hl, hf⟩ := flat_agg Try.underlying34 flat_step cells_step hv hT
  match cs, hl with
  | [d0, d1, d2], _ =>
    obtain ⟨c0, hc0, lf0⟩ := hf 0 4 rfl
    obtain ⟨x0, rfl⟩ := lf0.bool Try.underlying4
    obtain ⟨c1, hc1, lf1⟩ := hf 1 29 rfl
    obtain ⟨z1, rfl, q1⟩ := lf1.int Try.underlying29
    obtain ⟨x1, rfl, m1⟩ := nat_u64 q1
    obtain ⟨c2, hc2, lf2⟩ := hf 2 30 rfl
    obtain ⟨z2, rfl, q2⟩ := lf2.int Try.underlying30
    obtain ⟨x2, rfl, m2⟩ := nat_u32 q2
    obtain rfl := Option.some.inj hc0
    obtain rfl := Option.some.inj hc1
    obtain rfl := Option.some.inj hc2
    exact ⟨⟨x0, x1, x2⟩, rfl, ⟨m1, m2⟩⟩
theorem steps_of {H : Type} {enc : TypeId × Value → H} {W : World} {A : Option Addr} {n c : Nat} {d : DataW H} {p : List MemPlace} (hT : DataW.Trod enc Try.prog W 0 (fun _ => true) true 22 (.slice A n c) d p) :
    ∃ l : List StepS, n = l.length ∧ n ≤ c ∧ c ≤ maxLen ∧ At W W.heap.size A (l.flatMap stepC) ∧ ∀ e ∈ l, StepOk e := by
  obtain ⟨fuel, hf⟩ := hT
  obtain ⟨h1, h2, h3, h4⟩ := flat_slice Try.underlying22 flat_step cells_step ⟨fuel, _, hf⟩
  obtain ⟨l, hl, hq⟩ := list_of (Q := fun i (e : StepS) => StepOk e ∧ ∃ ad, A = some ad ∧ ∀ j u, (stepC e)[j]? = some u → W.cell? (ad.add (i * 3 + j)) = some u) n fun i hi => by
    obtain ⟨ad, rfl, hc⟩ := h4 i hi
    obtain ⟨c0, hc0, lf0⟩ := hc 0 4 rfl
    obtain ⟨x0, rfl⟩ := lf0.bool Try.underlying4
    obtain ⟨c1, hc1, lf1⟩ := hc 1 29 rfl
    obtain ⟨z1, rfl, q1⟩ := lf1.int Try.underlying29
    obtain ⟨x1, rfl, m1⟩ := nat_u64 q1
    obtain ⟨c2, hc2, lf2⟩ := hc 2 30 rfl
    obtain ⟨z2, rfl, q2⟩ := lf2.int Try.underlying30
    obtain ⟨x2, rfl, m2⟩ := nat_u32 q2
    refine ⟨⟨x0, x1, x2⟩, ⟨m1, m2⟩, ad, rfl, fun j u hu => ?_⟩
    have hj : j < 3 := by have := (List.getElem?_eq_some_iff.1 hu).1; simpa [stepC] using this
    rcases (show j = 0 ∨ j = 1 ∨ j = 2 by omega) with rfl | rfl | rfl
    · obtain rfl := Option.some.inj hu; exact hc0
    · obtain rfl := Option.some.inj hu; exact hc1
    · obtain rfl := Option.some.inj hu; exact hc2
  refine ⟨l, hl.symm, h1, h2, ?_, fun e he => ?_⟩
  · rcases A with _ | ad
    · obtain ⟨rfl, _⟩ := h3 rfl
      left
      have : l = [] := List.eq_nil_of_length_eq_zero hl
      subst this
      rfl
    · refine at_rows stepC 3 (fun _ => rfl) (by decide) l hl ad (fun _ => rfl) fun i x hx => ?_
      obtain ⟨_, ad', e', hc⟩ := hq i x hx
      obtain rfl := Option.some.inj e'
      exact hc
  · obtain ⟨i, hi⟩ := List.getElem?_of_mem he
    exact (hq i e hi).1
end Go.Proofs.Ytldmecannmifiaa
