/- An argument of type api.Edge, and a slice of such, opened. -/
import Derived.Test.YtkijfbnibfbldaaFrame
import Derived.Test.YtkijfbnibfbldaaFlat
import Derived.Test.YtkijfbnibfbldaaEdges
namespace Go.Proofs.Ytkijfbnibfbldaa
open Go.RowKit
open Go.ChangeShapes Go.WideShapes Go.ChangeAt
set_option linter.unusedVariables false
set_option maxRecDepth 100000
set_option linter.unusedSimpArgs false

theorem flat_edge : flat Try.prog 6 67 = some [26, 26, 27, 26] := by kernel_rfl
theorem cells_edge : Try.prog.cellsOf 67 = [26, 26, 27, 26].length := by kernel_rfl
theorem edge_of {H : Type} {enc : TypeId × Value → H} {W : World} {rc : Reach} {b0 : Nat} {v : Value} {d : DataW H} {p : List MemPlace} (hv : Value.okWide Try.prog W rc b0 67 v) (hT : DataW.Trod enc Try.prog W 0 (fun _ => true) true 67 v d p) :
    ∃ e : Ed, v = .agg #[.int .u32 (e.t : Int), .int .u32 (e.h : Int), .int .u64 (e.x : Int), .int .u32 (e.m : Int)] ∧ EdOk e := by
  obtain ⟨cs, rfl, hl, hf⟩ := flat_agg Try.underlying67 flat_edge cells_edge hv hT
  match cs, hl with
  | [d0, d1, d2, d3], _ =>
    obtain ⟨c0, hc0, lf0⟩ := hf 0 26 rfl
    obtain ⟨z0, rfl, q0⟩ := lf0.int Try.underlying26
    obtain ⟨x0, rfl, m0⟩ := nat_u32 q0
    obtain ⟨c1, hc1, lf1⟩ := hf 1 26 rfl
    obtain ⟨z1, rfl, q1⟩ := lf1.int Try.underlying26
    obtain ⟨x1, rfl, m1⟩ := nat_u32 q1
    obtain ⟨c2, hc2, lf2⟩ := hf 2 27 rfl
    obtain ⟨z2, rfl, q2⟩ := lf2.int Try.underlying27
    obtain ⟨x2, rfl, m2⟩ := nat_u64 q2
    obtain ⟨c3, hc3, lf3⟩ := hf 3 26 rfl
    obtain ⟨z3, rfl, q3⟩ := lf3.int Try.underlying26
    obtain ⟨x3, rfl, m3⟩ := nat_u32 q3
    obtain rfl := Option.some.inj hc0
    obtain rfl := Option.some.inj hc1
    obtain rfl := Option.some.inj hc2
    obtain rfl := Option.some.inj hc3
    exact ⟨⟨x0, x1, x2, x3⟩, rfl, ⟨m0, m1, m2, m3⟩⟩
theorem edges_of {H : Type} {enc : TypeId × Value → H} {W : World} {A : Option Addr} {n c : Nat} {d : DataW H} {p : List MemPlace} (hT : DataW.Trod enc Try.prog W 0 (fun _ => true) true 22 (.slice A n c) d p) :
    ∃ l : List Ed, n = l.length ∧ n ≤ c ∧ c ≤ maxLen ∧ At W W.heap.size A (l.flatMap edC) ∧ ∀ e ∈ l, EdOk e := by
  obtain ⟨fuel, hf⟩ := hT
  obtain ⟨h1, h2, h3, h4⟩ := flat_slice Try.underlying22 flat_edge cells_edge ⟨fuel, _, hf⟩
  obtain ⟨l, hl, hq⟩ := list_of (Q := fun i (e : Ed) => EdOk e ∧ ∃ ad, A = some ad ∧ ∀ j u, (edC e)[j]? = some u → W.cell? (ad.add (i * 4 + j)) = some u) n fun i hi => by
    obtain ⟨ad, rfl, hc⟩ := h4 i hi
    obtain ⟨c0, hc0, lf0⟩ := hc 0 26 rfl
    obtain ⟨z0, rfl, q0⟩ := lf0.int Try.underlying26
    obtain ⟨x0, rfl, m0⟩ := nat_u32 q0
    obtain ⟨c1, hc1, lf1⟩ := hc 1 26 rfl
    obtain ⟨z1, rfl, q1⟩ := lf1.int Try.underlying26
    obtain ⟨x1, rfl, m1⟩ := nat_u32 q1
    obtain ⟨c2, hc2, lf2⟩ := hc 2 27 rfl
    obtain ⟨z2, rfl, q2⟩ := lf2.int Try.underlying27
    obtain ⟨x2, rfl, m2⟩ := nat_u64 q2
    obtain ⟨c3, hc3, lf3⟩ := hc 3 26 rfl
    obtain ⟨z3, rfl, q3⟩ := lf3.int Try.underlying26
    obtain ⟨x3, rfl, m3⟩ := nat_u32 q3
    refine ⟨⟨x0, x1, x2, x3⟩, ⟨m0, m1, m2, m3⟩, ad, rfl, fun j u hu => ?_⟩
    have hj : j < 4 := by have := (List.getElem?_eq_some_iff.1 hu).1; simpa [edC] using this
    rcases (show j = 0 ∨ j = 1 ∨ j = 2 ∨ j = 3 by omega) with rfl | rfl | rfl | rfl
    · obtain rfl := Option.some.inj hu; exact hc0
    · obtain rfl := Option.some.inj hu; exact hc1
    · obtain rfl := Option.some.inj hu; exact hc2
    · obtain rfl := Option.some.inj hu; exact hc3
  refine ⟨l, hl.symm, h1, h2, ?_, fun e he => ?_⟩
  · rcases A with _ | ad
    · obtain ⟨rfl, _⟩ := h3 rfl
      left
      have : l = [] := List.eq_nil_of_length_eq_zero hl
      subst this
      rfl
    · refine at_rows edC 4 (fun _ => rfl) (by decide) l hl ad (fun _ => rfl) fun i x hx => ?_
      obtain ⟨_, ad', e', hc⟩ := hq i x hx
      obtain rfl := Option.some.inj e'
      exact hc
  · obtain ⟨i, hi⟩ := List.getElem?_of_mem he
    exact (hq i e hi).1
end Go.Proofs.Ytkijfbnibfbldaa
