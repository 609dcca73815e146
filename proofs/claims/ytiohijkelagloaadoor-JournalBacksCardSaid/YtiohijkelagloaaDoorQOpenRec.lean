/- An argument of type api.Rec, and a slice of such, opened. -/
import Derived.Test.YtiohijkelagloaaDoorFrame
import Derived.Test.YtiohijkelagloaaDoorFlat
import Derived.Test.YtiohijkelagloaaDoorQJrMath
namespace Go.Proofs.YtiohijkelagloaaDoor
open Go.RowKit
open Go.ChangeShapes Go.WideShapes Go.ChangeAt
set_option linter.unusedVariables false
set_option maxRecDepth 100000
set_option linter.unusedSimpArgs false

theorem flat_rec : flat Tryd.prog 6 43 = some [41, 41, 41] := by kernel_rfl
theorem cells_rec : Tryd.prog.cellsOf 43 = [41, 41, 41].length := by kernel_rfl
theorem rec_of {H : Type} {enc : TypeId × Value → H} {W : World} {rc : Reach} {b0 : Nat} {v : Value} {d : DataW H} {p : List MemPlace} (hv : Value.okWide Tryd.prog W rc b0 43 v) (hT : DataW.Trod enc Tryd.prog W 0 (fun _ => true) true 43 v d p) :
    ∃ e : RecS, v = .agg #[.int .u32 (e.kind : Int), .int .u32 (e.a : Int), .int .u32 (e.b : Int)] ∧ RecOk e := by
  obtain ⟨cs, rfl, hl, hf⟩ := flat_agg Tryd.underlying43 flat_rec cells_rec hv hT
  match cs, hl with
  | [d0, d1, d2], _ =>
    obtain ⟨c0, hc0, lf0⟩ := hf 0 41 rfl
    obtain ⟨z0, rfl, q0⟩ := lf0.int Tryd.underlying41
    obtain ⟨x0, rfl, m0⟩ := nat_u32 q0
    obtain ⟨c1, hc1, lf1⟩ := hf 1 41 rfl
    obtain ⟨z1, rfl, q1⟩ := lf1.int Tryd.underlying41
    obtain ⟨x1, rfl, m1⟩ := nat_u32 q1
    obtain ⟨c2, hc2, lf2⟩ := hf 2 41 rfl
    obtain ⟨z2, rfl, q2⟩ := lf2.int Tryd.underlying41
    obtain ⟨x2, rfl, m2⟩ := nat_u32 q2
    obtain rfl := Option.some.inj hc0
    obtain rfl := Option.some.inj hc1
    obtain rfl := Option.some.inj hc2
    exact ⟨⟨x0, x1, x2⟩, rfl, ⟨m0, m1, m2⟩⟩
theorem recs_of {H : Type} {enc : TypeId × Value → H} {W : World} {A : Option Addr} {n c : Nat} {d : DataW H} {p : List MemPlace} (hT : DataW.Trod enc Tryd.prog W 0 (fun _ => true) true 36 (.slice A n c) d p) :
    ∃ l : List RecS, n = l.length ∧ n ≤ c ∧ c ≤ maxLen ∧ At W W.heap.size A (l.flatMap recC) ∧ ∀ e ∈ l, RecOk e := by
  obtain ⟨fuel, hf⟩ := hT
  obtain ⟨h1, h2, h3, h4⟩ := flat_slice Tryd.underlying36 flat_rec cells_rec ⟨fuel, _, hf⟩
  obtain ⟨l, hl, hq⟩ := list_of (Q := fun i (e : RecS) => RecOk e ∧ ∃ ad, A = some ad ∧ ∀ j u, (recC e)[j]? = some u → W.cell? (ad.add (i * 3 + j)) = some u) n fun i hi => by
    obtain ⟨ad, rfl, hc⟩ := h4 i hi
    obtain ⟨c0, hc0, lf0⟩ := hc 0 41 rfl
    obtain ⟨z0, rfl, q0⟩ := lf0.int Tryd.underlying41
    obtain ⟨x0, rfl, m0⟩ := nat_u32 q0
    obtain ⟨c1, hc1, lf1⟩ := hc 1 41 rfl
    obtain ⟨z1, rfl, q1⟩ := lf1.int Tryd.underlying41
    obtain ⟨x1, rfl, m1⟩ := nat_u32 q1
    obtain ⟨c2, hc2, lf2⟩ := hc 2 41 rfl
    obtain ⟨z2, rfl, q2⟩ := lf2.int Tryd.underlying41
    obtain ⟨x2, rfl, m2⟩ := nat_u32 q2
    refine ⟨⟨x0, x1, x2⟩, ⟨m0, m1, m2⟩, ad, rfl, fun j u hu => ?_⟩
    have hj : j < 3 := by have := (List.getElem?_eq_some_iff.1 hu).1; simpa [recC] using this
    rcases (show j = 0 ∨ j = 1 ∨ j = 2 by omega) with rfl | rfl | rfl
    · obtain rfl := Option.some.inj hu; exact hc0
    · obtain rfl := Option.some.inj hu; exact hc1
    · obtain rfl := Option.some.inj hu; exact hc2
  refine ⟨l, hl.symm, h1, h2, ?_, fun e he => ?_⟩
  · rcases A with _ | ad
    · obtain ⟨rfl, _⟩ := h3 rfl
      left
      have : l = [] := List.eq_nil_of_length_eq_zero hl
      subst this
      rfl
    · refine at_rows recC 3 (fun _ => rfl) (by decide) l hl ad (fun _ => rfl) fun i x hx => ?_
      obtain ⟨_, ad', e', hc⟩ := hq i x hx
      obtain rfl := Option.some.inj e'
      exact hc
  · obtain ⟨i, hi⟩ := List.getElem?_of_mem he
    exact (hq i e hi).1
end Go.Proofs.YtiohijkelagloaaDoor
