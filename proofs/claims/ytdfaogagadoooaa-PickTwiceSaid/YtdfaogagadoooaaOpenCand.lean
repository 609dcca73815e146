/- Slices of api.Cand, opened. -/
import Derived.Test.YtdfaogagadoooaaOpenU32
import Derived.Test.YtdfaogagadoooaaCands
namespace Go.Proofs.Ytdfaogagadoooaa
open Go.RowKit
open Go.ChangeShapes Go.WideShapes Go.ChangeAt Go.Deep
set_option linter.unusedVariables false
set_option maxRecDepth 100000
set_option linter.unusedSimpArgs false

theorem flat_cand : flat Try.prog 6 33 = some [30, 31, 26] := by kernel_rfl
theorem cells_cand : Try.prog.cellsOf 33 = [30, 31, 26].length := by kernel_rfl
section
variable {H : Type} {enc : TypeId × Value → H} {W : World}
theorem cand_leaves {c0 c1 c2 : Value} (l0 : Leaf enc Try.prog W 0 (fun _ => true) true 30 c0) (l1 : Leaf enc Try.prog W 0 (fun _ => true) true 31 c1) (l2 : Leaf enc Try.prog W 0 (fun _ => true) true 26 c2) :
    ∃ x : Cd, [c0, c1, c2] = cdC x ∧ CdOk W x := by
  obtain ⟨z0, rfl, q0⟩ := l0.int Try.underlying30
  obtain ⟨x0, rfl, m0⟩ := nat_u32 q0
  obtain ⟨z1, rfl, q1⟩ := l1.int Try.underlying31
  obtain ⟨x1, rfl, m1⟩ := nat_u64 q1
  obtain ⟨m, y, h⟩ := l2
  have hs : ∃ A n c, c2 = .slice A n c := by
    rcases open_slice Try.underlying26 h with ⟨hcs, _⟩ | ⟨a, len, cap, m', n', D, Pl, hcs, _⟩
    · simp only [List.cons.injEq, and_true] at hcs
      exact ⟨_, _, _, hcs⟩
    · simp only [List.cons.injEq, and_true] at hcs
      exact ⟨_, _, _, hcs⟩
  obtain ⟨A, n, c, rfl⟩ := hs
  obtain ⟨l, h1, h2, h3, h4, h5⟩ := u32s_of (d := y.1) (p := y.2) ⟨m, h⟩
  exact ⟨⟨x0, x1, A, c, l⟩, by rw [h1]; rfl, ⟨m0, m1, by rw [← h1]; exact h2, h3, h4, h5⟩⟩
theorem cands_of {A : Option Addr} {n c : Nat} {d : DataW H} {p : List MemPlace} (hT : DataW.Trod enc Try.prog W 0 (fun _ => true) true 22 (.slice A n c) d p) :
    ∃ l : List Cd, n = l.length ∧ n ≤ c ∧ c ≤ maxLen ∧ CdsAt W A l ∧ True := by
  obtain ⟨fuel, hf⟩ := hT
  obtain ⟨h1, h2, h3, h4⟩ := flat_slice Try.underlying22 flat_cand cells_cand ⟨fuel, _, hf⟩
  obtain ⟨l, hl, hq⟩ := list_of (Q := fun i (x : Cd) => CdOk W x ∧ ∃ ad, A = some ad ∧ ∀ j u, (cdC x)[j]? = some u → W.cell? (ad.add (i * 3 + j)) = some u) n fun i hi => by
    obtain ⟨ad, rfl, hc⟩ := h4 i hi
    obtain ⟨c0, hc0, lf0⟩ := hc 0 30 rfl
    obtain ⟨c1, hc1, lf1⟩ := hc 1 31 rfl
    obtain ⟨c2, hc2, lf2⟩ := hc 2 26 rfl
    obtain ⟨x, ho, ok⟩ := cand_leaves lf0 lf1 lf2
    refine ⟨x, ok, ad, rfl, fun j u hu => ?_⟩
    have hj : j < 3 := by have := (List.getElem?_eq_some_iff.1 hu).1; rwa [cdC_length] at this
    rw [← ho] at hu
    rcases (show j = 0 ∨ j = 1 ∨ j = 2 by omega) with rfl | rfl | rfl
    · obtain rfl := Option.some.inj hu; exact hc0
    · obtain rfl := Option.some.inj hu; exact hc1
    · obtain rfl := Option.some.inj hu; exact hc2
  refine ⟨l, hl.symm, h1, h2, ⟨?_, fun x hx => ?_⟩, trivial⟩
  · rcases A with _ | ad
    · obtain ⟨rfl, _⟩ := h3 rfl
      left
      have : l = [] := List.eq_nil_of_length_eq_zero hl
      subst this
      rfl
    · refine at_rows cdC 3 cdC_length (by decide) l hl ad (fun _ => rfl) fun i x hx => ?_
      obtain ⟨_, ad', e', hc⟩ := hq i x hx
      obtain rfl := Option.some.inj e'
      exact hc
  · obtain ⟨i, hi⟩ := List.getElem?_of_mem hx
    exact (hq i x hi).1
end
end Go.Proofs.Ytdfaogagadoooaa
