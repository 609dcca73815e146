/- A slice of slices of bytes, opened. -/
import Derived.Test.YtbpiiegjbcoapaaDoorFrame
import Derived.Test.YtbpiiegjbcoapaaDoorFrameB
import Derived.Test.YtbpiiegjbcoapaaDoorFlat
import Derived.Test.YtbpiiegjbcoapaaDoorQPfRows
namespace Go.Proofs.YtbpiiegjbcoapaaDoor
open Go.RowKit
open Go.ChangeShapes Go.WideShapes Go.ChangeAt Go.Deep
set_option linter.unusedVariables false
set_option maxRecDepth 100000
set_option linter.unusedSimpArgs false

theorem flat_bytes : flat Tryd.prog 6 22 = some [22] := by kernel_rfl
theorem cells_bytes : Tryd.prog.cellsOf 22 = [22].length := by kernel_rfl
theorem pages_of {H : Type} {enc : TypeId × Value → H} {W : World} {A : Option Addr} {n c : Nat} {d : DataW H} {p : List MemPlace} (hT : DataW.Trod enc Tryd.prog W 0 (fun _ => true) true 39 (.slice A n c) d p) :
    ∃ l : List RwS, n = l.length ∧ n ≤ c ∧ c ≤ maxLen ∧ RowsAt W A l ∧ True := by
  obtain ⟨fuel, hf⟩ := hT
  obtain ⟨h1, h2, h3, h4⟩ := flat_slice Tryd.underlying39 flat_bytes cells_bytes ⟨fuel, _, hf⟩
  obtain ⟨l, hl, hq⟩ := list_of (Q := fun i (e : RwS) => RwGood W e ∧ ∃ ad, A = some ad ∧ ∀ j u, [rwV e][j]? = some u → W.cell? (ad.add (i * 1 + j)) = some u) n fun i hi => by
    obtain ⟨ad, rfl, hc⟩ := h4 i hi
    obtain ⟨c0, hc0, m0, y0, lf0⟩ := hc 0 22 rfl
    have hs : ∃ A n k, c0 = .slice A n k := by
      rcases open_slice Tryd.underlying22 lf0 with ⟨hcs, _⟩ | ⟨a, len, cap, m', n', D, Pl, hcs, _⟩
      · simp only [List.cons.injEq, and_true] at hcs
        exact ⟨_, _, _, hcs⟩
      · simp only [List.cons.injEq, and_true] at hcs
        exact ⟨_, _, _, hcs⟩
    obtain ⟨A0, n0, k0, rfl⟩ := hs
    obtain ⟨l0, x1, x2, x3, x4⟩ := came_of (d := y0.1) (p := y0.2) ⟨m0, lf0⟩
    refine ⟨⟨A0, n0, k0, l0⟩, ⟨x1, x2, x3, x4⟩, ad, rfl, fun j u hu => ?_⟩
    have hj : j < 1 := by have := (List.getElem?_eq_some_iff.1 hu).1; simpa using this
    obtain rfl : j = 0 := by omega
    obtain rfl := Option.some.inj hu
    exact hc0
  have e : l.map rwV = l.flatMap fun (e : RwS) => [rwV e] := by
    clear hl hq
    induction l with
    | nil => rfl
    | cons a l ih => simpa using ih
  refine ⟨l, hl.symm, h1, h2, ⟨?_, fun r hr => ?_⟩, trivial⟩
  · rcases A with _ | ad
    · obtain ⟨rfl, _⟩ := h3 rfl
      left
      have : l = [] := List.eq_nil_of_length_eq_zero hl
      subst this
      rfl
    · rw [e]
      refine at_rows (fun (e : RwS) => [rwV e]) 1 (fun _ => rfl) (by decide) l hl ad (fun _ => rfl) fun i x hx => ?_
      obtain ⟨_, ad', e', hc⟩ := hq i x hx
      obtain rfl := Option.some.inj e'
      exact hc
  · obtain ⟨i, hi⟩ := List.getElem?_of_mem hr
    exact (hq i r hi).1
end Go.Proofs.YtbpiiegjbcoapaaDoor
