/- An argument of type milepostref14.Net opened. -/
import Derived.Test.YtkijfbnibfbldaaOpenEdge
import Derived.Test.YtkijfbnibfbldaaOpenU32
import Derived.Test.YtkijfbnibfbldaaWitN
namespace Go.Proofs.Ytkijfbnibfbldaa
open Go.RowKit
open Go.ChangeShapes Go.WideShapes Go.ChangeAt Go.Deep
set_option linter.unusedVariables false
set_option maxRecDepth 100000
set_option linter.unusedSimpArgs false

theorem flat_net14 : flat Try.prog 6 25 = some [22, 23, 23] := by kernel_rfl
theorem cells_net14 : Try.prog.cellsOf 25 = [22, 23, 23].length := by kernel_rfl
theorem net14_of {H : Type} {enc : TypeId × Value → H} {W : World} {rc : Reach} {b0 : Nat} {v : Value} {d : DataW H} {p : List MemPlace} (hv : Value.okWide Try.prog W rc b0 25 v) (hT : DataW.Trod enc Try.prog W 0 (fun _ => true) true 25 v d p) :
    ∃ e : WNet, v = .agg e.cells ∧ WNetOk W e := by
  obtain ⟨cs, rfl, hl, hf⟩ := flat_agg Try.underlying25 flat_net14 cells_net14 hv hT
  match cs, hl with
  | [d0, d1, d2], _ =>
    obtain ⟨c0, hc0, lf0⟩ := hf 0 22 rfl
    obtain ⟨c1, hc1, lf1⟩ := hf 1 23 rfl
    obtain ⟨c2, hc2, lf2⟩ := hf 2 23 rfl
    obtain rfl := Option.some.inj hc0
    obtain rfl := Option.some.inj hc1
    obtain rfl := Option.some.inj hc2
    obtain ⟨m, y, h⟩ := lf0
    have hs : ∃ A n c, d0 = .slice A n c := by
      rcases open_slice Try.underlying22 h with ⟨hcs, _⟩ | ⟨a, len, cap, m', n', D, Pl, hcs, _⟩
      · simp only [List.cons.injEq, and_true] at hcs
        exact ⟨_, _, _, hcs⟩
      · simp only [List.cons.injEq, and_true] at hcs
        exact ⟨_, _, _, hcs⟩
    obtain ⟨A, n, c, rfl⟩ := hs
    obtain ⟨l, h1, h2, h3, h4, h5⟩ := edges_of (d := y.1) (p := y.2) ⟨m, h⟩
    obtain ⟨m', y', h'⟩ := lf1
    have hs : ∃ A n c, d1 = .slice A n c := by
      rcases open_slice Try.underlying23 h' with ⟨hcs, _⟩ | ⟨a, len, cap, m', n', D, Pl, hcs, _⟩
      · simp only [List.cons.injEq, and_true] at hcs
        exact ⟨_, _, _, hcs⟩
      · simp only [List.cons.injEq, and_true] at hcs
        exact ⟨_, _, _, hcs⟩
    obtain ⟨Ab, nb, cb, rfl⟩ := hs
    obtain ⟨bs, g1, g2, g3, g4, g5⟩ := u32s_of (d := y'.1) (p := y'.2) ⟨m', h'⟩
    obtain ⟨m2, y2, h2'⟩ := lf2
    have hs : ∃ A n c, d2 = .slice A n c := by
      rcases open_slice Try.underlying23 h2' with ⟨hcs, _⟩ | ⟨a, len, cap, m', n', D, Pl, hcs, _⟩
      · simp only [List.cons.injEq, and_true] at hcs
        exact ⟨_, _, _, hcs⟩
      · simp only [List.cons.injEq, and_true] at hcs
        exact ⟨_, _, _, hcs⟩
    obtain ⟨As, ns, cs, rfl⟩ := hs
    obtain ⟨zs, k1, k2, k3, k4, k5⟩ := u32s_of (d := y2.1) (p := y2.2) ⟨m2, h2'⟩
    exact ⟨⟨A, c, Ab, cb, As, cs, l, bs, zs⟩, by rw [h1, g1, k1]; rfl, ⟨h4, g4, k4, h5, g5, k5⟩⟩
end Go.Proofs.Ytkijfbnibfbldaa
