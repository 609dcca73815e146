/- An argument of type api.Vert, and a slice of such, opened. -/
import Derived.Test.YtegckdhomkdegaaFrame
import Derived.Test.YtegckdhomkdegaaFlat
import Derived.Test.YtegckdhomkdegaaVt
namespace Go.Proofs.Ytegckdhomkdegaa
open Go.RowKit
open Go.ChangeShapes Go.WideShapes Go.ChangeAt
set_option linter.unusedVariables false
set_option maxRecDepth 100000
set_option linter.unusedSimpArgs false

theorem flat_vert : flat Try.prog 6 26 = some [24, 24, 24] := by kernel_rfl
theorem cells_vert : Try.prog.cellsOf 26 = [24, 24, 24].length := by kernel_rfl
theorem vert_of {H : Type} {enc : TypeId × Value → H} {W : World} {rc : Reach} {b0 : Nat} {v : Value} {d : DataW H} {p : List MemPlace} (hv : Value.okWide Try.prog W rc b0 26 v) (hT : DataW.Trod enc Try.prog W 0 (fun _ => true) true 26 v d p) :
    ∃ e : Vt, v = .agg #[.int .u32 (e.r : Int), .int .u32 (e.l : Int), .int .u32 (e.g : Int)] ∧ VtOk e := by
  obtain ⟨cs, rfl, hl, hf⟩ := flat_agg Try.underlying26 flat_vert cells_vert hv hT
  match cs, hl with
  | [d0, d1, d2], _ =>
    obtain ⟨c0, hc0, lf0⟩ := hf 0 24 rfl
    obtain ⟨z0, rfl, q0⟩ := lf0.int Try.underlying24
    obtain ⟨x0, rfl, m0⟩ := nat_u32 q0
    obtain ⟨c1, hc1, lf1⟩ := hf 1 24 rfl
    obtain ⟨z1, rfl, q1⟩ := lf1.int Try.underlying24
    obtain ⟨x1, rfl, m1⟩ := nat_u32 q1
    obtain ⟨c2, hc2, lf2⟩ := hf 2 24 rfl
    obtain ⟨z2, rfl, q2⟩ := lf2.int Try.underlying24
    obtain ⟨x2, rfl, m2⟩ := nat_u32 q2
    obtain rfl := Option.some.inj hc0
    obtain rfl := Option.some.inj hc1
    obtain rfl := Option.some.inj hc2
    exact ⟨⟨x0, x1, x2⟩, rfl, ⟨m0, m1, m2⟩⟩
end Go.Proofs.Ytegckdhomkdegaa
