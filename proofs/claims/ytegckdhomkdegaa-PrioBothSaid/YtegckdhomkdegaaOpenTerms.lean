/- An argument of type milepostlaw15.Terms, and a slice of such, opened. -/
import Derived.Test.YtegckdhomkdegaaFrame
import Derived.Test.YtegckdhomkdegaaFlat
namespace Go.Proofs.Ytegckdhomkdegaa
open Go.RowKit
open Go.ChangeShapes Go.WideShapes Go.ChangeAt
set_option linter.unusedVariables false
set_option maxRecDepth 100000
set_option linter.unusedSimpArgs false

structure Tm where
  i : Int
  o : Int
  s : Int
structure TmOk (e : Tm) : Prop where
  i : -9223372036854775808 ≤ e.i ∧ e.i ≤ 9223372036854775807
  o : -9223372036854775808 ≤ e.o ∧ e.o ≤ 9223372036854775807
  s : -9223372036854775808 ≤ e.s ∧ e.s ≤ 9223372036854775807
def tmC (e : Tm) : List Value := [.int .i64 e.i, .int .i64 e.o, .int .i64 e.s]
theorem tmC_length (e : Tm) : (tmC e).length = 3 := rfl
theorem flat_terms : flat Try.prog 6 23 = some [3, 3, 3] := by kernel_rfl
theorem cells_terms : Try.prog.cellsOf 23 = [3, 3, 3].length := by kernel_rfl
theorem terms_of {H : Type} {enc : TypeId × Value → H} {W : World} {rc : Reach} {b0 : Nat} {v : Value} {d : DataW H} {p : List MemPlace} (hv : Value.okWide Try.prog W rc b0 23 v) (hT : DataW.Trod enc Try.prog W 0 (fun _ => true) true 23 v d p) :
    ∃ e : Tm, v = .agg #[.int .i64 e.i, .int .i64 e.o, .int .i64 e.s] ∧ TmOk e := by
  obtain ⟨cs, rfl, hl, hf⟩ := flat_agg Try.underlying23 flat_terms cells_terms hv hT
  match cs, hl with
  | [d0, d1, d2], _ =>
    obtain ⟨c0, hc0, lf0⟩ := hf 0 3 rfl
    obtain ⟨z0, rfl, q0⟩ := lf0.int Try.underlying3
    have m0 := bounds_i64 q0
    obtain ⟨c1, hc1, lf1⟩ := hf 1 3 rfl
    obtain ⟨z1, rfl, q1⟩ := lf1.int Try.underlying3
    have m1 := bounds_i64 q1
    obtain ⟨c2, hc2, lf2⟩ := hf 2 3 rfl
    obtain ⟨z2, rfl, q2⟩ := lf2.int Try.underlying3
    have m2 := bounds_i64 q2
    obtain rfl := Option.some.inj hc0
    obtain rfl := Option.some.inj hc1
    obtain rfl := Option.some.inj hc2
    exact ⟨⟨z0, z1, z2⟩, rfl, ⟨m0, m1, m2⟩⟩
end Go.Proofs.Ytegckdhomkdegaa
