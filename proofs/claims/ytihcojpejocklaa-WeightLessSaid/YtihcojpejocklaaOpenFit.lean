/- An argument of type milepostlaw03.Fit, and a slice of such, opened. -/
import Derived.Test.YtihcojpejocklaaFrame
import Derived.Test.YtihcojpejocklaaFlat
namespace Go.Proofs.Ytihcojpejocklaa
open Go.RowKit
open Go.ChangeShapes Go.WideShapes Go.ChangeAt
set_option linter.unusedVariables false
set_option maxRecDepth 100000
set_option linter.unusedSimpArgs false

structure FitS where
  n : Nat
  m : Nat
  a : Nat
  b : Nat
structure FitOk (e : FitS) : Prop where
  n : e.n < 4294967296
  m : e.m < 4294967296
  a : e.a < 18446744073709551616
  b : e.b < 18446744073709551616
def fitC (e : FitS) : List Value := [.int .u32 (e.n : Int), .int .u32 (e.m : Int), .int .u64 (e.a : Int), .int .u64 (e.b : Int)]
theorem fitC_length (e : FitS) : (fitC e).length = 4 := rfl
theorem flat_fit : flat Try.prog 6 38 = some [23, 23, 22, 22] := by kernel_rfl
theorem cells_fit : Try.prog.cellsOf 38 = [23, 23, 22, 22].length := by kernel_rfl
theorem fit_of {H : Type} {enc : TypeId × Value → H} {W : World} {rc : Reach} {b0 : Nat} {v : Value} {d : DataW H} {p : List MemPlace} (hv : Value.okWide Try.prog W rc b0 38 v) (hT : DataW.Trod enc Try.prog W 0 (fun _ => true) true 38 v d p) :
    ∃ e : FitS, v = .agg #[.int .u32 (e.n : Int), .int .u32 (e.m : Int), .int .u64 (e.a : Int), .int .u64 (e.b : Int)] ∧ FitOk e := by
  obtain ⟨cs, rfl, hl, hf⟩ := flat_agg Try.underlying38 flat_fit cells_fit hv hT
  match cs, hl with
  | [d0, d1, d2, d3], _ =>
    obtain ⟨c0, hc0, lf0⟩ := hf 0 23 rfl
    obtain ⟨z0, rfl, q0⟩ := lf0.int Try.underlying23
    obtain ⟨x0, rfl, m0⟩ := nat_u32 q0
    obtain ⟨c1, hc1, lf1⟩ := hf 1 23 rfl
    obtain ⟨z1, rfl, q1⟩ := lf1.int Try.underlying23
    obtain ⟨x1, rfl, m1⟩ := nat_u32 q1
    obtain ⟨c2, hc2, lf2⟩ := hf 2 22 rfl
    obtain ⟨z2, rfl, q2⟩ := lf2.int Try.underlying22
    obtain ⟨x2, rfl, m2⟩ := nat_u64 q2
    obtain ⟨c3, hc3, lf3⟩ := hf 3 22 rfl
    obtain ⟨z3, rfl, q3⟩ := lf3.int Try.underlying22
    obtain ⟨x3, rfl, m3⟩ := nat_u64 q3
    obtain rfl := Option.some.inj hc0
    obtain rfl := Option.some.inj hc1
    obtain rfl := Option.some.inj hc2
    obtain rfl := Option.some.inj hc3
    exact ⟨⟨x0, x1, x2, x3⟩, rfl, ⟨m0, m1, m2, m3⟩⟩
end Go.Proofs.Ytihcojpejocklaa
