/- An argument of type milepostlaw14.Fork, and a slice of such, opened. -/
import Derived.Test.YtkijfbnibfbldaaFrame
import Derived.Test.YtkijfbnibfbldaaFlat
namespace Go.Proofs.Ytkijfbnibfbldaa
open Go.RowKit
open Go.ChangeShapes Go.WideShapes Go.ChangeAt
set_option linter.unusedVariables false
set_option maxRecDepth 100000
set_option linter.unusedSimpArgs false

structure ForkS where
  a : Nat
  b : Nat
  c : Nat
  d : Nat
  e : Nat
structure ForkOk (e : ForkS) : Prop where
  a : e.a < 18446744073709551616
  b : e.b < 18446744073709551616
  c : e.c < 18446744073709551616
  d : e.d < 18446744073709551616
  e : e.e < 18446744073709551616
def forkC (e : ForkS) : List Value := [.int .u64 (e.a : Int), .int .u64 (e.b : Int), .int .u64 (e.c : Int), .int .u64 (e.d : Int), .int .u64 (e.e : Int)]
theorem forkC_length (e : ForkS) : (forkC e).length = 5 := rfl
theorem flat_fork : flat Try.prog 6 62 = some [27, 27, 27, 27, 27] := by kernel_rfl
theorem cells_fork : Try.prog.cellsOf 62 = [27, 27, 27, 27, 27].length := by kernel_rfl
theorem fork_of {H : Type} {enc : TypeId × Value → H} {W : World} {rc : Reach} {b0 : Nat} {v : Value} {d : DataW H} {p : List MemPlace} (hv : Value.okWide Try.prog W rc b0 62 v) (hT : DataW.Trod enc Try.prog W 0 (fun _ => true) true 62 v d p) :
    ∃ e : ForkS, v = .agg #[.int .u64 (e.a : Int), .int .u64 (e.b : Int), .int .u64 (e.c : Int), .int .u64 (e.d : Int), .int .u64 (e.e : Int)] ∧ ForkOk e := by
  obtain ⟨cs, rfl, hl, hf⟩ := flat_agg Try.underlying62 flat_fork cells_fork hv hT
  match cs, hl with
  | [d0, d1, d2, d3, d4], _ =>
    obtain ⟨c0, hc0, lf0⟩ := hf 0 27 rfl
    obtain ⟨z0, rfl, q0⟩ := lf0.int Try.underlying27
    obtain ⟨x0, rfl, m0⟩ := nat_u64 q0
    obtain ⟨c1, hc1, lf1⟩ := hf 1 27 rfl
    obtain ⟨z1, rfl, q1⟩ := lf1.int Try.underlying27
    obtain ⟨x1, rfl, m1⟩ := nat_u64 q1
    obtain ⟨c2, hc2, lf2⟩ := hf 2 27 rfl
    obtain ⟨z2, rfl, q2⟩ := lf2.int Try.underlying27
    obtain ⟨x2, rfl, m2⟩ := nat_u64 q2
    obtain ⟨c3, hc3, lf3⟩ := hf 3 27 rfl
    obtain ⟨z3, rfl, q3⟩ := lf3.int Try.underlying27
    obtain ⟨x3, rfl, m3⟩ := nat_u64 q3
    obtain ⟨c4, hc4, lf4⟩ := hf 4 27 rfl
    obtain ⟨z4, rfl, q4⟩ := lf4.int Try.underlying27
    obtain ⟨x4, rfl, m4⟩ := nat_u64 q4
    obtain rfl := Option.some.inj hc0
    obtain rfl := Option.some.inj hc1
    obtain rfl := Option.some.inj hc2
    obtain rfl := Option.some.inj hc3
    obtain rfl := Option.some.inj hc4
    exact ⟨⟨x0, x1, x2, x3, x4⟩, rfl, ⟨m0, m1, m2, m3, m4⟩⟩
end Go.Proofs.Ytkijfbnibfbldaa
