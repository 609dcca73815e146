/- An argument of type milepostlaw05.Fault, and a slice of such, opened. -/
import Derived.Test.YtbalejfloieiiaaDoorFrame
import Derived.Test.YtbalejfloieiiaaDoorFlat
namespace Go.Proofs.YtbalejfloieiiaaDoor
open Go.RowKit
open Go.ChangeShapes Go.WideShapes Go.ChangeAt
set_option linter.unusedVariables false
set_option maxRecDepth 100000
set_option linter.unusedSimpArgs false

structure FaultS where
  a : Nat
  w : Nat
  x : Nat
structure FaultOk (e : FaultS) : Prop where
  a : e.a < 65536
  w : e.w < 65536
  x : e.x < 18446744073709551616
def faultC (e : FaultS) : List Value := [.int .u16 (e.a : Int), .int .u16 (e.w : Int), .int .u64 (e.x : Int)]
theorem faultC_length (e : FaultS) : (faultC e).length = 3 := rfl
theorem flat_fault : flat Tryd.prog 6 52 = some [50, 50, 29] := by kernel_rfl
theorem cells_fault : Tryd.prog.cellsOf 52 = [50, 50, 29].length := by kernel_rfl
theorem fault_of {H : Type} {enc : TypeId × Value → H} {W : World} {rc : Reach} {b0 : Nat} {v : Value} {d : DataW H} {p : List MemPlace} (hv : Value.okWide Tryd.prog W rc b0 52 v) (hT : DataW.Trod enc Tryd.prog W 0 (fun _ => true) true 52 v d p) :
    ∃ e : FaultS, v = .agg #[.int .u16 (e.a : Int), .int .u16 (e.w : Int), .int .u64 (e.x : Int)] ∧ FaultOk e := by
  obtain ⟨cs, rfl, hl, hf⟩ := flat_agg Tryd.underlying52 flat_fault cells_fault hv hT
  match cs, hl with
  | [d0, d1, d2], _ =>
    obtain ⟨c0, hc0, lf0⟩ := hf 0 50 rfl
    obtain ⟨z0, rfl, q0⟩ := lf0.int Tryd.underlying50
    obtain ⟨x0, rfl, m0⟩ := nat_u16 q0
    obtain ⟨c1, hc1, lf1⟩ := hf 1 50 rfl
    obtain ⟨z1, rfl, q1⟩ := lf1.int Tryd.underlying50
    obtain ⟨x1, rfl, m1⟩ := nat_u16 q1
    obtain ⟨c2, hc2, lf2⟩ := hf 2 29 rfl
    obtain ⟨z2, rfl, q2⟩ := lf2.int Tryd.underlying29
    obtain ⟨x2, rfl, m2⟩ := nat_u64 q2
    obtain rfl := Option.some.inj hc0
    obtain rfl := Option.some.inj hc1
    obtain rfl := Option.some.inj hc2
    exact ⟨⟨x0, x1, x2⟩, rfl, ⟨m0, m1, m2⟩⟩
end Go.Proofs.YtbalejfloieiiaaDoor
