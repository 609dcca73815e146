/- An argument of type milepostlaw14.Ask, and a slice of such, opened. -/
import Derived.Test.YtkijfbnibfbldaaFrame
import Derived.Test.YtkijfbnibfbldaaFlat
namespace Go.Proofs.Ytkijfbnibfbldaa
open Go.RowKit
open Go.ChangeShapes Go.WideShapes Go.ChangeAt
set_option linter.unusedVariables false
set_option maxRecDepth 100000
set_option linter.unusedSimpArgs false

structure AskS where
  fr : Nat
  to : Nat
  most : Nat
structure AskOk (e : AskS) : Prop where
  fr : e.fr < 4294967296
  to : e.to < 4294967296
  most : e.most < 18446744073709551616
def askC (e : AskS) : List Value := [.int .u32 (e.fr : Int), .int .u32 (e.to : Int), .int .u64 (e.most : Int)]
theorem askC_length (e : AskS) : (askC e).length = 3 := rfl
theorem flat_ask : flat Try.prog 6 29 = some [26, 26, 27] := by kernel_rfl
theorem cells_ask : Try.prog.cellsOf 29 = [26, 26, 27].length := by kernel_rfl
theorem ask_of {H : Type} {enc : TypeId × Value → H} {W : World} {rc : Reach} {b0 : Nat} {v : Value} {d : DataW H} {p : List MemPlace} (hv : Value.okWide Try.prog W rc b0 29 v) (hT : DataW.Trod enc Try.prog W 0 (fun _ => true) true 29 v d p) :
    ∃ e : AskS, v = .agg #[.int .u32 (e.fr : Int), .int .u32 (e.to : Int), .int .u64 (e.most : Int)] ∧ AskOk e := by
  obtain ⟨cs, rfl, hl, hf⟩ := flat_agg Try.underlying29 flat_ask cells_ask hv hT
  match cs, hl with
  | [d0, d1, d2], _ =>
    obtain ⟨c0, hc0, lf0⟩ := hf 0 26 rfl
    obtain ⟨z0, rfl, q0⟩ := lf0.int Try.underlying26
    obtain ⟨x0, rfl, m0⟩ := nat_u32 q0
    obtain ⟨c1, hc1, lf1⟩ := hf 1 26 rfl
    obtain ⟨z1, rfl, q1⟩ := lf1.int Try.underlying26
    obtain ⟨x1, rfl, m1⟩ := nat_u32 q1
    obtain ⟨c2, hc2, lf2⟩ := hf 2 27 rfl
    obtain ⟨z2, rfl, q2⟩ := lf2.int Try.underlying27
    obtain ⟨x2, rfl, m2⟩ := nat_u64 q2
    obtain rfl := Option.some.inj hc0
    obtain rfl := Option.some.inj hc1
    obtain rfl := Option.some.inj hc2
    exact ⟨⟨x0, x1, x2⟩, rfl, ⟨m0, m1, m2⟩⟩
end Go.Proofs.Ytkijfbnibfbldaa
