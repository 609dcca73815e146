/- An argument of type milepostlaw05.Mark opened. -/
import Derived.Test.YtbalejfloieiiaaDoorOpenEdge
namespace Go.Proofs.YtbalejfloieiiaaDoor
open Go.RowKit
open Go.ChangeShapes Go.WideShapes Go.ChangeAt Go.Deep
set_option linter.unusedVariables false
set_option maxRecDepth 100000
set_option linter.unusedSimpArgs false

/-- vertices, edges in a slice, a place, a byte -/
structure MarkS where
  n : Nat
  A : Option Addr
  len : Nat
  c : Nat
  p : Nat
  v : Nat
  l : List Ed
structure MarkOk (W : World) (e : MarkS) : Prop where
  n : e.n < 4294967296
  len : e.len = e.l.length
  c : e.len ≤ e.c
  m : e.c ≤ maxLen
  l : At W W.heap.size e.A (edsC e.l)
  ok : ∀ x ∈ e.l, EdOk x
  p : e.p < 256
  v : e.v < 256
theorem flat_mark : flat Tryd.prog 6 56 = some [23, 36, 5, 5] := by kernel_rfl
theorem cells_mark : Tryd.prog.cellsOf 56 = [23, 36, 5, 5].length := by kernel_rfl
theorem mark_of {H : Type} {enc : TypeId × Value → H} {W : World} {rc : Reach} {b0 : Nat} {v : Value} {d : DataW H} {p : List MemPlace} (hv : Value.okWide Tryd.prog W rc b0 56 v) (hT : DataW.Trod enc Tryd.prog W 0 (fun _ => true) true 56 v d p) :
    ∃ e : MarkS, v = .agg #[.int .u32 (e.n : Int), .slice e.A e.len e.c, .int .u8 (e.p : Int), .int .u8 (e.v : Int)] ∧ MarkOk W e := by
  obtain ⟨cs, rfl, hl, hf⟩ := flat_agg Tryd.underlying56 flat_mark cells_mark hv hT
  match cs, hl with
  | [d0, d1, d2, d3], _ =>
    obtain ⟨c0, hc0, lf0⟩ := hf 0 23 rfl
    obtain ⟨z0, rfl, q0⟩ := lf0.int Tryd.underlying23
    obtain ⟨x0, rfl, m0⟩ := nat_u32 q0
    obtain ⟨c1, hc1, lf1⟩ := hf 1 36 rfl
    obtain ⟨c2, hc2, lf2⟩ := hf 2 5 rfl
    obtain ⟨z2, rfl, q2⟩ := lf2.int Tryd.underlying5
    obtain ⟨x2, rfl, m2⟩ := nat_u8 q2
    obtain ⟨c3, hc3, lf3⟩ := hf 3 5 rfl
    obtain ⟨z3, rfl, q3⟩ := lf3.int Tryd.underlying5
    obtain ⟨x3, rfl, m3⟩ := nat_u8 q3
    obtain rfl := Option.some.inj hc0
    obtain rfl := Option.some.inj hc1
    obtain rfl := Option.some.inj hc2
    obtain rfl := Option.some.inj hc3
    obtain ⟨m, y, h⟩ := lf1
    have hs : ∃ A n c, d1 = .slice A n c := by
      rcases open_slice Tryd.underlying36 h with ⟨hcs, _⟩ | ⟨a, len, cap, m', n', D, Pl, hcs, _⟩
      · simp only [List.cons.injEq, and_true] at hcs
        exact ⟨_, _, _, hcs⟩
      · simp only [List.cons.injEq, and_true] at hcs
        exact ⟨_, _, _, hcs⟩
    obtain ⟨A, n, c, rfl⟩ := hs
    obtain ⟨l, h1, h2, h3, h4, h5⟩ := edges_of (d := y.1) (p := y.2) ⟨m, h⟩
    exact ⟨⟨x0, A, n, c, x2, x3, l⟩, rfl, ⟨m0, h1, h2, h3, h4, h5, m2, m3⟩⟩
end Go.Proofs.YtbalejfloieiiaaDoor
