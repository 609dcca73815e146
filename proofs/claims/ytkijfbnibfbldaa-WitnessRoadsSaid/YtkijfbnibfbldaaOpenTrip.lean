/- An argument of type milepostlaw14.Trip opened. -/
import Derived.Test.YtkijfbnibfbldaaOpenU64
namespace Go.Proofs.Ytkijfbnibfbldaa
open Go.RowKit
open Go.ChangeShapes Go.WideShapes Go.ChangeAt Go.Deep
set_option linter.unusedVariables false
set_option maxRecDepth 100000
set_option linter.unusedSimpArgs false

/-- weights in a slice, where to, how far, whose edges are not to be had, who is avoided -/
structure TripS where
  A : Option Addr
  c : Nat
  W : List Nat
  to : Nat
  most : Nat
  bad : Nat
  avoid : Nat
structure TripOk (w : World) (e : TripS) : Prop where
  l : At w w.heap.size e.A (u64s e.W)
  ok : ∀ x ∈ e.W, x < 18446744073709551616
  to : e.to < 256
  most : e.most < 18446744073709551616
  bad : e.bad < 4294967296
  avoid : e.avoid < 4294967296
def tripA (e : TripS) : Array Value := #[.slice e.A e.W.length e.c, .int .u8 (e.to : Int), .int .u64 (e.most : Int), .int .u32 (e.bad : Int), .int .u32 (e.avoid : Int)]
theorem flat_trip : flat Try.prog 6 54 = some [45, 5, 27, 26, 26] := by kernel_rfl
theorem cells_trip : Try.prog.cellsOf 54 = [45, 5, 27, 26, 26].length := by kernel_rfl
theorem trip_of {H : Type} {enc : TypeId × Value → H} {W : World} {rc : Reach} {b0 : Nat} {v : Value} {d : DataW H} {p : List MemPlace} (hv : Value.okWide Try.prog W rc b0 54 v) (hT : DataW.Trod enc Try.prog W 0 (fun _ => true) true 54 v d p) :
    ∃ e : TripS, v = .agg (tripA e) ∧ TripOk W e := by
  obtain ⟨cs, rfl, hl, hf⟩ := flat_agg Try.underlying54 flat_trip cells_trip hv hT
  match cs, hl with
  | [d0, d1, d2, d3, d4], _ =>
    obtain ⟨c0, hc0, lf0⟩ := hf 0 45 rfl
    obtain ⟨c1, hc1, lf1⟩ := hf 1 5 rfl
    obtain ⟨z1, rfl, q1⟩ := lf1.int Try.underlying5
    obtain ⟨x1, rfl, m1⟩ := nat_u8 q1
    obtain ⟨c2, hc2, lf2⟩ := hf 2 27 rfl
    obtain ⟨z2, rfl, q2⟩ := lf2.int Try.underlying27
    obtain ⟨x2, rfl, m2⟩ := nat_u64 q2
    obtain ⟨c3, hc3, lf3⟩ := hf 3 26 rfl
    obtain ⟨z3, rfl, q3⟩ := lf3.int Try.underlying26
    obtain ⟨x3, rfl, m3⟩ := nat_u32 q3
    obtain ⟨c4, hc4, lf4⟩ := hf 4 26 rfl
    obtain ⟨z4, rfl, q4⟩ := lf4.int Try.underlying26
    obtain ⟨x4, rfl, m4⟩ := nat_u32 q4
    obtain rfl := Option.some.inj hc0
    obtain rfl := Option.some.inj hc1
    obtain rfl := Option.some.inj hc2
    obtain rfl := Option.some.inj hc3
    obtain rfl := Option.some.inj hc4
    obtain ⟨m, y, h⟩ := lf0
    have hs : ∃ A n c, d0 = .slice A n c := by
      rcases open_slice Try.underlying45 h with ⟨hcs, _⟩ | ⟨a, len, cap, m', n', D, Pl, hcs, _⟩
      · simp only [List.cons.injEq, and_true] at hcs
        exact ⟨_, _, _, hcs⟩
      · simp only [List.cons.injEq, and_true] at hcs
        exact ⟨_, _, _, hcs⟩
    obtain ⟨A, n, c, rfl⟩ := hs
    obtain ⟨l, h1, h2, h3, h4, h5⟩ := u64s_of (d := y.1) (p := y.2) ⟨m, h⟩
    exact ⟨⟨A, c, l, x1, x2, x3, x4⟩, by rw [h1]; rfl, ⟨h4, h5, m1, m2, m3, m4⟩⟩
end Go.Proofs.Ytkijfbnibfbldaa
