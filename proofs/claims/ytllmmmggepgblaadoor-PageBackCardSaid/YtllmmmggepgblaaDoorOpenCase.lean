/- Arguments of types milepostlaw07.Case and milepostlaw07.Burst opened. -/
import Derived.Test.YtllmmmggepgblaaDoorFrameB
import Derived.Test.YtllmmmggepgblaaDoorFlat
namespace Go.Proofs.YtllmmmggepgblaaDoor
open Go.RowKit
open Go.ChangeShapes Go.WideShapes Go.ChangeAt Go.Deep
set_option linter.unusedVariables false
set_option maxRecDepth 100000
set_option linter.unusedSimpArgs false

theorem byte_u8 {a : Int} (h : (Lit.int .u8 a).wf = true) : ∃ v : UInt8, a = ((v.toNat : Nat) : Int) := by
  obtain ⟨y, rfl, hy⟩ := nat_u8 h
  refine ⟨UInt8.ofNat y, ?_⟩
  rw [UInt8.toNat_ofNat', Nat.mod_eq_of_lt hy]
theorem Leaf.bytes {H : Type} {enc : TypeId × Value → H} {W : World} {c : Value} (h : Leaf enc Tryd.prog W 0 (fun _ => true) true 23 c) : ∃ A n cap l, c = .slice A n cap ∧ n = l.length ∧ n ≤ cap ∧ cap ≤ maxLen ∧ Bs W A l := by
  obtain ⟨m, y, h⟩ := h
  have hs : ∃ A n k, c = .slice A n k := by
    rcases open_slice Tryd.underlying23 h with ⟨hcs, _⟩ | ⟨a, len, cap, m', n', D, Pl, hcs, _⟩
    · simp only [List.cons.injEq, and_true] at hcs
      exact ⟨_, _, _, hcs⟩
    · simp only [List.cons.injEq, and_true] at hcs
      exact ⟨_, _, _, hcs⟩
  obtain ⟨A, n, k, rfl⟩ := hs
  obtain ⟨l, h1, h2, h3, h4⟩ := came_of (d := y.1) (p := y.2) ⟨m, h⟩
  exact ⟨A, n, k, l, rfl, h1, h2, h3, h4⟩

/-- bytes, two pairs of numbers, bytes -/
structure CaseS where
  A : Option Addr
  n : Nat
  c : Nat
  b : List UInt8
  t : Nat
  u : Nat
  t' : Nat
  u' : Nat
  D : Option Addr
  m : Nat
  d : Nat
  p : List UInt8
structure CaseOk (W : World) (e : CaseS) : Prop where
  n : e.n = e.b.length
  c : e.n ≤ e.c
  cm : e.c ≤ maxLen
  b : Bs W e.A e.b
  t : e.t < 4294967296
  u : e.u < 4294967296
  t' : e.t' < 4294967296
  u' : e.u' < 4294967296
  m : e.m = e.p.length
  d : e.m ≤ e.d
  dm : e.d ≤ maxLen
  p : Bs W e.D e.p
theorem flat_case : flat Tryd.prog 6 38 = some [23, 22, 22, 22, 22, 23] := by kernel_rfl
theorem cells_case : Tryd.prog.cellsOf 38 = [23, 22, 22, 22, 22, 23].length := by kernel_rfl
theorem case_of {H : Type} {enc : TypeId × Value → H} {W : World} {rc : Reach} {b0 : Nat} {v : Value} {d : DataW H} {p : List MemPlace} (hv : Value.okWide Tryd.prog W rc b0 38 v) (hT : DataW.Trod enc Tryd.prog W 0 (fun _ => true) true 38 v d p) :
    ∃ e : CaseS, v = .agg #[.slice e.A e.n e.c, .int .u32 (e.t : Int), .int .u32 (e.u : Int), .int .u32 (e.t' : Int), .int .u32 (e.u' : Int), .slice e.D e.m e.d] ∧ CaseOk W e := by
  obtain ⟨cs, rfl, hl, hf⟩ := flat_agg Tryd.underlying38 flat_case cells_case hv hT
  match cs, hl with
  | [d0, d1, d2, d3, d4, d5], _ =>
    obtain ⟨c0, hc0, lf0⟩ := hf 0 23 rfl
    obtain ⟨A, n, cap, l, rfl, h1, h2, h3, h4⟩ := lf0.bytes
    obtain ⟨c1, hc1, lf1⟩ := hf 1 22 rfl
    obtain ⟨z1, rfl, q1⟩ := lf1.int Tryd.underlying22
    obtain ⟨x1, rfl, m1⟩ := nat_u32 q1
    obtain ⟨c2, hc2, lf2⟩ := hf 2 22 rfl
    obtain ⟨z2, rfl, q2⟩ := lf2.int Tryd.underlying22
    obtain ⟨x2, rfl, m2⟩ := nat_u32 q2
    obtain ⟨c3, hc3, lf3⟩ := hf 3 22 rfl
    obtain ⟨z3, rfl, q3⟩ := lf3.int Tryd.underlying22
    obtain ⟨x3, rfl, m3⟩ := nat_u32 q3
    obtain ⟨c4, hc4, lf4⟩ := hf 4 22 rfl
    obtain ⟨z4, rfl, q4⟩ := lf4.int Tryd.underlying22
    obtain ⟨x4, rfl, m4⟩ := nat_u32 q4
    obtain ⟨c5, hc5, lf5⟩ := hf 5 23 rfl
    obtain ⟨A', n', cap', l', rfl, g1, g2, g3, g4⟩ := lf5.bytes
    obtain rfl := Option.some.inj hc0
    obtain rfl := Option.some.inj hc1
    obtain rfl := Option.some.inj hc2
    obtain rfl := Option.some.inj hc3
    obtain rfl := Option.some.inj hc4
    obtain rfl := Option.some.inj hc5
    exact ⟨⟨A, n, cap, l, x1, x2, x3, x4, A', n', cap', l'⟩, rfl, ⟨h1, h2, h3, h4, m1, m2, m3, m4, g1, g2, g3, g4⟩⟩

/-- a pair of numbers, bytes, a place, a mask -/
structure BurstS where
  t : Nat
  u : Nat
  A : Option Addr
  n : Nat
  c : Nat
  b : List UInt8
  z : Int
  x : Nat
structure BurstOk (W : World) (e : BurstS) : Prop where
  t : e.t < 4294967296
  u : e.u < 4294967296
  n : e.n = e.b.length
  c : e.n ≤ e.c
  cm : e.c ≤ maxLen
  b : Bs W e.A e.b
  z1 : -9223372036854775808 ≤ e.z
  z2 : e.z ≤ 9223372036854775807
  x : e.x < 4294967296
theorem flat_burst : flat Tryd.prog 6 41 = some [22, 22, 23, 3, 22] := by kernel_rfl
theorem cells_burst : Tryd.prog.cellsOf 41 = [22, 22, 23, 3, 22].length := by kernel_rfl
theorem burst_of {H : Type} {enc : TypeId × Value → H} {W : World} {rc : Reach} {b0 : Nat} {v : Value} {d : DataW H} {p : List MemPlace} (hv : Value.okWide Tryd.prog W rc b0 41 v) (hT : DataW.Trod enc Tryd.prog W 0 (fun _ => true) true 41 v d p) :
    ∃ e : BurstS, v = .agg #[.int .u32 (e.t : Int), .int .u32 (e.u : Int), .slice e.A e.n e.c, .int .i64 e.z, .int .u32 (e.x : Int)] ∧ BurstOk W e := by
  obtain ⟨cs, rfl, hl, hf⟩ := flat_agg Tryd.underlying41 flat_burst cells_burst hv hT
  match cs, hl with
  | [d0, d1, d2, d3, d4], _ =>
    obtain ⟨c0, hc0, lf0⟩ := hf 0 22 rfl
    obtain ⟨z0, rfl, q0⟩ := lf0.int Tryd.underlying22
    obtain ⟨x0, rfl, m0⟩ := nat_u32 q0
    obtain ⟨c1, hc1, lf1⟩ := hf 1 22 rfl
    obtain ⟨z1, rfl, q1⟩ := lf1.int Tryd.underlying22
    obtain ⟨x1, rfl, m1⟩ := nat_u32 q1
    obtain ⟨c2, hc2, lf2⟩ := hf 2 23 rfl
    obtain ⟨A, n, cap, l, rfl, h1, h2, h3, h4⟩ := lf2.bytes
    obtain ⟨c3, hc3, lf3⟩ := hf 3 3 rfl
    obtain ⟨z3, rfl, q3⟩ := lf3.int Tryd.underlying3
    have m3 := bounds_i64 q3
    obtain ⟨c4, hc4, lf4⟩ := hf 4 22 rfl
    obtain ⟨z4, rfl, q4⟩ := lf4.int Tryd.underlying22
    obtain ⟨x4, rfl, m4⟩ := nat_u32 q4
    obtain rfl := Option.some.inj hc0
    obtain rfl := Option.some.inj hc1
    obtain rfl := Option.some.inj hc2
    obtain rfl := Option.some.inj hc3
    obtain rfl := Option.some.inj hc4
    exact ⟨⟨x0, x1, A, n, cap, l, z3, x4⟩, rfl, ⟨m0, m1, h1, h2, h3, h4, m3.1, m3.2, m4⟩⟩
end Go.Proofs.YtllmmmggepgblaaDoor
