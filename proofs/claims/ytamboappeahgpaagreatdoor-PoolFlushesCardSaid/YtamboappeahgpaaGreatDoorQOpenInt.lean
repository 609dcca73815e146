/- A slice of int, opened. -/
import Derived.Test.YtamboappeahgpaaGreatDoorQFrame
import Derived.Test.YtamboappeahgpaaGreatDoorQBase
import Derived.Test.YtamboappeahgpaaGreatDoorQLawDisk
import Derived.Test.YtamboappeahgpaaGreatDoorQLawDisk6
namespace Go.Proofs.YtamboappeahgpaaGreatDoor
open Go.RowKit
open Go.ChangeShapes Go.WideShapes Go.ChangeAt
set_option linter.unusedVariables false
set_option maxRecDepth 100000
set_option linter.unusedSimpArgs false

theorem flat_int : flat Tryz.prog 6 3 = some [3] := by kernel_rfl
theorem cells_int : Tryz.prog.cellsOf 3 = [3].length := by kernel_rfl
theorem ints_of {H : Type} {enc : TypeId × Value → H} {W : World} {A : Option Addr} {n c : Nat} {d : DataW H} {p : List MemPlace} (hT : DataW.Trod enc Tryz.prog W 0 (fun _ => true) true 35 (.slice A n c) d p) :
    ∃ l : List Int, n = l.length ∧ n ≤ c ∧ c ≤ maxLen ∧ At W W.heap.size A (intC l) ∧ ∀ x ∈ l, -9223372036854775808 ≤ x ∧ x ≤ 9223372036854775807 := by
  obtain ⟨fuel, hf⟩ := hT
  obtain ⟨h1, h2, h3, h4⟩ := flat_slice Tryz.underlying35 flat_int cells_int ⟨fuel, _, hf⟩
  obtain ⟨l, hl, hq⟩ := list_of (Q := fun i (e : Int) => (-9223372036854775808 ≤ e ∧ e ≤ 9223372036854775807) ∧ ∃ ad, A = some ad ∧ ∀ j u, [Value.int .i64 e][j]? = some u → W.cell? (ad.add (i * 1 + j)) = some u) n fun i hi => by
    obtain ⟨ad, rfl, hc⟩ := h4 i hi
    obtain ⟨c0, hc0, lf0⟩ := hc 0 3 rfl
    obtain ⟨z0, rfl, q0⟩ := lf0.int Tryz.underlying3
    have m0 := bounds_i64 q0
    refine ⟨z0, m0, ad, rfl, fun j u hu => ?_⟩
    have hj : j < 1 := by have := (List.getElem?_eq_some_iff.1 hu).1; simpa using this
    obtain rfl : j = 0 := by omega
    obtain rfl := Option.some.inj hu
    exact hc0
  have e : intC l = l.flatMap fun (e : Int) => [Value.int .i64 e] := by
    unfold intC
    clear hl hq
    induction l with
    | nil => rfl
    | cons a l ih => simpa using ih
  refine ⟨l, hl.symm, h1, h2, ?_, fun e he => ?_⟩
  · rcases A with _ | ad
    · obtain ⟨rfl, _⟩ := h3 rfl
      left
      have : l = [] := List.eq_nil_of_length_eq_zero hl
      subst this
      rfl
    · rw [e]
      refine at_rows (fun (e : Int) => [Value.int .i64 e]) 1 (fun _ => rfl) (by decide) l hl ad (fun _ => rfl) fun i x hx => ?_
      obtain ⟨_, ad', e', hc⟩ := hq i x hx
      obtain rfl := Option.some.inj e'
      exact hc
  · obtain ⟨i, hi⟩ := List.getElem?_of_mem he
    exact (hq i e hi).1
end Go.Proofs.YtamboappeahgpaaGreatDoor
/- Arguments of type milepostlaw06.Op, and slices of such, opened. -/
namespace Go.Proofs.YtamboappeahgpaaGreatDoor
open Go.RowKit
open Go.ChangeShapes Go.WideShapes Go.ChangeAt Go.Deep
set_option linter.unusedVariables false
set_option maxRecDepth 100000
set_option linter.unusedSimpArgs false

theorem flat_op : flat Tryz.prog 6 41 = some [3, 9, 9, 3, 3, 34, 5, 35] := by kernel_rfl
theorem cells_op : Tryz.prog.cellsOf 41 = [3, 9, 9, 3, 3, 34, 5, 35].length := by kernel_rfl
section
variable {H : Type} {enc : TypeId × Value → H} {W : World}
abbrev LeafT (enc : TypeId × Value → H) (W : World) (T : TypeId) (c : Value) : Prop := Leaf enc Tryz.prog W 0 (fun _ => true) true T c
theorem leaf_str {c : Value} (h : LeafT enc W 9 c) : ∃ s : List UInt8, c = strV s ∧ s.length ≤ maxLen := by
  obtain ⟨n, y, h⟩ := h
  obtain ⟨s, e, -, h2⟩ := DataW.trod_string Tryz.underlying9 h
  simp only [List.cons.injEq, and_true] at e
  exact ⟨s.data.toList, by rw [e]; rfl, by simpa using h2⟩
theorem leaf_slice {T E : TypeId} (hT : Tryz.prog.underlying T = some (.slice E)) {c : Value} (h : LeafT enc W T c) : ∃ A n k, c = .slice A n k := by
  obtain ⟨m, y, h⟩ := h
  rcases open_slice hT h with ⟨hcs, _⟩ | ⟨a, len, cap, m', n', D, Pl, hcs, _⟩
  · simp only [List.cons.injEq, and_true] at hcs
    exact ⟨_, _, _, hcs⟩
  · simp only [List.cons.injEq, and_true] at hcs
    exact ⟨_, _, _, hcs⟩
/-- the eight cells of one of them -/
theorem op_leaves {c0 c1 c2 c3 c4 c5 c6 c7 : Value} (l0 : LeafT enc W 3 c0) (l1 : LeafT enc W 9 c1) (l2 : LeafT enc W 9 c2) (l3 : LeafT enc W 3 c3) (l4 : LeafT enc W 3 c4) (l5 : LeafT enc W 34 c5) (l6 : LeafT enc W 5 c6) (l7 : LeafT enc W 35 c7) :
    ∃ o : OpS, [c0, c1, c2, c3, c4, c5, c6, c7] = opC o ∧ OpOk W o := by
  obtain ⟨z0, rfl, q0⟩ := l0.int Tryz.underlying3
  obtain ⟨s1, rfl, m1⟩ := leaf_str l1
  obtain ⟨s2, rfl, m2⟩ := leaf_str l2
  obtain ⟨z3, rfl, q3⟩ := l3.int Tryz.underlying3
  obtain ⟨z4, rfl, q4⟩ := l4.int Tryz.underlying3
  obtain ⟨A5, n5, k5, rfl⟩ := leaf_slice Tryz.underlying34 l5
  obtain ⟨z6, rfl, q6⟩ := l6.int Tryz.underlying5
  obtain ⟨A7, n7, k7, rfl⟩ := leaf_slice Tryz.underlying35 l7
  obtain ⟨f5, y5, h5⟩ := l5
  obtain ⟨b5, x1, x2, x3, x4⟩ := came_of (d := y5.1) (p := y5.2) ⟨f5, h5⟩
  obtain ⟨f7, y7, h7⟩ := l7
  obtain ⟨b7, u1, u2, u3, u4, -⟩ := ints_of (d := y7.1) (p := y7.2) ⟨f7, h7⟩
  obtain ⟨x6, rfl, m6⟩ := nat_u8 q6
  have e6 : ((UInt8.ofNat x6).toNat : Int) = (x6 : Int) := by
    rw [UInt8.toNat_ofNat_of_lt' m6]
  exact ⟨⟨⟨z0, s1, s2, z3, z4, b5, UInt8.ofNat x6, b7⟩, A5, n5, k5, A7, n7, k7⟩, by
    show [_, _, _, _, _, _, _, _] = [Value.int .i64 z0, strV s1, strV s2, .int .i64 z3, .int .i64 z4, .slice A5 n5 k5, .int .u8 ((UInt8.ofNat x6).toNat : Int), .slice A7 n7 k7]
    rw [e6], ⟨bounds_i64 q0, m1, m2, bounds_i64 q3, bounds_i64 q4, x1, x2, x3, x4, u1, u2, u3, u4⟩⟩
theorem op_of {rc : Reach} {b0 : Nat} {v : Value} {d : DataW H} {p : List MemPlace} (hv : Value.okWide Tryz.prog W rc b0 41 v) (hT : DataW.Trod enc Tryz.prog W 0 (fun _ => true) true 41 v d p) :
    ∃ o : OpS, v = .agg (opA o) ∧ OpOk W o := by
  obtain ⟨cs, rfl, hl, hf⟩ := flat_agg Tryz.underlying41 flat_op cells_op hv hT
  match cs, hl with
  | [d0, d1, d2, d3, d4, d5, d6, d7], _ =>
    obtain ⟨c0, hc0, lf0⟩ := hf 0 3 rfl
    obtain ⟨c1, hc1, lf1⟩ := hf 1 9 rfl
    obtain ⟨c2, hc2, lf2⟩ := hf 2 9 rfl
    obtain ⟨c3, hc3, lf3⟩ := hf 3 3 rfl
    obtain ⟨c4, hc4, lf4⟩ := hf 4 3 rfl
    obtain ⟨c5, hc5, lf5⟩ := hf 5 34 rfl
    obtain ⟨c6, hc6, lf6⟩ := hf 6 5 rfl
    obtain ⟨c7, hc7, lf7⟩ := hf 7 35 rfl
    obtain rfl := Option.some.inj hc0
    obtain rfl := Option.some.inj hc1
    obtain rfl := Option.some.inj hc2
    obtain rfl := Option.some.inj hc3
    obtain rfl := Option.some.inj hc4
    obtain rfl := Option.some.inj hc5
    obtain rfl := Option.some.inj hc6
    obtain rfl := Option.some.inj hc7
    obtain ⟨o, ho, ok⟩ := op_leaves lf0 lf1 lf2 lf3 lf4 lf5 lf6 lf7
    refine ⟨o, ?_, ok⟩
    rw [ho]
    rfl
theorem ops_of {A : Option Addr} {n c : Nat} {d : DataW H} {p : List MemPlace} (hT : DataW.Trod enc Tryz.prog W 0 (fun _ => true) true 90 (.slice A n c) d p) :
    ∃ l : List OpS, n = l.length ∧ n ≤ c ∧ c ≤ maxLen ∧ OpsAt W A l ∧ True := by
  obtain ⟨fuel, hf⟩ := hT
  obtain ⟨h1, h2, h3, h4⟩ := flat_slice Tryz.underlying90 flat_op cells_op ⟨fuel, _, hf⟩
  obtain ⟨l, hl, hq⟩ := list_of (Q := fun i (o : OpS) => OpOk W o ∧ ∃ ad, A = some ad ∧ ∀ j u, (opC o)[j]? = some u → W.cell? (ad.add (i * 8 + j)) = some u) n fun i hi => by
    obtain ⟨ad, rfl, hc⟩ := h4 i hi
    obtain ⟨c0, hc0, lf0⟩ := hc 0 3 rfl
    obtain ⟨c1, hc1, lf1⟩ := hc 1 9 rfl
    obtain ⟨c2, hc2, lf2⟩ := hc 2 9 rfl
    obtain ⟨c3, hc3, lf3⟩ := hc 3 3 rfl
    obtain ⟨c4, hc4, lf4⟩ := hc 4 3 rfl
    obtain ⟨c5, hc5, lf5⟩ := hc 5 34 rfl
    obtain ⟨c6, hc6, lf6⟩ := hc 6 5 rfl
    obtain ⟨c7, hc7, lf7⟩ := hc 7 35 rfl
    obtain ⟨o, ho, ok⟩ := op_leaves lf0 lf1 lf2 lf3 lf4 lf5 lf6 lf7
    refine ⟨o, ok, ad, rfl, fun j u hu => ?_⟩
    have hj : j < 8 := by have := (List.getElem?_eq_some_iff.1 hu).1; rwa [opC_length] at this
    rw [← ho] at hu
    rcases (show j = 0 ∨ j = 1 ∨ j = 2 ∨ j = 3 ∨ j = 4 ∨ j = 5 ∨ j = 6 ∨ j = 7 by omega) with rfl | rfl | rfl | rfl | rfl | rfl | rfl | rfl
    · obtain rfl := Option.some.inj hu; exact hc0
    · obtain rfl := Option.some.inj hu; exact hc1
    · obtain rfl := Option.some.inj hu; exact hc2
    · obtain rfl := Option.some.inj hu; exact hc3
    · obtain rfl := Option.some.inj hu; exact hc4
    · obtain rfl := Option.some.inj hu; exact hc5
    · obtain rfl := Option.some.inj hu; exact hc6
    · obtain rfl := Option.some.inj hu; exact hc7
  refine ⟨l, hl.symm, h1, h2, ⟨?_, fun o ho => ?_⟩, trivial⟩
  · rcases A with _ | ad
    · obtain ⟨rfl, _⟩ := h3 rfl
      left
      have : l = [] := List.eq_nil_of_length_eq_zero hl
      subst this
      rfl
    · refine at_rows opC 8 opC_length (by decide) l hl ad (fun _ => rfl) fun i x hx => ?_
      obtain ⟨_, ad', e', hc⟩ := hq i x hx
      obtain rfl := Option.some.inj e'
      exact hc
  · obtain ⟨i, hi⟩ := List.getElem?_of_mem ho
    exact (hq i o hi).1
end
end Go.Proofs.YtamboappeahgpaaGreatDoor
