/- An argument of type api.Rec, and a slice of such, opened. -/
import Derived.Test.YtiohijkelagloaaDoorFrame
import Derived.Test.YtiohijkelagloaaDoorFlat
import Derived.Test.YtiohijkelagloaaDoorQJrMath
import Derived.Test.YtiohijkelagloaaDoorLawDisk
import Derived.Test.YtiohijkelagloaaDoorBase
import Derived.Test.YtiohijkelagloaaDoorFrameB
namespace Go.Proofs.YtiohijkelagloaaDoor
open Go.RowKit
open Go.ChangeShapes Go.WideShapes Go.ChangeAt
set_option linter.unusedVariables false
set_option maxRecDepth 100000
set_option linter.unusedSimpArgs false

theorem flat_rec : flat Tryd.prog 6 43 = some [41, 41, 41] := by kernel_rfl
theorem cells_rec : Tryd.prog.cellsOf 43 = [41, 41, 41].length := by kernel_rfl
theorem rec_of {H : Type} {enc : TypeId × Value → H} {W : World} {rc : Reach} {b0 : Nat} {v : Value} {d : DataW H} {p : List MemPlace} (hv : Value.okWide Tryd.prog W rc b0 43 v) (hT : DataW.Trod enc Tryd.prog W 0 (fun _ => true) true 43 v d p) :
    ∃ e : RecS, v = .agg #[.int .u32 (e.kind : Int), .int .u32 (e.a : Int), .int .u32 (e.b : Int)] ∧ RecOk e := by
  obtain ⟨cs, rfl, hl, hf⟩ := flat_agg Tryd.underlying43 flat_rec cells_rec hv hT
  match cs, hl with
  | [d0, d1, d2], _ =>
    obtain ⟨c0, hc0, lf0⟩ := hf 0 41 rfl
    obtain ⟨z0, rfl, q0⟩ := lf0.int Tryd.underlying41
    obtain ⟨x0, rfl, m0⟩ := nat_u32 q0
    obtain ⟨c1, hc1, lf1⟩ := hf 1 41 rfl
    obtain ⟨z1, rfl, q1⟩ := lf1.int Tryd.underlying41
    obtain ⟨x1, rfl, m1⟩ := nat_u32 q1
    obtain ⟨c2, hc2, lf2⟩ := hf 2 41 rfl
    obtain ⟨z2, rfl, q2⟩ := lf2.int Tryd.underlying41
    obtain ⟨x2, rfl, m2⟩ := nat_u32 q2
    obtain rfl := Option.some.inj hc0
    obtain rfl := Option.some.inj hc1
    obtain rfl := Option.some.inj hc2
    exact ⟨⟨x0, x1, x2⟩, rfl, ⟨m0, m1, m2⟩⟩
theorem recs_of {H : Type} {enc : TypeId × Value → H} {W : World} {A : Option Addr} {n c : Nat} {d : DataW H} {p : List MemPlace} (hT : DataW.Trod enc Tryd.prog W 0 (fun _ => true) true 36 (.slice A n c) d p) :
    ∃ l : List RecS, n = l.length ∧ n ≤ c ∧ c ≤ maxLen ∧ At W W.heap.size A (l.flatMap recC) ∧ ∀ e ∈ l, RecOk e := by
  obtain ⟨fuel, hf⟩ := hT
  obtain ⟨h1, h2, h3, h4⟩ := flat_slice Tryd.underlying36 flat_rec cells_rec ⟨fuel, _, hf⟩
  obtain ⟨l, hl, hq⟩ := list_of (Q := fun i (e : RecS) => RecOk e ∧ ∃ ad, A = some ad ∧ ∀ j u, (recC e)[j]? = some u → W.cell? (ad.add (i * 3 + j)) = some u) n fun i hi => by
    obtain ⟨ad, rfl, hc⟩ := h4 i hi
    obtain ⟨c0, hc0, lf0⟩ := hc 0 41 rfl
    obtain ⟨z0, rfl, q0⟩ := lf0.int Tryd.underlying41
    obtain ⟨x0, rfl, m0⟩ := nat_u32 q0
    obtain ⟨c1, hc1, lf1⟩ := hc 1 41 rfl
    obtain ⟨z1, rfl, q1⟩ := lf1.int Tryd.underlying41
    obtain ⟨x1, rfl, m1⟩ := nat_u32 q1
    obtain ⟨c2, hc2, lf2⟩ := hc 2 41 rfl
    obtain ⟨z2, rfl, q2⟩ := lf2.int Tryd.underlying41
    obtain ⟨x2, rfl, m2⟩ := nat_u32 q2
    refine ⟨⟨x0, x1, x2⟩, ⟨m0, m1, m2⟩, ad, rfl, fun j u hu => ?_⟩
    have hj : j < 3 := by have := (List.getElem?_eq_some_iff.1 hu).1; simpa [recC] using this
    rcases (show j = 0 ∨ j = 1 ∨ j = 2 by omega) with rfl | rfl | rfl
    · obtain rfl := Option.some.inj hu; exact hc0
    · obtain rfl := Option.some.inj hu; exact hc1
    · obtain rfl := Option.some.inj hu; exact hc2
  refine ⟨l, hl.symm, h1, h2, ?_, fun e he => ?_⟩
  · rcases A with _ | ad
    · obtain ⟨rfl, _⟩ := h3 rfl
      left
      have : l = [] := List.eq_nil_of_length_eq_zero hl
      subst this
      rfl
    · refine at_rows recC 3 (fun _ => rfl) (by decide) l hl ad (fun _ => rfl) fun i x hx => ?_
      obtain ⟨_, ad', e', hc⟩ := hq i x hx
      obtain rfl := Option.some.inj e'
      exact hc
  · obtain ⟨i, hi⟩ := List.getElem?_of_mem he
    exact (hq i e hi).1
end Go.Proofs.YtiohijkelagloaaDoor
/- A slice of int, opened. -/
namespace Go.Proofs.YtiohijkelagloaaDoor
open Go.RowKit
open Go.ChangeShapes Go.WideShapes Go.ChangeAt
set_option linter.unusedVariables false
set_option maxRecDepth 100000
set_option linter.unusedSimpArgs false

theorem flat_int : flat Tryd.prog 6 3 = some [3] := by kernel_rfl
theorem cells_int : Tryd.prog.cellsOf 3 = [3].length := by kernel_rfl
theorem ints_of {H : Type} {enc : TypeId × Value → H} {W : World} {A : Option Addr} {n c : Nat} {d : DataW H} {p : List MemPlace} (hT : DataW.Trod enc Tryd.prog W 0 (fun _ => true) true 47 (.slice A n c) d p) :
    ∃ l : List Int, n = l.length ∧ n ≤ c ∧ c ≤ maxLen ∧ At W W.heap.size A (intC l) ∧ ∀ x ∈ l, -9223372036854775808 ≤ x ∧ x ≤ 9223372036854775807 := by
  obtain ⟨fuel, hf⟩ := hT
  obtain ⟨h1, h2, h3, h4⟩ := flat_slice Tryd.underlying47 flat_int cells_int ⟨fuel, _, hf⟩
  obtain ⟨l, hl, hq⟩ := list_of (Q := fun i (e : Int) => (-9223372036854775808 ≤ e ∧ e ≤ 9223372036854775807) ∧ ∃ ad, A = some ad ∧ ∀ j u, [Value.int .i64 e][j]? = some u → W.cell? (ad.add (i * 1 + j)) = some u) n fun i hi => by
    obtain ⟨ad, rfl, hc⟩ := h4 i hi
    obtain ⟨c0, hc0, lf0⟩ := hc 0 3 rfl
    obtain ⟨z0, rfl, q0⟩ := lf0.int Tryd.underlying3
    have m0 := bounds_i64 q0
    refine ⟨z0, m0, ad, rfl, fun j u hu => ?_⟩
    have hj : j < 1 := by have := (List.getElem?_eq_some_iff.1 hu).1; simpa using this
    obtain rfl : j = 0 := by omega
    obtain rfl := Option.some.inj hu
    exact hc0
  have e : intC l = l.flatMap fun (e : Int) => [Value.int .i64 e] := by
    unfold intC
    clear hl hq
    induction l with
    | nil => rfl
    | cons a l ih => simpa using ih
  refine ⟨l, hl.symm, h1, h2, ?_, fun e he => ?_⟩
  · rcases A with _ | ad
    · obtain ⟨rfl, _⟩ := h3 rfl
      left
      have : l = [] := List.eq_nil_of_length_eq_zero hl
      subst this
      rfl
    · rw [e]
      refine at_rows (fun (e : Int) => [Value.int .i64 e]) 1 (fun _ => rfl) (by decide) l hl ad (fun _ => rfl) fun i x hx => ?_
      obtain ⟨_, ad', e', hc⟩ := hq i x hx
      obtain rfl := Option.some.inj e'
      exact hc
  · obtain ⟨i, hi⟩ := List.getElem?_of_mem he
    exact (hq i e hi).1
end Go.Proofs.YtiohijkelagloaaDoor
/- Rows of numbers as a slice of slices has them. -/
namespace Go.Proofs.YtiohijkelagloaaDoor
open Go.RowKit
set_option linter.unusedSimpArgs false
set_option linter.unusedVariables false
set_option maxRecDepth 100000

structure KwS where
  A : Option Addr
  n : Nat
  c : Nat
  l : List Int
def kwV (r : KwS) : Value := .slice r.A r.n r.c
structure KwGood (W : World) (r : KwS) : Prop where
  len : r.n = r.l.length
  c : r.n ≤ r.c
  m : r.c ≤ maxLen
  b : At W W.heap.size r.A (intC r.l)
structure KeepsAt (W : World) (A : Option Addr) (rs : List KwS) : Prop where
  cells : At W W.heap.size A (rs.map kwV)
  ok : ∀ r ∈ rs, KwGood W r
theorem KwGood.keep {W W' : World} {r : KwS} (h : KwGood W r) (k : Keeps W W') : KwGood W' r := ⟨h.len, h.c, h.m, (h.b.keep k).more k.size⟩
theorem KeepsAt.keep {W W' : World} {A : Option Addr} {rs : List KwS} (h : KeepsAt W A rs) (k : Keeps W W') : KeepsAt W' A rs := ⟨(h.cells.keep k).more k.size, fun r hr => (h.ok r hr).keep k⟩
theorem KeepsAt.get {W : World} {A : Option Addr} {rs : List KwS} (h : KeepsAt W A rs) {i : Nat} {r : KwS} (hr : rs[i]? = some r) : ∃ ad, A = some ad ∧ W.cell? (ad.add i) = some (.slice r.A r.n r.c) ∧ KwGood W r := by
  obtain ⟨ad, e, -, hc⟩ := At.get h.cells (k := i) (by rw [List.length_map]; exact (List.getElem?_eq_some_iff.1 hr).1)
  refine ⟨ad, e, ?_, h.ok r (List.mem_of_getElem? hr)⟩
  rw [hc, List.getElem?_map, hr]
  rfl
def keepsL (rs : List KwS) : List (List Int) := rs.map (·.l)
theorem keepsL_length (rs : List KwS) : (keepsL rs).length = rs.length := by simp [keepsL]
theorem keepsL_get (rs : List KwS) (i : Nat) : (keepsL rs)[i]? = (rs[i]?).map (·.l) := by simp [keepsL]
end Go.Proofs.YtiohijkelagloaaDoor
/- A slice of slices of numbers, opened. -/
namespace Go.Proofs.YtiohijkelagloaaDoor
open Go.RowKit
open Go.ChangeShapes Go.WideShapes Go.ChangeAt Go.Deep
set_option linter.unusedVariables false
set_option maxRecDepth 100000
set_option linter.unusedSimpArgs false

theorem flat_ints : flat Tryd.prog 6 47 = some [47] := by kernel_rfl
theorem cells_ints : Tryd.prog.cellsOf 47 = [47].length := by kernel_rfl
theorem keepsK_of {H : Type} {enc : TypeId × Value → H} {W : World} {A : Option Addr} {n c : Nat} {d : DataW H} {p : List MemPlace} (hT : DataW.Trod enc Tryd.prog W 0 (fun _ => true) true 48 (.slice A n c) d p) :
    ∃ l : List KwS, n = l.length ∧ n ≤ c ∧ c ≤ maxLen ∧ KeepsAt W A l ∧ True := by
  obtain ⟨fuel, hf⟩ := hT
  obtain ⟨h1, h2, h3, h4⟩ := flat_slice Tryd.underlying48 flat_ints cells_ints ⟨fuel, _, hf⟩
  obtain ⟨l, hl, hq⟩ := list_of (Q := fun i (e : KwS) => KwGood W e ∧ ∃ ad, A = some ad ∧ ∀ j u, [kwV e][j]? = some u → W.cell? (ad.add (i * 1 + j)) = some u) n fun i hi => by
    obtain ⟨ad, rfl, hc⟩ := h4 i hi
    obtain ⟨c0, hc0, m0, y0, lf0⟩ := hc 0 47 rfl
    have hs : ∃ A n k, c0 = .slice A n k := by
      rcases open_slice Tryd.underlying47 lf0 with ⟨hcs, _⟩ | ⟨a, len, cap, m', n', D, Pl, hcs, _⟩
      · simp only [List.cons.injEq, and_true] at hcs
        exact ⟨_, _, _, hcs⟩
      · simp only [List.cons.injEq, and_true] at hcs
        exact ⟨_, _, _, hcs⟩
    obtain ⟨A0, n0, k0, rfl⟩ := hs
    obtain ⟨l0, x1, x2, x3, x4, -⟩ := ints_of (d := y0.1) (p := y0.2) ⟨m0, lf0⟩
    refine ⟨⟨A0, n0, k0, l0⟩, ⟨x1, x2, x3, x4⟩, ad, rfl, fun j u hu => ?_⟩
    have hj : j < 1 := by have := (List.getElem?_eq_some_iff.1 hu).1; simpa using this
    obtain rfl : j = 0 := by omega
    obtain rfl := Option.some.inj hu
    exact hc0
  have e : l.map kwV = l.flatMap fun (e : KwS) => [kwV e] := by
    clear hl hq
    induction l with
    | nil => rfl
    | cons a l ih => simpa using ih
  refine ⟨l, hl.symm, h1, h2, ⟨?_, fun r hr => ?_⟩, trivial⟩
  · rcases A with _ | ad
    · obtain ⟨rfl, _⟩ := h3 rfl
      left
      have : l = [] := List.eq_nil_of_length_eq_zero hl
      subst this
      rfl
    · rw [e]
      refine at_rows (fun (e : KwS) => [kwV e]) 1 (fun _ => rfl) (by decide) l hl ad (fun _ => rfl) fun i x hx => ?_
      obtain ⟨_, ad', e', hc⟩ := hq i x hx
      obtain rfl := Option.some.inj e'
      exact hc
  · obtain ⟨i, hi⟩ := List.getElem?_of_mem hr
    exact (hq i r hi).1
end Go.Proofs.YtiohijkelagloaaDoor
