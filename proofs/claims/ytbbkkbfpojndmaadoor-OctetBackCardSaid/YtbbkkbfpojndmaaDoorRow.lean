/- A row of the statements of layer 1, opened: an edge, what is kept of a vertex, a label, a number. -/
import Derived.Test.YtbbkkbfpojndmaaDoorFrame
namespace Go.Proofs.YtbbkkbfpojndmaaDoor
open Go.RowKit
open Go.ChangeShapes Go.WideShapes Go.ChangeAt
set_option linter.unusedVariables false
set_option linter.unusedSimpArgs false

theorem c43 : Tryd.prog.cellsOf 43 = 11 := by kernel_rfl
theorem c37 : Tryd.prog.cellsOf 37 = 4 := by kernel_rfl
theorem c39 : Tryd.prog.cellsOf 39 = 3 := by kernel_rfl
theorem c41 : Tryd.prog.cellsOf 41 = 3 := by kernel_rfl
theorem c35 : Tryd.prog.cellsOf 35 = 1 := by kernel_rfl
theorem c25 : Tryd.prog.cellsOf 25 = 1 := by kernel_rfl

theorem leaf {H : Type} {enc : TypeId × Value → H} {P : Program} {w : World} {b : Nat} {sp : Nat → Bool} {hd : Bool} {n : Nat} {t : TypeId} {k : IntKind} {c : Value} {x : Option (DataW H × List MemPlace)} (ht : P.underlying t = some (.int k)) (h : DataW.trod enc P w b sp hd n t [c] = x) (hx : x.isSome = true) : ∃ a, c = .int k a ∧ (Lit.int k a).wf = true := by
  obtain ⟨y, rfl⟩ := Option.isSome_iff_exists.1 hx
  obtain ⟨a, e, _, hw⟩ := DataW.trod_int ht h
  exact ⟨a, by simpa using e, hw⟩

theorem fld {H : Type} {enc : TypeId × Value → H} {P : Program} {w : World} {b : Nat} {sp : Nat → Bool} {hd : Bool} {n : Nat} {fs : Array Field} {cs : List Value} {xs : List (DataW H × List MemPlace)}
    (hg : ∀ (i : Nat) (f : Field), fs[i]? = some f → DataW.trod enc P w b sp hd n f.type ((cs.drop f.offset).take (P.cellsOf f.type)) = xs[i]?)
    (i : Nat) (ty : TypeId) (off k : Nat) (hf : (fs[i]?).map (fun f => (f.type, f.offset)) = some (ty, off)) (hc : P.cellsOf ty = k) : DataW.trod enc P w b sp hd n ty ((cs.drop off).take k) = xs[i]? := by
  obtain ⟨f, h1, h2⟩ := Option.map_eq_some_iff.1 hf
  simp only [Prod.mk.injEq] at h2
  obtain ⟨rfl, rfl⟩ := h2
  subst hc
  exact hg i f h1

def rowVal (t h x m r l g hb nx d N : Nat) : Value := .agg #[.int .u32 t, .int .u32 h, .int .u64 x, .int .u32 m, .int .u32 r, .int .u32 l, .int .u32 g, .int .u32 hb, .int .u32 nx, .int .u64 d, .int .u32 N]
structure RowOk (t h x m r l g hb nx d N : Nat) : Prop where
  t : t < 4294967296
  h : h < 4294967296
  x : x < 18446744073709551616
  m : m < 4294967296
  r : r < 4294967296
  l : l < 4294967296
  g : g < 4294967296
  hb : hb < 4294967296
  nx : nx < 4294967296
  d : d < 18446744073709551616
  N : N < 4294967296

theorem row_of {H : Type} {enc : TypeId × Value → H} {W : World} {rc : Reach} {b0 : Nat} {v : Value} {d : DataW H} {p : List MemPlace} (hv : Value.okWide Tryd.prog W rc b0 43 v) (hT : DataW.Trod enc Tryd.prog W 0 (fun _ => true) true 43 v d p) :
    ∃ t h x m r l g hb nx dd N : Nat, v = rowVal t h x m r l g hb nx dd N ∧ RowOk t h x m r l g hb nx dd N := by
  obtain ⟨cs, rfl, hsz⟩ := okWide_struct Tryd.underlying43 hv
  obtain ⟨ls⟩ := cs
  match ls, hsz.trans c43 with
  | [a0, a1, a2, a3, a4, a5, a6, a7, a8, a9, a10], _ =>
    obtain ⟨fuel, hf⟩ := hT
    obtain ⟨xs, n, _, _, _, hlen, hg⟩ := DataW.trod_struct Tryd.underlying43 hf
    match xs, hlen with
    | [y0, y1, y2, y3], _ =>
      have gE := fld hg 0 37 0 4 rfl c37
      have gV := fld hg 1 39 4 3 rfl c39
      have gL := fld hg 2 41 7 3 rfl c41
      have gN := fld hg 3 35 10 1 rfl c35
      obtain ⟨es, nE, _, _, _, hlE, hgE⟩ := DataW.trod_struct Tryd.underlying37 gE
      obtain ⟨vs, nV, _, _, _, hlV, hgV⟩ := DataW.trod_struct Tryd.underlying39 gV
      obtain ⟨bs, nL, _, _, _, hlL, hgL⟩ := DataW.trod_struct Tryd.underlying41 gL
      match es, hlE, vs, hlV, bs, hlL with
      | [e0, e1, e2, e3], _, [v0, v1, v2], _, [b0, b1, b2], _ =>
        have h0 := fld hgE 0 35 0 1 rfl c35
        have h1 := fld hgE 1 35 1 1 rfl c35
        have h2 := fld hgE 2 25 2 1 rfl c25
        have h3 := fld hgE 3 35 3 1 rfl c35
        have h4 := fld hgV 0 35 0 1 rfl c35
        have h5 := fld hgV 1 35 1 1 rfl c35
        have h6 := fld hgV 2 35 2 1 rfl c35
        have h7 := fld hgL 0 35 0 1 rfl c35
        have h8 := fld hgL 1 35 1 1 rfl c35
        have h9 := fld hgL 2 25 2 1 rfl c25
        obtain ⟨z0, rfl, q0⟩ := leaf Tryd.underlying35 h0 rfl
        obtain ⟨z1, rfl, q1⟩ := leaf Tryd.underlying35 h1 rfl
        obtain ⟨z2, rfl, q2⟩ := leaf Tryd.underlying25 h2 rfl
        obtain ⟨z3, rfl, q3⟩ := leaf Tryd.underlying35 h3 rfl
        obtain ⟨z4, rfl, q4⟩ := leaf Tryd.underlying35 h4 rfl
        obtain ⟨z5, rfl, q5⟩ := leaf Tryd.underlying35 h5 rfl
        obtain ⟨z6, rfl, q6⟩ := leaf Tryd.underlying35 h6 rfl
        obtain ⟨z7, rfl, q7⟩ := leaf Tryd.underlying35 h7 rfl
        obtain ⟨z8, rfl, q8⟩ := leaf Tryd.underlying35 h8 rfl
        obtain ⟨z9, rfl, q9⟩ := leaf Tryd.underlying25 h9 rfl
        obtain ⟨z10, rfl, q10⟩ := leaf Tryd.underlying35 gN rfl
        obtain ⟨n0, rfl, m0⟩ := nat_u32 q0
        obtain ⟨n1, rfl, m1⟩ := nat_u32 q1
        obtain ⟨n2, rfl, m2⟩ := nat_u64 q2
        obtain ⟨n3, rfl, m3⟩ := nat_u32 q3
        obtain ⟨n4, rfl, m4⟩ := nat_u32 q4
        obtain ⟨n5, rfl, m5⟩ := nat_u32 q5
        obtain ⟨n6, rfl, m6⟩ := nat_u32 q6
        obtain ⟨n7, rfl, m7⟩ := nat_u32 q7
        obtain ⟨n8, rfl, m8⟩ := nat_u32 q8
        obtain ⟨n9, rfl, m9⟩ := nat_u64 q9
        obtain ⟨n10, rfl, m10⟩ := nat_u32 q10
        exact ⟨n0, n1, n2, n3, n4, n5, n6, n7, n8, n9, n10, rfl, ⟨m0, m1, m2, m3, m4, m5, m6, m7, m8, m9, m10⟩⟩
end Go.Proofs.YtbbkkbfpojndmaaDoor
