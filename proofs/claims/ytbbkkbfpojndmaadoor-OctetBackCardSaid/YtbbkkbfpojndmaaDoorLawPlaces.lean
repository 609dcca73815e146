/- The walk of OctetPlaces. -/
import Derived.Test.YtbbkkbfpojndmaaDoorLawReads
import Derived.Test.YtbbkkbfpojndmaaDoorRow
namespace Go.Proofs.YtbbkkbfpojndmaaDoor
open Go.RowKit
set_option linter.unusedSimpArgs false
set_option linter.unusedVariables false

/-- The cells of a row that is boxed. -/
def rowCells (t h x m r l g hb nx d N : Nat) : Array Value := #[.int .u32 t, .int .u32 h, .int .u64 x, .int .u32 m, .int .u32 r, .int .u32 l, .int .u32 g, .int .u32 hb, .int .u32 nx, .int .u64 d, .int .u32 N]

set_option maxRecDepth 100000 in
set_option maxHeartbeats 8000000 in
theorem places_walk (t h x m r l g hb nx d N : Nat) (ok : RowOk t h x m r l g hb nx d N) (w : World) (hS : Sizes w) :
    Calls Tryd.prog 8 #[rowVal t h x m r l g hb nx d N] w (Yes w) := by
  obtain ⟨b0, b1, b2, b3, b4, b5, b6, b7, b8, b9, b10⟩ := ok
  have k0 := keeps_alloc w (.cells (rowCells t h x m r l g hb nx d N) 43)
  have X0 := Lib.hid (Box.new w 43 (rowCells t h x m r l g hb nx d N))
  have K0 := keeps_refl (w.alloc (.cells (rowCells t h x m r l g hb nx d N) 43))
  unfold rowCells at k0 X0 K0
  unfold rowVal
  go_enter Tryd.func8, Tryd.ntmps8
  go_wp2_with fail
  refine (edge_any t h x m b0 b1 b2 b3 _).mono ?_
  rintro e w1 ⟨v1, rfl, o1, q1⟩
  obtain ⟨A1, c1, rfl, hc1, -, -, -⟩ := o1.form
  have B1 : Bs w1 A1 (edgeB t h x m) := Own.at_ o1
  rw [edgeB_length] at hc1 ⊢
  have X1 := X0.out.keep q1
  have z4 := X1.cell 4 rfl
  have z5 := X1.cell 5 rfl
  have z6 := X1.cell 6 rfl
  clear o1 K0
  go_wp2_with fail
  refine (vert_any r l g b4 b5 b6 _).mono ?_
  rintro e w2 ⟨v2, rfl, o2, q2⟩
  obtain ⟨A2, c2, rfl, hc2, -, -, -⟩ := o2.form
  have B2 : Bs w2 A2 (vertB r l g) := Own.at_ o2
  rw [vertB_length] at hc2 ⊢
  have X2 := X1.keep q2
  clear o2 z4 z5 z6
  have z7 := X2.cell 7 rfl
  have z8 := X2.cell 8 rfl
  have z9 := X2.cell 9 rfl
  have z10 := X2.cell 10 rfl
  go_wp2_with fail
  refine (label_any N hb nx d b10 b7 b8 b9 _).mono ?_
  rintro e w3 ⟨v3, rfl, o3, q3⟩
  obtain ⟨A3, c3, rfl, hc3, -, -, -⟩ := o3.form
  have B3 : Bs w3 A3 (labelB N hb nx d) := Own.at_ o3
  rw [labelB_length] at hc3 ⊢
  have X3 := X2.keep q3
  clear o3 z7 z8 z9 z10
  have z0 := X3.cell 0 rfl
  have z1 := X3.cell 1 rfl
  have z2 := X3.cell 2 rfl
  have z3 := X3.cell 3 rfl
  have z4 := X3.cell 4 rfl
  have z5 := X3.cell 5 rfl
  have z6 := X3.cell 6 rfl
  have z7 := X3.cell 7 rfl
  have z8 := X3.cell 8 rfl
  have z9 := X3.cell 9 rfl
  have z10 := X3.cell 10 rfl
  have k3 := keeps_trans k0 (keeps_trans q1 (keeps_trans q2 q3))
  have B1' := B1.keep (keeps_trans q2 q3)
  have B2' := B2.keep q3
  clear X1 X2 X3 q1 q2 q3 B1 B2 k0 X0
  go_wp2_with fail
  clear z0 z1 z2 z3 z4 z5 z6 z7 z8 z9 z10
  have kW : Keeps w3 ((w3.alloc (.cells #[.int .u64 t, .int .u64 h, .int .u64 x, .int .u64 m, .int .u64 r, .int .u64 l, .int .u64 g, .int .u64 N, .int .u64 hb, .int .u64 nx, .int .u64 d] 25)).alloc (.cells #[.int .i64 0, .int .i64 4, .int .i64 8, .int .i64 16, .int .i64 0, .int .i64 4, .int .i64 8, .int .i64 0, .int .i64 4, .int .i64 8, .int .i64 12] 3)) := keeps_trans (keeps_alloc _ _) (keeps_alloc _ _)
  have XA : Box ((w3.alloc (.cells #[.int .u64 t, .int .u64 h, .int .u64 x, .int .u64 m, .int .u64 r, .int .u64 l, .int .u64 g, .int .u64 N, .int .u64 hb, .int .u64 nx, .int .u64 d] 25)).alloc (.cells #[.int .i64 0, .int .i64 4, .int .i64 8, .int .i64 16, .int .i64 0, .int .i64 4, .int .i64 8, .int .i64 0, .int .i64 4, .int .i64 8, .int .i64 12] 3)) w3.heap.size 25 #[.int .u64 t, .int .u64 h, .int .u64 x, .int .u64 m, .int .u64 r, .int .u64 l, .int .u64 g, .int .u64 N, .int .u64 hb, .int .u64 nx, .int .u64 d] := (Box.new w3 25 #[.int .u64 t, .int .u64 h, .int .u64 x, .int .u64 m, .int .u64 r, .int .u64 l, .int .u64 g, .int .u64 N, .int .u64 hb, .int .u64 nx, .int .u64 d]).keep (keeps_alloc _ _)
  have XB : Box ((w3.alloc (.cells #[.int .u64 t, .int .u64 h, .int .u64 x, .int .u64 m, .int .u64 r, .int .u64 l, .int .u64 g, .int .u64 N, .int .u64 hb, .int .u64 nx, .int .u64 d] 25)).alloc (.cells #[.int .i64 0, .int .i64 4, .int .i64 8, .int .i64 16, .int .i64 0, .int .i64 4, .int .i64 8, .int .i64 0, .int .i64 4, .int .i64 8, .int .i64 12] 3)) (w3.heap.size + 1) 3 #[.int .i64 0, .int .i64 4, .int .i64 8, .int .i64 16, .int .i64 0, .int .i64 4, .int .i64 8, .int .i64 0, .int .i64 4, .int .i64 8, .int .i64 12] := by
    have := Box.new (w3.alloc (.cells #[.int .u64 t, .int .u64 h, .int .u64 x, .int .u64 m, .int .u64 r, .int .u64 l, .int .u64 g, .int .u64 N, .int .u64 hb, .int .u64 nx, .int .u64 d] 25)) 3 #[.int .i64 0, .int .i64 4, .int .i64 8, .int .i64 16, .int .i64 0, .int .i64 4, .int .i64 8, .int .i64 0, .int .i64 4, .int .i64 8, .int .i64 12]
    simpa using this
  generalize ((w3.alloc (.cells #[.int .u64 t, .int .u64 h, .int .u64 x, .int .u64 m, .int .u64 r, .int .u64 l, .int .u64 g, .int .u64 N, .int .u64 hb, .int .u64 nx, .int .u64 d] 25)).alloc (.cells #[.int .i64 0, .int .i64 4, .int .i64 8, .int .i64 16, .int .i64 0, .int .i64 4, .int .i64 8, .int .i64 0, .int .i64 4, .int .i64 8, .int .i64 12] 3)) = W1 at *
  have D1 := B1'.keep kW
  have D2 := B2'.keep kW
  have D3 := B3.keep kW
  have kk := keeps_trans k3 kW
  have hS1 := hS.keep kk
  clear kW k3 B1' B2' B3
  go_loopw [8, 9, 10, 11, 12] (fun i _ _ _ _ wr => ∃ k : Nat, k ≤ 11 ∧ i = .int .i64 k ∧ W1 = wr) (fun i _ _ _ _ _ => 11 - (intOf i).toNat)
  case atStart => exact ⟨0, by omega, rfl, rfl⟩
  case round =>
    obtain ⟨k, hk, rfl, rfl⟩ := hrel
    rcases (by omega : k = 0 ∨ k = 1 ∨ k = 2 ∨ k = 3 ∨ k = 4 ∨ k = 5 ∨ k = 6 ∨ k = 7 ∨ k = 8 ∨ k = 9 ∨ k = 10 ∨ k = 11) with rfl | rfl | rfl | rfl | rfl | rfl | rfl | rfl | rfl | rfl | rfl | rfl
    · have za := XA.cell 0 rfl
      have zb := XB.cell 0 rfl
      have G := get_yes A1 20 c1 (edgeB t h x m) 0 4 W1 hS1 D1 (edgeB_length _ _ _ _).symm hc1 (by omega) rfl (by omega)
      rw [edgeB_0 t h x m b0] at G
      have G := Lib.hid G
      clear XA XB D1 D2 D3 hS1
      go_wp2_with fail
      refine G.out.mono ?_
      rintro e w' ⟨rfl, rfl⟩
      go_wp2_with fail
      go_roundw
      case rel => exact ⟨1, by omega, rfl, trivial⟩
      case measure => simp [intOf]
    · have za := XA.cell 1 rfl
      have zb := XB.cell 1 rfl
      have G := get_yes A1 20 c1 (edgeB t h x m) 4 4 W1 hS1 D1 (edgeB_length _ _ _ _).symm hc1 (by omega) rfl (by omega)
      rw [edgeB_4 t h x m b1] at G
      have G := Lib.hid G
      clear XA XB D1 D2 D3 hS1
      go_wp2_with fail
      refine G.out.mono ?_
      rintro e w' ⟨rfl, rfl⟩
      go_wp2_with fail
      go_roundw
      case rel => exact ⟨2, by omega, rfl, trivial⟩
      case measure => simp [intOf]
    · have za := XA.cell 2 rfl
      have zb := XB.cell 2 rfl
      have G := get_yes A1 20 c1 (edgeB t h x m) 8 8 W1 hS1 D1 (edgeB_length _ _ _ _).symm hc1 (by omega) rfl (by omega)
      rw [edgeB_8 t h x m b2] at G
      have G := Lib.hid G
      clear XA XB D1 D2 D3 hS1
      go_wp2_with fail
      refine G.out.mono ?_
      rintro e w' ⟨rfl, rfl⟩
      go_wp2_with fail
      go_roundw
      case rel => exact ⟨3, by omega, rfl, trivial⟩
      case measure => simp [intOf]
    · have za := XA.cell 3 rfl
      have zb := XB.cell 3 rfl
      have G := get_yes A1 20 c1 (edgeB t h x m) 16 4 W1 hS1 D1 (edgeB_length _ _ _ _).symm hc1 (by omega) rfl (by omega)
      rw [edgeB_16 t h x m b3] at G
      have G := Lib.hid G
      clear XA XB D1 D2 D3 hS1
      go_wp2_with fail
      refine G.out.mono ?_
      rintro e w' ⟨rfl, rfl⟩
      go_wp2_with fail
      go_roundw
      case rel => exact ⟨4, by omega, rfl, trivial⟩
      case measure => simp [intOf]
    · have za := XA.cell 4 rfl
      have zb := XB.cell 4 rfl
      have G := get_yes A2 12 c2 (vertB r l g) 0 4 W1 hS1 D2 (vertB_length _ _ _).symm hc2 (by omega) rfl (by omega)
      rw [vertB_0 r l g b4] at G
      have G := Lib.hid G
      clear XA XB D1 D2 D3 hS1
      go_wp2_with fail
      refine G.out.mono ?_
      rintro e w' ⟨rfl, rfl⟩
      go_wp2_with fail
      go_roundw
      case rel => exact ⟨5, by omega, rfl, trivial⟩
      case measure => simp [intOf]
    · have za := XA.cell 5 rfl
      have zb := XB.cell 5 rfl
      have G := get_yes A2 12 c2 (vertB r l g) 4 4 W1 hS1 D2 (vertB_length _ _ _).symm hc2 (by omega) rfl (by omega)
      rw [vertB_4 r l g b5] at G
      have G := Lib.hid G
      clear XA XB D1 D2 D3 hS1
      go_wp2_with fail
      refine G.out.mono ?_
      rintro e w' ⟨rfl, rfl⟩
      go_wp2_with fail
      go_roundw
      case rel => exact ⟨6, by omega, rfl, trivial⟩
      case measure => simp [intOf]
    · have za := XA.cell 6 rfl
      have zb := XB.cell 6 rfl
      have G := get_yes A2 12 c2 (vertB r l g) 8 4 W1 hS1 D2 (vertB_length _ _ _).symm hc2 (by omega) rfl (by omega)
      rw [vertB_8 r l g b6] at G
      have G := Lib.hid G
      clear XA XB D1 D2 D3 hS1
      go_wp2_with fail
      refine G.out.mono ?_
      rintro e w' ⟨rfl, rfl⟩
      go_wp2_with fail
      go_roundw
      case rel => exact ⟨7, by omega, rfl, trivial⟩
      case measure => simp [intOf]
    · have za := XA.cell 7 rfl
      have zb := XB.cell 7 rfl
      have G := get_yes A3 20 c3 (labelB N hb nx d) 0 4 W1 hS1 D3 (labelB_length _ _ _ _).symm hc3 (by omega) rfl (by omega)
      rw [labelB_0 N hb nx d b10] at G
      have G := Lib.hid G
      clear XA XB D1 D2 D3 hS1
      go_wp2_with fail
      refine G.out.mono ?_
      rintro e w' ⟨rfl, rfl⟩
      go_wp2_with fail
      go_roundw
      case rel => exact ⟨8, by omega, rfl, trivial⟩
      case measure => simp [intOf]
    · have za := XA.cell 8 rfl
      have zb := XB.cell 8 rfl
      have G := get_yes A3 20 c3 (labelB N hb nx d) 4 4 W1 hS1 D3 (labelB_length _ _ _ _).symm hc3 (by omega) rfl (by omega)
      rw [labelB_4 N hb nx d b7] at G
      have G := Lib.hid G
      clear XA XB D1 D2 D3 hS1
      go_wp2_with fail
      refine G.out.mono ?_
      rintro e w' ⟨rfl, rfl⟩
      go_wp2_with fail
      go_roundw
      case rel => exact ⟨9, by omega, rfl, trivial⟩
      case measure => simp [intOf]
    · have za := XA.cell 9 rfl
      have zb := XB.cell 9 rfl
      have G := get_yes A3 20 c3 (labelB N hb nx d) 8 4 W1 hS1 D3 (labelB_length _ _ _ _).symm hc3 (by omega) rfl (by omega)
      rw [labelB_8 N hb nx d b8] at G
      have G := Lib.hid G
      clear XA XB D1 D2 D3 hS1
      go_wp2_with fail
      refine G.out.mono ?_
      rintro e w' ⟨rfl, rfl⟩
      go_wp2_with fail
      go_roundw
      case rel => exact ⟨10, by omega, rfl, trivial⟩
      case measure => simp [intOf]
    · have za := XA.cell 10 rfl
      have zb := XB.cell 10 rfl
      have G := get_yes A3 20 c3 (labelB N hb nx d) 12 8 W1 hS1 D3 (labelB_length _ _ _ _).symm hc3 (by omega) rfl (by omega)
      rw [labelB_12 N hb nx d b9] at G
      have G := Lib.hid G
      clear XA XB D1 D2 D3 hS1
      go_wp2_with fail
      refine G.out.mono ?_
      rintro e w' ⟨rfl, rfl⟩
      go_wp2_with fail
      go_roundw
      case rel => exact ⟨11, by omega, rfl, trivial⟩
      case measure => simp [intOf]
    · go_wp2_with fail
      refine (works_any W1 hS1).mono ?_
      rintro e w4 ⟨rfl, k4⟩
      go_wp2_with fail
      go_ret
      exact ⟨rfl, keeps_trans kk k4⟩
end Go.Proofs.YtbbkkbfpojndmaaDoor
