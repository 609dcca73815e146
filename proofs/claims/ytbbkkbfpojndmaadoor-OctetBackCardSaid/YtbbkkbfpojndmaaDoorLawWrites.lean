/- The walk of OctetWrites. -/
import Derived.Test.YtbbkkbfpojndmaaDoorLawPlaces
import Derived.Test.YtbbkkbfpojndmaaDoorRefOctRows
import Derived.Deep.RegionHeld3
namespace Go.Proofs.YtbbkkbfpojndmaaDoor
open Go.RowKit
set_option linter.unusedSimpArgs false
set_option linter.unusedVariables false

theorem eqBytes_same (A : Option Addr) (n c : Nat) (l : List UInt8) (B : Option Addr) (m d : Nat) (w : World) (hA : Bs w A l) (hn : n = l.length) (hB : Bs w B l) (hm : m = l.length) :
    Calls Tryd.prog 17 #[.slice A n c, .slice B m d] w fun e w' => e = .returned (.bool true) ∧ w = w' := by
  have h := eqBytes_any A n c l B m d l w hA hn hB hm
  rw [decide_eq_true rfl] at h
  exact h

set_option maxRecDepth 100000 in
set_option maxHeartbeats 8000000 in
theorem writes_walk (t h x m r l g hb nx d N : Nat) (ok : RowOk t h x m r l g hb nx d N) (w : World) (hS : Sizes w) :
    Calls Tryd.prog 5 #[rowVal t h x m r l g hb nx d N] w (Yes w) := by
  obtain ⟨b0, b1, b2, b3, b4, b5, b6, b7, b8, b9, b10⟩ := ok
  have k0 := keeps_alloc w (.cells (rowCells t h x m r l g hb nx d N) 43)
  have X0 := Lib.hid (Box.new w 43 (rowCells t h x m r l g hb nx d N))
  unfold rowCells at k0 X0
  unfold rowVal
  have kD : Keeps (w.alloc (.cells #[.int .u32 t, .int .u32 h, .int .u64 x, .int .u32 m, .int .u32 r, .int .u32 l, .int .u32 g, .int .u32 hb, .int .u32 nx, .int .u64 d, .int .u32 N] 43)) (w.alloc (.cells #[.int .u32 t, .int .u32 h, .int .u64 x, .int .u32 m, .int .u32 r, .int .u32 l, .int .u32 g, .int .u32 hb, .int .u32 nx, .int .u64 d, .int .u32 N] 43)).drew := keeps_drew _
  have X := X0.out.keep kD
  have k0D := keeps_trans k0 kD
  have hS0 := hS.keep k0D
  go_enter Tryd.func5, Tryd.ntmps5
  go_wp2_with fail
  go_region_held3 (fun W => W.cell? ⟨w.heap.size, 0, none⟩ = some (.int .u32 t) ∧ W.cell? ⟨w.heap.size, 1, none⟩ = some (.int .u32 h) ∧ W.cell? ⟨w.heap.size, 2, none⟩ = some (.int .u64 x) ∧ W.cell? ⟨w.heap.size, 3, none⟩ = some (.int .u32 m) ∧ W.cell? ⟨w.heap.size, 4, none⟩ = some (.int .u32 r) ∧ W.cell? ⟨w.heap.size, 5, none⟩ = some (.int .u32 l) ∧ W.cell? ⟨w.heap.size, 6, none⟩ = some (.int .u32 g) ∧ W.cell? ⟨w.heap.size, 7, none⟩ = some (.int .u32 hb) ∧ W.cell? ⟨w.heap.size, 8, none⟩ = some (.int .u32 nx) ∧ W.cell? ⟨w.heap.size, 9, none⟩ = some (.int .u64 d) ∧ W.cell? ⟨w.heap.size, 10, none⟩ = some (.int .u32 N)) (go_keep) (first
    | (go_at_call 11; refine (works_any w6 (hS0.keep (keeps_trans q1 (keeps_trans q2 (keeps_trans q3 (keeps_trans q4 (keeps_trans q5 q6))))))).mono ?_; rintro e w7 ⟨rfl, q7⟩; have X7 := X6.keep q7; have z7a := X7.cell 0 rfl; have z7b := X7.cell 1 rfl; have z7c := X7.cell 2 rfl; have z7d := X7.cell 3 rfl; have z7e := X7.cell 4 rfl; have z7f := X7.cell 5 rfl; have z7g := X7.cell 6 rfl; have z7h := X7.cell 7 rfl; have z7i := X7.cell 8 rfl; have z7j := X7.cell 9 rfl; have z7k := X7.cell 10 rfl)
    | (go_at_call 17; refine (eqBytes_same A5 20 c5 _ A6 20 c6 w6 (B5.keep q6) (labelB_length _ _ _ _).symm B6 (labelB_length _ _ _ _).symm).mono ?_; rintro e w' ⟨rfl, rfl⟩)
    | (go_at_call 17; refine (eqBytes_same A3 12 c3 _ A4 12 c4 w4 (B3.keep q4) (vertB_length _ _ _).symm B4 (vertB_length _ _ _).symm).mono ?_; rintro e w' ⟨rfl, rfl⟩)
    | (go_at_call 17; refine (eqBytes_same A1 20 c1 _ A2 20 c2 w2 (B1.keep q2) (edgeB_length _ _ _ _).symm B2 (edgeB_length _ _ _ _).symm).mono ?_; rintro e w' ⟨rfl, rfl⟩)
    | (go_at_call 20; refine (edge_any t h x m b0 b1 b2 b3 _).mono ?_; rintro e w1 ⟨v1, rfl, o1, q1⟩; obtain ⟨A1, c1, rfl, hc1, -, -, -⟩ := o1.form; have B1 : Bs w1 A1 (edgeB t h x m) := Own.at_ o1; clear o1; rw [edgeB_length] at hc1 ⊢; have X1 := X.keep q1; have z1a := X1.cell 0 rfl; have z1b := X1.cell 1 rfl; have z1c := X1.cell 2 rfl; have z1d := X1.cell 3 rfl; have z1e := X1.cell 4 rfl; have z1f := X1.cell 5 rfl; have z1g := X1.cell 6 rfl; have z1h := X1.cell 7 rfl; have z1i := X1.cell 8 rfl; have z1j := X1.cell 9 rfl; have z1k := X1.cell 10 rfl)
    | (go_at_call 21; refine (refEdge_any t h x m b0 b1 b2 b3 _).mono ?_; rintro e w2 ⟨v2, rfl, o2, q2⟩; obtain ⟨A2, c2, rfl, hc2, -, -, -⟩ := o2.form; have B2 : Bs w2 A2 (edgeB t h x m) := Own.at_ o2; clear o2; rw [edgeB_length] at hc2 ⊢; have X2 := X1.keep q2; have z2a := X2.cell 0 rfl; have z2b := X2.cell 1 rfl; have z2c := X2.cell 2 rfl; have z2d := X2.cell 3 rfl; have z2e := X2.cell 4 rfl; have z2f := X2.cell 5 rfl; have z2g := X2.cell 6 rfl; have z2h := X2.cell 7 rfl; have z2i := X2.cell 8 rfl; have z2j := X2.cell 9 rfl; have z2k := X2.cell 10 rfl)
    | (go_at_call 22; refine (vert_any r l g b4 b5 b6 _).mono ?_; rintro e w3 ⟨v3, rfl, o3, q3⟩; obtain ⟨A3, c3, rfl, hc3, -, -, -⟩ := o3.form; have B3 : Bs w3 A3 (vertB r l g) := Own.at_ o3; clear o3; rw [vertB_length] at hc3 ⊢; have X3 := X2.keep q3; have z3a := X3.cell 0 rfl; have z3b := X3.cell 1 rfl; have z3c := X3.cell 2 rfl; have z3d := X3.cell 3 rfl; have z3e := X3.cell 4 rfl; have z3f := X3.cell 5 rfl; have z3g := X3.cell 6 rfl; have z3h := X3.cell 7 rfl; have z3i := X3.cell 8 rfl; have z3j := X3.cell 9 rfl; have z3k := X3.cell 10 rfl)
    | (go_at_call 23; refine (refVert_any r l g b4 b5 b6 _).mono ?_; rintro e w4 ⟨v4, rfl, o4, q4⟩; obtain ⟨A4, c4, rfl, hc4, -, -, -⟩ := o4.form; have B4 : Bs w4 A4 (vertB r l g) := Own.at_ o4; clear o4; rw [vertB_length] at hc4 ⊢; have X4 := X3.keep q4; have z4a := X4.cell 0 rfl; have z4b := X4.cell 1 rfl; have z4c := X4.cell 2 rfl; have z4d := X4.cell 3 rfl; have z4e := X4.cell 4 rfl; have z4f := X4.cell 5 rfl; have z4g := X4.cell 6 rfl; have z4h := X4.cell 7 rfl; have z4i := X4.cell 8 rfl; have z4j := X4.cell 9 rfl; have z4k := X4.cell 10 rfl)
    | (go_at_call 24; refine (label_any N hb nx d b10 b7 b8 b9 _).mono ?_; rintro e w5 ⟨v5, rfl, o5, q5⟩; obtain ⟨A5, c5, rfl, hc5, -, -, -⟩ := o5.form; have B5 : Bs w5 A5 (labelB N hb nx d) := Own.at_ o5; clear o5; rw [labelB_length] at hc5 ⊢; have X5 := X4.keep q5; have z5a := X5.cell 0 rfl; have z5b := X5.cell 1 rfl; have z5c := X5.cell 2 rfl; have z5d := X5.cell 3 rfl; have z5e := X5.cell 4 rfl; have z5f := X5.cell 5 rfl; have z5g := X5.cell 6 rfl; have z5h := X5.cell 7 rfl; have z5i := X5.cell 8 rfl; have z5j := X5.cell 9 rfl; have z5k := X5.cell 10 rfl)
    | (go_at_call 25; refine (refLabel_any N hb nx d b10 b7 b8 b9 _).mono ?_; rintro e w6 ⟨v6, rfl, o6, q6⟩; obtain ⟨A6, c6, rfl, hc6, -, -, -⟩ := o6.form; have B6 : Bs w6 A6 (labelB N hb nx d) := Own.at_ o6; clear o6; rw [labelB_length] at hc6 ⊢; have X6 := X5.keep q6; have z6a := X6.cell 0 rfl; have z6b := X6.cell 1 rfl; have z6c := X6.cell 2 rfl; have z6d := X6.cell 3 rfl; have z6e := X6.cell 4 rfl; have z6f := X6.cell 5 rfl; have z6g := X6.cell 6 rfl; have z6h := X6.cell 7 rfl; have z6i := X6.cell 8 rfl; have z6j := X6.cell 9 rfl; have z6k := X6.cell 10 rfl))
  go_wp2_with fail
  go_ret
  exact ⟨rfl, keeps_trans k0D (keeps_trans q1 (keeps_trans q2 (keeps_trans q3 (keeps_trans q4 (keeps_trans q5 (keeps_trans q6 q7))))))⟩
end Go.Proofs.YtbbkkbfpojndmaaDoor
