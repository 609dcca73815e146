/- The walk of OctetCuts. -/
import Derived.Test.YtbbkkbfpojndmaaDoorLawPlaces
import Derived.Deep.RegionHeld3
namespace Go.Proofs.YtbbkkbfpojndmaaDoor
open Go.RowKit
set_option linter.unusedSimpArgs false
set_option linter.unusedVariables false

set_option maxRecDepth 100000 in
set_option maxHeartbeats 8000000 in
theorem cuts_walk (t h x m r l g hb nx d N : Nat) (ok : RowOk t h x m r l g hb nx d N) (cut : Int) (A : Option Addr) (n c : Nat) (k : List UInt8) (w : World) (hS : Sizes w) (hB : Bs w A k) (hn : n = k.length) (hc : n ≤ c) (hlen : n ≤ maxLen) :
    Calls Tryd.prog 10 #[rowVal t h x m r l g hb nx d N, .int .i64 cut, .slice A n c] w (Yes w) := by
  unfold maxLen at hlen
  obtain ⟨b0, b1, b2, b3, b4, b5, b6, b7, b8, b9, b10⟩ := ok
  have k0 := keeps_alloc w (.cells (rowCells t h x m r l g hb nx d N) 43)
  have X0 := Lib.hid (Box.new w 43 (rowCells t h x m r l g hb nx d N))
  unfold rowCells at k0 X0
  unfold rowVal
  by_cases hbad : (1024 : Int) < n ∨ cut < 0 ∨ 20 < cut
  · have W := Lib.hid (works_any _ (hS.keep k0))
    have HN := Lib.hid hn
    clear hn hB
    by_cases h1 : (1024 : Int) < n
    · clear hbad
      go_enter Tryd.func10, Tryd.ntmps10
      go_wp2_with (go_at_call 11; refine W.out.mono ?_; rintro e w1 ⟨rfl, k1⟩)
      go_ret
      exact ⟨rfl, keeps_trans k0 k1⟩
    · by_cases h2 : cut < 0
      · clear hbad
        go_enter Tryd.func10, Tryd.ntmps10
        go_wp2_with (go_at_call 11; refine W.out.mono ?_; rintro e w1 ⟨rfl, k1⟩)
        go_ret
        exact ⟨rfl, keeps_trans k0 k1⟩
      · have h3 : (20 : Int) < cut := by omega
        clear hbad
        go_enter Tryd.func10, Tryd.ntmps10
        go_wp2_with (go_at_call 11; refine W.out.mono ?_; rintro e w1 ⟨rfl, k1⟩)
        go_ret
        exact ⟨rfl, keeps_trans k0 k1⟩
  · have h1 : (n : Int) ≤ 1024 := by omega
    obtain ⟨q, rfl⟩ : ∃ q : Nat, cut = (q : Int) := ⟨cut.toNat, by omega⟩
    have h2 : ¬ ((q : Int) < 0) := by omega
    have h3 : (q : Int) ≤ 20 := by omega
    have HN := Lib.hid hn
    clear hbad hn
    have kD : Keeps (w.alloc (.cells #[.int .u32 t, .int .u32 h, .int .u64 x, .int .u32 m, .int .u32 r, .int .u32 l, .int .u32 g, .int .u32 hb, .int .u32 nx, .int .u64 d, .int .u32 N] 43)) (w.alloc (.cells #[.int .u32 t, .int .u32 h, .int .u64 x, .int .u32 m, .int .u32 r, .int .u32 l, .int .u32 g, .int .u32 hb, .int .u32 nx, .int .u64 d, .int .u32 N] 43)).drew := keeps_drew _
    have X := X0.out.keep kD
    go_enter Tryd.func10, Tryd.ntmps10
    go_wp2_with fail
    go_region_held3 (fun W => W.cell? ⟨w.heap.size, 0, none⟩ = some (.int .u32 t) ∧ W.cell? ⟨w.heap.size, 1, none⟩ = some (.int .u32 h) ∧ W.cell? ⟨w.heap.size, 2, none⟩ = some (.int .u64 x) ∧ W.cell? ⟨w.heap.size, 3, none⟩ = some (.int .u32 m) ∧ W.cell? ⟨w.heap.size, 4, none⟩ = some (.int .u32 r) ∧ W.cell? ⟨w.heap.size, 5, none⟩ = some (.int .u32 l) ∧ W.cell? ⟨w.heap.size, 6, none⟩ = some (.int .u32 g) ∧ W.cell? ⟨w.heap.size, 7, none⟩ = some (.int .u32 hb) ∧ W.cell? ⟨w.heap.size, 8, none⟩ = some (.int .u32 nx) ∧ W.cell? ⟨w.heap.size, 9, none⟩ = some (.int .u64 d) ∧ W.cell? ⟨w.heap.size, 10, none⟩ = some (.int .u32 N)) (go_keep) (first
      | (go_at_call 20; refine (edge_any t h x m b0 b1 b2 b3 _).mono ?_; rintro e w1 ⟨v1, rfl, o1, q1⟩; obtain ⟨A1, c1, rfl, hc1, -, -, -⟩ := o1.form; have B1 : Bs w1 A1 (edgeB t h x m) := Own.at_ o1; clear o1; rw [edgeB_length] at hc1 ⊢; have hs1 : w.heap.size < w1.heap.size := (X.keep q1).lt; have X1 := X.keep q1; have za0 := X1.cell 0 rfl; have za1 := X1.cell 1 rfl; have za2 := X1.cell 2 rfl; have za3 := X1.cell 3 rfl; have za4 := X1.cell 4 rfl; have za5 := X1.cell 5 rfl; have za6 := X1.cell 6 rfl; have za7 := X1.cell 7 rfl; have za8 := X1.cell 8 rfl; have za9 := X1.cell 9 rfl; have za10 := X1.cell 10 rfl)
      | (go_at_call 22; refine (vert_any r l g b4 b5 b6 _).mono ?_; rintro e w2 ⟨v2, rfl, o2, q2⟩; obtain ⟨A2, c2, rfl, hc2, -, -, -⟩ := o2.form; have B2 : Bs w2 A2 (vertB r l g) := Own.at_ o2; clear o2; rw [vertB_length] at hc2 ⊢; have hs2 : w.heap.size < w2.heap.size := (X1.keep q2).lt; have X2 := X1.keep q2; have zb0 := X2.cell 0 rfl; have zb1 := X2.cell 1 rfl; have zb2 := X2.cell 2 rfl; have zb3 := X2.cell 3 rfl; have zb4 := X2.cell 4 rfl; have zb5 := X2.cell 5 rfl; have zb6 := X2.cell 6 rfl; have zb7 := X2.cell 7 rfl; have zb8 := X2.cell 8 rfl; have zb9 := X2.cell 9 rfl; have zb10 := X2.cell 10 rfl)
      | (go_at_call 24; refine (label_any N hb nx d b10 b7 b8 b9 _).mono ?_; rintro e w3 ⟨v3, rfl, o3, q3⟩; obtain ⟨A3, c3, rfl, hc3, -, -, -⟩ := o3.form; have B3 : Bs w3 A3 (labelB N hb nx d) := Own.at_ o3; clear o3; rw [labelB_length] at hc3 ⊢; have hs3 : w.heap.size < w3.heap.size := (X2.keep q3).lt; have X3 := X2.keep q3; have zc0 := X3.cell 0 rfl; have zc1 := X3.cell 1 rfl; have zc2 := X3.cell 2 rfl; have zc3 := X3.cell 3 rfl; have zc4 := X3.cell 4 rfl; have zc5 := X3.cell 5 rfl; have zc6 := X3.cell 6 rfl; have zc7 := X3.cell 7 rfl; have zc8 := X3.cell 8 rfl; have zc9 := X3.cell 9 rfl; have zc10 := X3.cell 10 rfl))
    have kW : Keeps w3 (w3.alloc (.cells #[.slice A1 20 c1, .slice A2 12 c2, .slice A3 20 c3] 22)) := keeps_alloc _ _
    have XA : Box (w3.alloc (.cells #[.slice A1 20 c1, .slice A2 12 c2, .slice A3 20 c3] 22)) w3.heap.size 22 #[.slice A1 20 c1, .slice A2 12 c2, .slice A3 20 c3] := Box.new _ _ _
    have kk := keeps_trans k0 (keeps_trans kD (keeps_trans q1 (keeps_trans q2 (keeps_trans q3 kW))))
    have D1 := B1.keep (keeps_trans q2 (keeps_trans q3 kW))
    have D2 := B2.keep (keeps_trans q3 kW)
    have D3 := B3.keep kW
    have hB1 := hB.keep kk
    have hS1 := hS.keep kk
    clear kW B1 B2 B3 q1 q2 q3 X1 X2 X3 X X0 kD k0 hB hs1 hs2 hs3 za0 za1 za2 za3 za4 za5 za6 za7 za8 za9 za10 zb0 zb1 zb2 zb3 zb4 zb5 zb6 zb7 zb8 zb9 zb10 zc0 zc1 zc2 zc3 zc4 zc5 zc6 zc7 zc8 zc9 zc10
    generalize (w3.alloc (.cells #[.slice A1 20 c1, .slice A2 12 c2, .slice A3 20 c3] 22)) = W1 at *
    obtain ⟨i0, hi, hz0, hz1, hz2⟩ := info_parts info_u8
    go_wp2_with fail
    go_loopw [8, 9, 10, 11] (fun i _ _ _ wr => ∃ j : Nat, j ≤ 3 ∧ i = .int .i64 j ∧ Keeps W1 wr) (fun i _ _ _ _ => 3 - (intOf i).toNat)
    case atStart => exact ⟨0, by omega, rfl, keeps_refl _⟩
    case round =>
      obtain ⟨j, hj, rfl, hw⟩ := hrel
      rcases (by omega : j = 0 ∨ j = 1 ∨ j = 2 ∨ j = 3) with rfl | rfl | rfl | rfl
      · have za := (XA.keep hw).cell 0 rfl
        have hSr := hS1.keep hw
        have hBr := hB1.keep hw
        have Dr := D1.keep hw
        clear XA D1 D2 D3 hS1 hB1
        have ht : ((edgeB t h x m).take q).length = q := by rw [List.length_take, edgeB_length]; omega
        have C := Lib.hid (copyBytes_any A1 q c1 ((edgeB t h x m).take q) wr (Dr.take q) ht.symm (by unfold maxLen; omega))
        have hcc : ((q : Nat) : Int) ≤ (c1 : Int) := by omega
        have hlt : ((edgeB t h x m).take q ++ k).length = q + n := by rw [List.length_append, ht, HN.out]
        by_cases hL : q + n = 20
        · have hq : (((q : Nat) : Int) + (n : Int) == 20) = true := by simp; omega
          have HT := Lib.hid ht
          have HL := Lib.hid hL
          have HLT := Lib.hid hlt
          clear ht hL hlt
          go_wp2_with fail
          refine C.out.mono ?_
          rintro e w4 ⟨v4, rfl, o4, q4⟩
          rw [HT.out] at o4
          have hB4 := hBr.keep q4
          go_wp2_with (at_builtin; refine wpList_app _ rfl _ _ 22 rfl wr.heap.size 5 i0 (.int .u8 0) 1 1 Tryd.underlying22 hi hz0 hz1 hz2 rfl (by decide) _ _ _ rfl o4 w4.heap.size A n c (cel k) rfl (by rw [cel_length, HN.out, Nat.mul_one]) hB4 (cel_one k) (by unfold maxLen; omega) (by omega) q4.size ?_; intro v5 w5 o5 g5 b5; obtain ⟨A5, c5, rfl, hc5, hm5, -, -⟩ := o5.form; have q5 : Keeps wr w5 := Below.grown q4 g5 q4.size (fun g hg => (o4.lt g hg).1); have B5 : Bs w5 A5 ((edgeB t h x m).take q ++ k) := (by unfold Bs; rw [cel_append]; exact Own.at_ o5); clear o5 g5 b5)
          have hS5 := hSr.keep q5
          rw [show q + n = 20 from HL.out] at hc5 ⊢
          refine (readEdge_yes A5 c5 _ w5 B5 (HLT.out.trans HL.out) hc5).mono ?_
          rintro e w6 ⟨rfl, q6⟩
          go_wp2_with fail
          go_roundw
          case rel => exact ⟨1, by omega, rfl, keeps_trans hw (keeps_trans q5 q6)⟩
          case measure => simp [intOf]
        · have hq : (((q : Nat) : Int) + (n : Int) == 20) = false := by simp; omega
          have HT := Lib.hid ht
          have HL := Lib.hid hL
          have HLT := Lib.hid hlt
          clear ht hL hlt
          go_wp2_with fail
          refine C.out.mono ?_
          rintro e w4 ⟨v4, rfl, o4, q4⟩
          rw [HT.out] at o4
          have hB4 := hBr.keep q4
          go_wp2_with (at_builtin; refine wpList_app _ rfl _ _ 22 rfl wr.heap.size 5 i0 (.int .u8 0) 1 1 Tryd.underlying22 hi hz0 hz1 hz2 rfl (by decide) _ _ _ rfl o4 w4.heap.size A n c (cel k) rfl (by rw [cel_length, HN.out, Nat.mul_one]) hB4 (cel_one k) (by unfold maxLen; omega) (by omega) q4.size ?_; intro v5 w5 o5 g5 b5; obtain ⟨A5, c5, rfl, hc5, hm5, -, -⟩ := o5.form; have q5 : Keeps wr w5 := Below.grown q4 g5 q4.size (fun g hg => (o4.lt g hg).1); have B5 : Bs w5 A5 ((edgeB t h x m).take q ++ k) := (by unfold Bs; rw [cel_append]; exact Own.at_ o5); clear o5 g5 b5)
          have hS5 := hSr.keep q5
          refine (readEdge_no A5 (q + n) c5 w5 HL.out).mono ?_
          rintro e w6 ⟨rfl, q6⟩
          go_wp2_with fail
          go_roundw
          case rel => exact ⟨1, by omega, rfl, keeps_trans hw (keeps_trans q5 q6)⟩
          case measure => simp [intOf]
      · have za := (XA.keep hw).cell 1 rfl
        have hSr := hS1.keep hw
        have hBr := hB1.keep hw
        have Dr := D2.keep hw
        clear XA D1 D2 D3 hS1 hB1
        by_cases hq12 : (q : Int) ≤ 12
        · have hq12' : q ≤ 12 := by omega
          have ht : ((vertB r l g).take q).length = q := by rw [List.length_take, vertB_length]; omega
          have C := Lib.hid (copyBytes_any A2 q c2 ((vertB r l g).take q) wr (Dr.take q) ht.symm (by unfold maxLen; omega))
          have hcc : ((q : Nat) : Int) ≤ (c2 : Int) := by omega
          have hlt : ((vertB r l g).take q ++ k).length = q + n := by rw [List.length_append, ht, HN.out]
          by_cases hL : q + n = 12
          · have hq : (((q : Nat) : Int) + (n : Int) == 12) = true := by simp; omega
            have HT := Lib.hid ht
            have HL := Lib.hid hL
            have HLT := Lib.hid hlt
            clear ht hL hlt
            go_wp2_with fail
            refine C.out.mono ?_
            rintro e w4 ⟨v4, rfl, o4, q4⟩
            rw [HT.out] at o4
            have hB4 := hBr.keep q4
            go_wp2_with (at_builtin; refine wpList_app _ rfl _ _ 22 rfl wr.heap.size 5 i0 (.int .u8 0) 1 1 Tryd.underlying22 hi hz0 hz1 hz2 rfl (by decide) _ _ _ rfl o4 w4.heap.size A n c (cel k) rfl (by rw [cel_length, HN.out, Nat.mul_one]) hB4 (cel_one k) (by unfold maxLen; omega) (by omega) q4.size ?_; intro v5 w5 o5 g5 b5; obtain ⟨A5, c5, rfl, hc5, hm5, -, -⟩ := o5.form; have q5 : Keeps wr w5 := Below.grown q4 g5 q4.size (fun g hg => (o4.lt g hg).1); have B5 : Bs w5 A5 ((vertB r l g).take q ++ k) := (by unfold Bs; rw [cel_append]; exact Own.at_ o5); clear o5 g5 b5)
            have hS5 := hSr.keep q5
            rw [show q + n = 12 from HL.out] at hc5 ⊢
            refine (readVert_yes A5 c5 _ w5 B5 (HLT.out.trans HL.out) hc5).mono ?_
            rintro e w6 ⟨rfl, q6⟩
            go_wp2_with fail
            go_roundw
            case rel => exact ⟨2, by omega, rfl, keeps_trans hw (keeps_trans q5 q6)⟩
            case measure => simp [intOf]
          · have hq : (((q : Nat) : Int) + (n : Int) == 12) = false := by simp; omega
            have HT := Lib.hid ht
            have HL := Lib.hid hL
            have HLT := Lib.hid hlt
            clear ht hL hlt
            go_wp2_with fail
            refine C.out.mono ?_
            rintro e w4 ⟨v4, rfl, o4, q4⟩
            rw [HT.out] at o4
            have hB4 := hBr.keep q4
            go_wp2_with (at_builtin; refine wpList_app _ rfl _ _ 22 rfl wr.heap.size 5 i0 (.int .u8 0) 1 1 Tryd.underlying22 hi hz0 hz1 hz2 rfl (by decide) _ _ _ rfl o4 w4.heap.size A n c (cel k) rfl (by rw [cel_length, HN.out, Nat.mul_one]) hB4 (cel_one k) (by unfold maxLen; omega) (by omega) q4.size ?_; intro v5 w5 o5 g5 b5; obtain ⟨A5, c5, rfl, hc5, hm5, -, -⟩ := o5.form; have q5 : Keeps wr w5 := Below.grown q4 g5 q4.size (fun g hg => (o4.lt g hg).1); have B5 : Bs w5 A5 ((vertB r l g).take q ++ k) := (by unfold Bs; rw [cel_append]; exact Own.at_ o5); clear o5 g5 b5)
            have hS5 := hSr.keep q5
            refine (readVert_no A5 (q + n) c5 w5 HL.out).mono ?_
            rintro e w6 ⟨rfl, q6⟩
            go_wp2_with fail
            go_roundw
            case rel => exact ⟨2, by omega, rfl, keeps_trans hw (keeps_trans q5 q6)⟩
            case measure => simp [intOf]
        · have hq12' : (12 : Int) < q := by omega
          have ht : ((vertB r l g).take 12).length = 12 := by rw [List.length_take, vertB_length]; omega
          have C := Lib.hid (copyBytes_any A2 12 c2 ((vertB r l g).take 12) wr (Dr.take 12) ht.symm (by unfold maxLen; omega))
          have hcc : ((12 : Nat) : Int) ≤ (c2 : Int) := by omega
          have hlt : ((vertB r l g).take 12 ++ k).length = 12 + n := by rw [List.length_append, ht, HN.out]
          by_cases hL : 12 + n = 12
          · have hq : ((12 : Int) + (n : Int) == 12) = true := by simp; omega
            have HT := Lib.hid ht
            have HL := Lib.hid hL
            have HLT := Lib.hid hlt
            clear ht hL hlt
            go_wp2_with fail
            refine C.out.mono ?_
            rintro e w4 ⟨v4, rfl, o4, q4⟩
            rw [HT.out] at o4
            have hB4 := hBr.keep q4
            go_wp2_with (at_builtin; refine wpList_app _ rfl _ _ 22 rfl wr.heap.size 5 i0 (.int .u8 0) 1 1 Tryd.underlying22 hi hz0 hz1 hz2 rfl (by decide) _ _ _ rfl o4 w4.heap.size A n c (cel k) rfl (by rw [cel_length, HN.out, Nat.mul_one]) hB4 (cel_one k) (by unfold maxLen; omega) (by omega) q4.size ?_; intro v5 w5 o5 g5 b5; obtain ⟨A5, c5, rfl, hc5, hm5, -, -⟩ := o5.form; have q5 : Keeps wr w5 := Below.grown q4 g5 q4.size (fun g hg => (o4.lt g hg).1); have B5 : Bs w5 A5 ((vertB r l g).take 12 ++ k) := (by unfold Bs; rw [cel_append]; exact Own.at_ o5); clear o5 g5 b5)
            have hS5 := hSr.keep q5
            rw [show 12 + n = 12 from HL.out] at hc5 ⊢
            refine (readVert_yes A5 c5 _ w5 B5 (HLT.out.trans HL.out) hc5).mono ?_
            rintro e w6 ⟨rfl, q6⟩
            go_wp2_with fail
            go_roundw
            case rel => exact ⟨2, by omega, rfl, keeps_trans hw (keeps_trans q5 q6)⟩
            case measure => simp [intOf]
          · have hq : ((12 : Int) + (n : Int) == 12) = false := by simp; omega
            have HT := Lib.hid ht
            have HL := Lib.hid hL
            have HLT := Lib.hid hlt
            clear ht hL hlt
            go_wp2_with fail
            refine C.out.mono ?_
            rintro e w4 ⟨v4, rfl, o4, q4⟩
            rw [HT.out] at o4
            have hB4 := hBr.keep q4
            go_wp2_with (at_builtin; refine wpList_app _ rfl _ _ 22 rfl wr.heap.size 5 i0 (.int .u8 0) 1 1 Tryd.underlying22 hi hz0 hz1 hz2 rfl (by decide) _ _ _ rfl o4 w4.heap.size A n c (cel k) rfl (by rw [cel_length, HN.out, Nat.mul_one]) hB4 (cel_one k) (by unfold maxLen; omega) (by omega) q4.size ?_; intro v5 w5 o5 g5 b5; obtain ⟨A5, c5, rfl, hc5, hm5, -, -⟩ := o5.form; have q5 : Keeps wr w5 := Below.grown q4 g5 q4.size (fun g hg => (o4.lt g hg).1); have B5 : Bs w5 A5 ((vertB r l g).take 12 ++ k) := (by unfold Bs; rw [cel_append]; exact Own.at_ o5); clear o5 g5 b5)
            have hS5 := hSr.keep q5
            refine (readVert_no A5 (12 + n) c5 w5 HL.out).mono ?_
            rintro e w6 ⟨rfl, q6⟩
            go_wp2_with fail
            go_roundw
            case rel => exact ⟨2, by omega, rfl, keeps_trans hw (keeps_trans q5 q6)⟩
            case measure => simp [intOf]
      · have za := (XA.keep hw).cell 2 rfl
        have hSr := hS1.keep hw
        have hBr := hB1.keep hw
        have Dr := D3.keep hw
        clear XA D1 D2 D3 hS1 hB1
        have ht : ((labelB N hb nx d).take q).length = q := by rw [List.length_take, labelB_length]; omega
        have C := Lib.hid (copyBytes_any A3 q c3 ((labelB N hb nx d).take q) wr (Dr.take q) ht.symm (by unfold maxLen; omega))
        have hcc : ((q : Nat) : Int) ≤ (c3 : Int) := by omega
        have hlt : ((labelB N hb nx d).take q ++ k).length = q + n := by rw [List.length_append, ht, HN.out]
        by_cases hL : q + n = 20
        · have hq : (((q : Nat) : Int) + (n : Int) == 20) = true := by simp; omega
          have HT := Lib.hid ht
          have HL := Lib.hid hL
          have HLT := Lib.hid hlt
          clear ht hL hlt
          go_wp2_with fail
          refine C.out.mono ?_
          rintro e w4 ⟨v4, rfl, o4, q4⟩
          rw [HT.out] at o4
          have hB4 := hBr.keep q4
          go_wp2_with (at_builtin; refine wpList_app _ rfl _ _ 22 rfl wr.heap.size 5 i0 (.int .u8 0) 1 1 Tryd.underlying22 hi hz0 hz1 hz2 rfl (by decide) _ _ _ rfl o4 w4.heap.size A n c (cel k) rfl (by rw [cel_length, HN.out, Nat.mul_one]) hB4 (cel_one k) (by unfold maxLen; omega) (by omega) q4.size ?_; intro v5 w5 o5 g5 b5; obtain ⟨A5, c5, rfl, hc5, hm5, -, -⟩ := o5.form; have q5 : Keeps wr w5 := Below.grown q4 g5 q4.size (fun g hg => (o4.lt g hg).1); have B5 : Bs w5 A5 ((labelB N hb nx d).take q ++ k) := (by unfold Bs; rw [cel_append]; exact Own.at_ o5); clear o5 g5 b5)
          have hS5 := hSr.keep q5
          rw [show q + n = 20 from HL.out] at hc5 ⊢
          refine (readLabel_yes A5 c5 _ w5 B5 (HLT.out.trans HL.out) hc5).mono ?_
          rintro e w6 ⟨rfl, q6⟩
          go_wp2_with fail
          go_roundw
          case rel => exact ⟨3, by omega, rfl, keeps_trans hw (keeps_trans q5 q6)⟩
          case measure => simp [intOf]
        · have hq : (((q : Nat) : Int) + (n : Int) == 20) = false := by simp; omega
          have HT := Lib.hid ht
          have HL := Lib.hid hL
          have HLT := Lib.hid hlt
          clear ht hL hlt
          go_wp2_with fail
          refine C.out.mono ?_
          rintro e w4 ⟨v4, rfl, o4, q4⟩
          rw [HT.out] at o4
          have hB4 := hBr.keep q4
          go_wp2_with (at_builtin; refine wpList_app _ rfl _ _ 22 rfl wr.heap.size 5 i0 (.int .u8 0) 1 1 Tryd.underlying22 hi hz0 hz1 hz2 rfl (by decide) _ _ _ rfl o4 w4.heap.size A n c (cel k) rfl (by rw [cel_length, HN.out, Nat.mul_one]) hB4 (cel_one k) (by unfold maxLen; omega) (by omega) q4.size ?_; intro v5 w5 o5 g5 b5; obtain ⟨A5, c5, rfl, hc5, hm5, -, -⟩ := o5.form; have q5 : Keeps wr w5 := Below.grown q4 g5 q4.size (fun g hg => (o4.lt g hg).1); have B5 : Bs w5 A5 ((labelB N hb nx d).take q ++ k) := (by unfold Bs; rw [cel_append]; exact Own.at_ o5); clear o5 g5 b5)
          have hS5 := hSr.keep q5
          refine (readLabel_no A5 (q + n) c5 w5 HL.out).mono ?_
          rintro e w6 ⟨rfl, q6⟩
          go_wp2_with fail
          go_roundw
          case rel => exact ⟨3, by omega, rfl, keeps_trans hw (keeps_trans q5 q6)⟩
          case measure => simp [intOf]
      · go_wp2_with fail
        refine (works_any wr (hS1.keep hw)).mono ?_
        rintro e w4 ⟨rfl, k4⟩
        go_wp2_with fail
        go_ret
        exact ⟨rfl, keeps_trans kk (keeps_trans hw k4)⟩
end Go.Proofs.YtbbkkbfpojndmaaDoor
