/- The walk of OctetBack. -/
import Derived.Test.YtbbkkbfpojndmaaDoorLawWrites
namespace Go.Proofs.YtbbkkbfpojndmaaDoor
open Go.RowKit
set_option linter.unusedSimpArgs false
set_option linter.unusedVariables false

theorem Box.set {w : World} {b : Nat} {t : TypeId} {cs : Array Value} (h : Box w b t cs) (i : Nat) (u : Value) : Box (w.setCell ⟨b, i, none⟩ u) b t (cs.setIfInBounds i u) := heap_setCell_same w b i cs t u h
theorem Box.far {w : World} {b : Nat} {t : TypeId} {cs : Array Value} (h : Box w b t cs) {p : Addr} (hp : b ≠ p.block) (u : Value) : Box (w.setCell p u) b t cs := (Below.heap_setCell w p u b hp).trans h
theorem Box.frozen {w : World} {b : Nat} {t : TypeId} {cs : Array Value} (h : Box w b t cs) (j : Nat) : w.frozen? ⟨b, j, none⟩ = false := frozen_of_row w b j cs t h
theorem nb_numAt (l : List UInt8) (p s : Nat) (h : p + s ≤ l.length) : nb s (numAt l p s) = (l.drop p).take s := by
  have e : ((l.drop p).take s).length = s := by rw [List.length_take, List.length_drop]; omega
  have := nb_le ((l.drop p).take s)
  rw [e] at this
  exact this
theorem cut_at (l : List UInt8) (p s : Nat) : (l.take p) ++ ((l.drop p).take s) = l.take (p + s) := by rw [List.take_add]
theorem edgeB_back (l : List UInt8) (h : 20 ≤ l.length) : edgeB (numAt l 0 4) (numAt l 4 4) (numAt l 8 8) (numAt l 16 4) = l.take 20 := by
  have e0 : (l.drop 0).take 4 = l.take 4 := rfl
  rw [edgeB, nb_numAt _ _ _ (by omega), nb_numAt _ _ _ (by omega), nb_numAt _ _ _ (by omega), nb_numAt _ _ _ (by omega), e0, cut_at, cut_at, cut_at]
theorem vertB_back (l : List UInt8) (h : 12 ≤ l.length) : vertB (numAt l 0 4) (numAt l 4 4) (numAt l 8 4) = l.take 12 := by
  have e0 : (l.drop 0).take 4 = l.take 4 := rfl
  rw [vertB, nb_numAt _ _ _ (by omega), nb_numAt _ _ _ (by omega), nb_numAt _ _ _ (by omega), e0, cut_at, cut_at]
theorem labelB_back (l : List UInt8) (h : 20 ≤ l.length) : labelB (numAt l 0 4) (numAt l 4 4) (numAt l 8 4) (numAt l 12 8) = l.take 20 := by
  have e0 : (l.drop 0).take 4 = l.take 4 := rfl
  rw [labelB, nb_numAt _ _ _ (by omega), nb_numAt _ _ _ (by omega), nb_numAt _ _ _ (by omega), nb_numAt _ _ _ (by omega), e0, cut_at, cut_at, cut_at]
theorem numAt_take (l : List UInt8) (p s n : Nat) (h : p + s ≤ n) : numAt (l.take n) p s = numAt l p s := by
  unfold numAt
  rw [List.drop_take, List.take_take, Nat.min_eq_left (by omega)]
theorem numAt_put (l : List UInt8) (s x : Nat) : numAt (l ++ nb s x) l.length s = x % 256 ^ s := by
  have := numAt_mid l (nb s x) [] l.length s rfl (nb_length _ _).symm
  rw [List.append_nil] at this
  rw [this, le_nb]
theorem put_k (A : Option Addr) (n c : Nat) (l : List UInt8) (x k : Nat) (s : Int) (hks : s = (k : Int)) (w : World) (hS : Sizes w) (hB : Bs w A l) (hnl : n = l.length) (hx : x < 18446744073709551616) (hn : n ≤ 140737488354000) (hk : isSz (k : Int) = true) :
    Calls Tryd.prog 16 #[.slice A n c, .int .u64 x, .int .i64 s] w (Made w (l ++ nb k x)) := by
  subst hks
  have h := put_any A n c l x k w hS hB hnl hx hn
  rw [if_pos hk, Int.toNat_natCast] at h
  exact h

set_option maxRecDepth 100000 in
set_option maxHeartbeats 4000000 in
theorem back_long (t h x m r l g hb nx d N : Nat) (ok : RowOk t h x m r l g hb nx d N) (A : Option Addr) (n c : Nat) (k : List UInt8) (y : Nat) (hy : y < 18446744073709551616) (w : World) (hS : Sizes w) (hB : Bs w A k) (hn : n = k.length) (hc : n ≤ c) (hlen : n ≤ maxLen) (hbig : (4096 : Int) < n) :
    Calls Tryd.prog 7 #[rowVal t h x m r l g hb nx d N, .slice A n c, .int .u64 y] w (Yes w) := by
  unfold maxLen at hlen
  obtain ⟨b0, b1, b2, b3, b4, b5, b6, b7, b8, b9, b10⟩ := ok
  have k0 := keeps_alloc w (.cells (rowCells t h x m r l g hb nx d N) 43)
  have X0 := Lib.hid (Box.new w 43 (rowCells t h x m r l g hb nx d N))
  unfold rowCells at k0 X0
  unfold rowVal
  have W := Lib.hid (works_any _ (hS.keep k0))
  clear hB hn
  go_enter Tryd.func7, Tryd.ntmps7
  go_wp2_with (go_at_call 11; refine W.out.mono ?_; rintro e w1 ⟨rfl, k1⟩)
  go_ret
  exact ⟨rfl, keeps_trans k0 k1⟩

set_option maxRecDepth 100000 in
set_option maxHeartbeats 16000000 in
theorem back_few (t h x m r l g hb nx d N : Nat) (ok : RowOk t h x m r l g hb nx d N) (A : Option Addr) (n c : Nat) (k : List UInt8) (y : Nat) (hy : y < 18446744073709551616) (w : World) (hS : Sizes w) (hB : Bs w A k) (hn : n = k.length) (hc : n ≤ c) (hlen : n ≤ maxLen) (h1 : (n : Int) ≤ 4096) (h20 : (n : Int) < 20) :
    Calls Tryd.prog 7 #[rowVal t h x m r l g hb nx d N, .slice A n c, .int .u64 y] w (Yes w) := by
  unfold maxLen at hlen
  obtain ⟨b0, b1, b2, b3, b4, b5, b6, b7, b8, b9, b10⟩ := ok
  have k0 := keeps_alloc w (.cells (rowCells t h x m r l g hb nx d N) 43)
  have X0 := Lib.hid (Box.new w 43 (rowCells t h x m r l g hb nx d N))
  unfold rowCells at k0 X0
  unfold rowVal
  have HN := Lib.hid hn
  clear hn
  have K0 := keeps_refl (w.alloc (.cells #[.int .u32 t, .int .u32 h, .int .u64 x, .int .u32 m, .int .u32 r, .int .u32 l, .int .u32 g, .int .u32 hb, .int .u32 nx, .int .u64 d, .int .u32 N] 43))
  go_enter Tryd.func7, Tryd.ntmps7
  go_wp2_with fail
  refine (edge_any t h x m b0 b1 b2 b3 _).mono ?_
  rintro e w1 ⟨v1, rfl, o1, q1⟩
  obtain ⟨A1, c1, rfl, hc1, -, -, -⟩ := o1.form
  have B1 : Bs w1 A1 (edgeB t h x m) := Own.at_ o1
  rw [edgeB_length] at hc1 ⊢
  clear o1
  go_wp2_with fail
  have R1 := readEdge_yes A1 c1 _ w1 B1 (edgeB_length _ _ _ _) hc1
  rw [edgeB_0 t h x m b0, edgeB_4 t h x m b1, edgeB_8 t h x m b2, edgeB_16 t h x m b3] at R1
  refine R1.mono ?_
  rintro e w2 ⟨rfl, q2⟩
  clear R1 B1
  have K1 := keeps_trans K0 (keeps_trans q1 (keeps_trans q2 (keeps_alloc w2 (.cells #[.int .u32 t, .int .u32 h, .int .u64 x, .int .u32 m] 37))))
  have Y1 := Lib.hid (Box.new w2 37 #[.int .u32 t, .int .u32 h, .int .u64 x, .int .u32 m])
  have T1 := keeps_trans q1 (keeps_trans q2 (keeps_alloc w2 (.cells #[.int .u32 t, .int .u32 h, .int .u64 x, .int .u32 m] 37)))
  have hs1 : w.heap.size < w2.heap.size := ((X0.out.keep K0).keep (keeps_trans q1 q2)).lt
  clear q1 q2
  have XX1 := X0.out.keep K1
  have z1a := XX1.cell 0 rfl
  have z1b := XX1.cell 1 rfl
  have z1c := XX1.cell 2 rfl
  have z1d := XX1.cell 3 rfl
  have z1e := XX1.cell 4 rfl
  have z1f := XX1.cell 5 rfl
  have z1g := XX1.cell 6 rfl
  have z1h := XX1.cell 7 rfl
  have z1i := XX1.cell 8 rfl
  have z1j := XX1.cell 9 rfl
  have z1k := XX1.cell 10 rfl
  go_wp2_with fail
  clear z1a z1b z1c z1d z1e z1f z1g z1h z1i z1j z1k
  refine (vert_any r l g b4 b5 b6 _).mono ?_
  rintro e w3 ⟨v3, rfl, o3, q3⟩
  obtain ⟨A3, c3, rfl, hc3, -, -, -⟩ := o3.form
  have B3 : Bs w3 A3 (vertB r l g) := Own.at_ o3
  rw [vertB_length] at hc3 ⊢
  clear o3
  go_wp2_with fail
  have R3 := readVert_yes A3 c3 _ w3 B3 (vertB_length _ _ _) hc3
  rw [vertB_0 r l g b4, vertB_4 r l g b5, vertB_8 r l g b6] at R3
  refine R3.mono ?_
  rintro e w4 ⟨rfl, q4⟩
  clear R3 B3
  have K2 := keeps_trans K1 (keeps_trans q3 (keeps_trans q4 (keeps_alloc w4 (.cells #[.int .u32 r, .int .u32 l, .int .u32 g] 39))))
  have Y2 := Lib.hid (Box.new w4 39 #[.int .u32 r, .int .u32 l, .int .u32 g])
  have T2 := keeps_trans q3 (keeps_trans q4 (keeps_alloc w4 (.cells #[.int .u32 r, .int .u32 l, .int .u32 g] 39)))
  have hs2 : w.heap.size < w4.heap.size := ((X0.out.keep K1).keep (keeps_trans q3 q4)).lt
  have u2 : w2.heap.size < w4.heap.size := (Y1.out.keep (keeps_trans q3 q4)).lt
  clear q3 q4
  have XX2 := X0.out.keep K2
  have z2a := XX2.cell 0 rfl
  have z2b := XX2.cell 1 rfl
  have z2c := XX2.cell 2 rfl
  have z2d := XX2.cell 3 rfl
  have z2e := XX2.cell 4 rfl
  have z2f := XX2.cell 5 rfl
  have z2g := XX2.cell 6 rfl
  have z2h := XX2.cell 7 rfl
  have z2i := XX2.cell 8 rfl
  have z2j := XX2.cell 9 rfl
  have z2k := XX2.cell 10 rfl
  go_wp2_with fail
  clear z2a z2b z2c z2d z2e z2f z2g z2h z2i z2j z2k
  refine (label_any N hb nx d b10 b7 b8 b9 _).mono ?_
  rintro e w5 ⟨v5, rfl, o5, q5⟩
  obtain ⟨A5, c5, rfl, hc5, -, -, -⟩ := o5.form
  have B5 : Bs w5 A5 (labelB N hb nx d) := Own.at_ o5
  rw [labelB_length] at hc5 ⊢
  clear o5
  go_wp2_with fail
  have R5 := readLabel_yes A5 c5 _ w5 B5 (labelB_length _ _ _ _) hc5
  rw [labelB_0 N hb nx d b10, labelB_4 N hb nx d b7, labelB_8 N hb nx d b8, labelB_12 N hb nx d b9] at R5
  refine R5.mono ?_
  rintro e w6 ⟨rfl, q6⟩
  clear R5 B5
  have K3 := keeps_trans K2 (keeps_trans q5 (keeps_trans q6 (keeps_alloc w6 (.cells #[.int .u32 hb, .int .u32 nx, .int .u64 d] 41))))
  have Y3 := Lib.hid (Box.new w6 41 #[.int .u32 hb, .int .u32 nx, .int .u64 d])
  have T3 := keeps_trans q5 (keeps_trans q6 (keeps_alloc w6 (.cells #[.int .u32 hb, .int .u32 nx, .int .u64 d] 41)))
  have hs3 : w.heap.size < w6.heap.size := ((X0.out.keep K2).keep (keeps_trans q5 q6)).lt
  have u3 : w4.heap.size < w6.heap.size := (Y2.out.keep (keeps_trans q5 q6)).lt
  clear q5 q6
  have XX3 := X0.out.keep K3
  have z3a := XX3.cell 0 rfl
  have z3b := XX3.cell 1 rfl
  have z3c := XX3.cell 2 rfl
  have z3d := XX3.cell 3 rfl
  have z3e := XX3.cell 4 rfl
  have z3f := XX3.cell 5 rfl
  have z3g := XX3.cell 6 rfl
  have z3h := XX3.cell 7 rfl
  have z3i := XX3.cell 8 rfl
  have z3j := XX3.cell 9 rfl
  have z3k := XX3.cell 10 rfl
  have Y13 := Y1.out.keep (keeps_trans T2 T3)
  have Y23 := Y2.out.keep T3
  have Y33 := Y3.out
  have e3a := Y13.cell 0 rfl
  have e3b := Y13.cell 1 rfl
  have e3c := Y13.cell 2 rfl
  have e3d := Y13.cell 3 rfl
  have f3a := Y23.cell 0 rfl
  have f3b := Y23.cell 1 rfl
  have f3c := Y23.cell 2 rfl
  go_wp2_with fail
  have kW := keeps_trans k0 K3
  clear XX1 XX2 XX3 Y1 Y2 Y3 Y13 Y23 Y33 K0 K1 K2 K3 T1 T2 T3 X0 k0 hs1 hs2 hs3 z3a z3b z3c z3d z3e z3f z3g z3h z3i z3j z3k e3a e3b e3c e3d f3a f3b f3c
  have kZ : Keeps (w6.alloc (.cells #[.int .u32 hb, .int .u32 nx, .int .u64 d] 41)) ((w6.alloc (.cells #[.int .u32 hb, .int .u32 nx, .int .u64 d] 41)).alloc (.cells #[.int .i64 1, .int .i64 2, .int .i64 4, .int .i64 8] 3)) := keeps_alloc _ _
  have XZ : Box ((w6.alloc (.cells #[.int .u32 hb, .int .u32 nx, .int .u64 d] 41)).alloc (.cells #[.int .i64 1, .int .i64 2, .int .i64 4, .int .i64 8] 3)) (w6.heap.size + 1) 3 #[.int .i64 1, .int .i64 2, .int .i64 4, .int .i64 8] := by have hbx := Box.new (w6.alloc (.cells #[.int .u32 hb, .int .u32 nx, .int .u64 d] 41)) 3 #[.int .i64 1, .int .i64 2, .int .i64 4, .int .i64 8]; simpa using hbx
  have kk := keeps_trans kW kZ
  generalize ((w6.alloc (.cells #[.int .u32 hb, .int .u32 nx, .int .u64 d] 41)).alloc (.cells #[.int .i64 1, .int .i64 2, .int .i64 4, .int .i64 8] 3)) = W1 at *
  clear kZ kW
  have hS1 := hS.keep kk
  have hB1 := hB.keep kk
  clear hS hB
  go_loopw [15, 16, 17, 18, 19] (fun i _ _ _ _ wr => ∃ j : Nat, j ≤ 4 ∧ i = .int .i64 j ∧ Keeps W1 wr) (fun i _ _ _ _ _ => 4 - (intOf i).toNat)
  case atStart => exact ⟨0, by omega, rfl, keeps_refl _⟩
  case round =>
    obtain ⟨j, hj, rfl, hw⟩ := hrel
    rcases (by omega : j = 0 ∨ j = 1 ∨ j = 2 ∨ j = 3 ∨ j = 4) with rfl | rfl | rfl | rfl | rfl
    · have za := (XZ.keep hw).cell 0 rfl
      have hSr := hS1.keep hw
      have hBr := hB1.keep hw
      have hL : (k ++ nb 1 y).length = n + 1 := by rw [List.length_append, nb_length, HN.out]
      have HL := Lib.hid hL
      clear hL XZ hS1 hB1
      go_wp2_with fail
      refine (put_k A n c k y 1 1 rfl wr hSr hBr HN.out hy (by omega) rfl).mono ?_
      rintro e w20 ⟨v20, rfl, o20, q20⟩
      obtain ⟨A20, c20, rfl, hc20, hm20, -, -⟩ := o20.form
      have B20 : Bs w20 A20 (k ++ nb 1 y) := Own.at_ o20
      rw [HL.out] at hc20 ⊢
      clear o20
      have zb := ((Keeps.cellOf q20) za)
      have hcc : (n : Int) ≤ (c20 : Int) := by omega
      go_wp2_with fail
      have G := get_yes A20 (n + 1) c20 (k ++ nb 1 y) n 1 w20 (hSr.keep q20) B20 HL.out.symm hc20 (by omega) rfl (by omega)
      rw [show numAt (k ++ nb 1 y) n 1 = y % 256 ^ 1 from (by rw [HN.out]; exact numAt_put k 1 y)] at G
      rw [show y % 256 ^ 1 = y % 256 from by rfl] at G
      refine G.mono ?_
      rintro e w' ⟨rfl, rfl⟩
      clear G
      have B21 : Bs w20 A20 k := (by have := B20.take k.length; rwa [List.take_left] at this)
      have B22 := hBr.keep q20
      have hyy : ((y % 256 : Nat) : Int) = (y : Int) % 256 := (by omega)
      have HYY := Lib.hid hyy
      clear hyy za hSr hBr B20
      rw [HYY.out]
      go_wp2_with fail
      refine (eqBytes_same A20 n c20 k A n c w20 B21 HN.out B22 HN.out).mono ?_
      rintro e w' ⟨rfl, rfl⟩
      go_wp2_with fail
      go_roundw
      case rel => exact ⟨1, by omega, rfl, keeps_trans hw q20⟩
      case measure => simp [intOf]
    · have za := (XZ.keep hw).cell 1 rfl
      have hSr := hS1.keep hw
      have hBr := hB1.keep hw
      have hL : (k ++ nb 2 y).length = n + 2 := by rw [List.length_append, nb_length, HN.out]
      have HL := Lib.hid hL
      clear hL XZ hS1 hB1
      go_wp2_with fail
      refine (put_k A n c k y 2 2 rfl wr hSr hBr HN.out hy (by omega) rfl).mono ?_
      rintro e w20 ⟨v20, rfl, o20, q20⟩
      obtain ⟨A20, c20, rfl, hc20, hm20, -, -⟩ := o20.form
      have B20 : Bs w20 A20 (k ++ nb 2 y) := Own.at_ o20
      rw [HL.out] at hc20 ⊢
      clear o20
      have zb := ((Keeps.cellOf q20) za)
      have hcc : (n : Int) ≤ (c20 : Int) := by omega
      go_wp2_with fail
      have G := get_yes A20 (n + 2) c20 (k ++ nb 2 y) n 2 w20 (hSr.keep q20) B20 HL.out.symm hc20 (by omega) rfl (by omega)
      rw [show numAt (k ++ nb 2 y) n 2 = y % 256 ^ 2 from (by rw [HN.out]; exact numAt_put k 2 y)] at G
      rw [show y % 256 ^ 2 = y % 65536 from by rfl] at G
      refine G.mono ?_
      rintro e w' ⟨rfl, rfl⟩
      clear G
      have B21 : Bs w20 A20 k := (by have := B20.take k.length; rwa [List.take_left] at this)
      have B22 := hBr.keep q20
      have hyy : ((y % 65536 : Nat) : Int) = (y : Int) % 65536 := (by omega)
      have HYY := Lib.hid hyy
      clear hyy za hSr hBr B20
      rw [HYY.out]
      go_wp2_with fail
      refine (eqBytes_same A20 n c20 k A n c w20 B21 HN.out B22 HN.out).mono ?_
      rintro e w' ⟨rfl, rfl⟩
      go_wp2_with fail
      go_roundw
      case rel => exact ⟨2, by omega, rfl, keeps_trans hw q20⟩
      case measure => simp [intOf]
    · have za := (XZ.keep hw).cell 2 rfl
      have hSr := hS1.keep hw
      have hBr := hB1.keep hw
      have hL : (k ++ nb 4 y).length = n + 4 := by rw [List.length_append, nb_length, HN.out]
      have HL := Lib.hid hL
      clear hL XZ hS1 hB1
      go_wp2_with fail
      refine (put_k A n c k y 4 4 rfl wr hSr hBr HN.out hy (by omega) rfl).mono ?_
      rintro e w20 ⟨v20, rfl, o20, q20⟩
      obtain ⟨A20, c20, rfl, hc20, hm20, -, -⟩ := o20.form
      have B20 : Bs w20 A20 (k ++ nb 4 y) := Own.at_ o20
      rw [HL.out] at hc20 ⊢
      clear o20
      have zb := ((Keeps.cellOf q20) za)
      have hcc : (n : Int) ≤ (c20 : Int) := by omega
      go_wp2_with fail
      have G := get_yes A20 (n + 4) c20 (k ++ nb 4 y) n 4 w20 (hSr.keep q20) B20 HL.out.symm hc20 (by omega) rfl (by omega)
      rw [show numAt (k ++ nb 4 y) n 4 = y % 256 ^ 4 from (by rw [HN.out]; exact numAt_put k 4 y)] at G
      rw [show y % 256 ^ 4 = y % 4294967296 from by rfl] at G
      refine G.mono ?_
      rintro e w' ⟨rfl, rfl⟩
      clear G
      have B21 : Bs w20 A20 k := (by have := B20.take k.length; rwa [List.take_left] at this)
      have B22 := hBr.keep q20
      have hyy : ((y % 4294967296 : Nat) : Int) = (y : Int) % 4294967296 := (by omega)
      have HYY := Lib.hid hyy
      clear hyy za hSr hBr B20
      rw [HYY.out]
      go_wp2_with fail
      refine (eqBytes_same A20 n c20 k A n c w20 B21 HN.out B22 HN.out).mono ?_
      rintro e w' ⟨rfl, rfl⟩
      go_wp2_with fail
      go_roundw
      case rel => exact ⟨3, by omega, rfl, keeps_trans hw q20⟩
      case measure => simp [intOf]
    · have za := (XZ.keep hw).cell 3 rfl
      have hSr := hS1.keep hw
      have hBr := hB1.keep hw
      have hL : (k ++ nb 8 y).length = n + 8 := by rw [List.length_append, nb_length, HN.out]
      have HL := Lib.hid hL
      clear hL XZ hS1 hB1
      go_wp2_with fail
      refine (put_k A n c k y 8 8 rfl wr hSr hBr HN.out hy (by omega) rfl).mono ?_
      rintro e w20 ⟨v20, rfl, o20, q20⟩
      obtain ⟨A20, c20, rfl, hc20, hm20, -, -⟩ := o20.form
      have B20 : Bs w20 A20 (k ++ nb 8 y) := Own.at_ o20
      rw [HL.out] at hc20 ⊢
      clear o20
      have zb := ((Keeps.cellOf q20) za)
      have hcc : (n : Int) ≤ (c20 : Int) := by omega
      go_wp2_with fail
      have G := get_yes A20 (n + 8) c20 (k ++ nb 8 y) n 8 w20 (hSr.keep q20) B20 HL.out.symm hc20 (by omega) rfl (by omega)
      rw [show numAt (k ++ nb 8 y) n 8 = y % 256 ^ 8 from (by rw [HN.out]; exact numAt_put k 8 y)] at G
      rw [show y % 256 ^ 8 = y from Nat.mod_eq_of_lt (by omega)] at G
      refine G.mono ?_
      rintro e w' ⟨rfl, rfl⟩
      clear G
      have B21 : Bs w20 A20 k := (by have := B20.take k.length; rwa [List.take_left] at this)
      have B22 := hBr.keep q20
      have hyy : ((y % 18446744073709551616 : Nat) : Int) = (y : Int) % 18446744073709551616 := (by omega)
      have HYY := Lib.hid hyy
      clear hyy za hSr hBr B20
      
      go_wp2_with fail
      refine (eqBytes_same A20 n c20 k A n c w20 B21 HN.out B22 HN.out).mono ?_
      rintro e w' ⟨rfl, rfl⟩
      go_wp2_with fail
      go_roundw
      case rel => exact ⟨4, by omega, rfl, keeps_trans hw q20⟩
      case measure => simp [intOf]
    · go_wp2_with fail
      refine (works_any wr (hS1.keep hw)).mono ?_
      rintro e w20 ⟨rfl, q20⟩
      go_wp2_with fail
      go_ret
      exact ⟨rfl, keeps_trans kk (keeps_trans hw q20)⟩

set_option maxRecDepth 100000 in
set_option maxHeartbeats 32000000 in
theorem back_many (t h x m r l g hb nx d N : Nat) (ok : RowOk t h x m r l g hb nx d N) (A : Option Addr) (n c : Nat) (k : List UInt8) (y : Nat) (hy : y < 18446744073709551616) (w : World) (hS : Sizes w) (hB : Bs w A k) (hn : n = k.length) (hc : n ≤ c) (hlen : n ≤ maxLen) (h1 : (n : Int) ≤ 4096) (h20 : 20 ≤ (n : Int)) :
    Calls Tryd.prog 7 #[rowVal t h x m r l g hb nx d N, .slice A n c, .int .u64 y] w (Yes w) := by
  unfold maxLen at hlen
  obtain ⟨b0, b1, b2, b3, b4, b5, b6, b7, b8, b9, b10⟩ := ok
  have k0 := keeps_alloc w (.cells (rowCells t h x m r l g hb nx d N) 43)
  have X0 := Lib.hid (Box.new w 43 (rowCells t h x m r l g hb nx d N))
  unfold rowCells at k0 X0
  unfold rowVal
  have HN := Lib.hid hn
  clear hn
  have K0 := keeps_refl (w.alloc (.cells #[.int .u32 t, .int .u32 h, .int .u64 x, .int .u32 m, .int .u32 r, .int .u32 l, .int .u32 g, .int .u32 hb, .int .u32 nx, .int .u64 d, .int .u32 N] 43))
  go_enter Tryd.func7, Tryd.ntmps7
  go_wp2_with fail
  refine (edge_any t h x m b0 b1 b2 b3 _).mono ?_
  rintro e w1 ⟨v1, rfl, o1, q1⟩
  obtain ⟨A1, c1, rfl, hc1, -, -, -⟩ := o1.form
  have B1 : Bs w1 A1 (edgeB t h x m) := Own.at_ o1
  rw [edgeB_length] at hc1 ⊢
  clear o1
  go_wp2_with fail
  have R1 := readEdge_yes A1 c1 _ w1 B1 (edgeB_length _ _ _ _) hc1
  rw [edgeB_0 t h x m b0, edgeB_4 t h x m b1, edgeB_8 t h x m b2, edgeB_16 t h x m b3] at R1
  refine R1.mono ?_
  rintro e w2 ⟨rfl, q2⟩
  clear R1 B1
  have K1 := keeps_trans K0 (keeps_trans q1 (keeps_trans q2 (keeps_alloc w2 (.cells #[.int .u32 t, .int .u32 h, .int .u64 x, .int .u32 m] 37))))
  have Y1 := Lib.hid (Box.new w2 37 #[.int .u32 t, .int .u32 h, .int .u64 x, .int .u32 m])
  have T1 := keeps_trans q1 (keeps_trans q2 (keeps_alloc w2 (.cells #[.int .u32 t, .int .u32 h, .int .u64 x, .int .u32 m] 37)))
  have hs1 : w.heap.size < w2.heap.size := ((X0.out.keep K0).keep (keeps_trans q1 q2)).lt
  clear q1 q2
  have XX1 := X0.out.keep K1
  have z1a := XX1.cell 0 rfl
  have z1b := XX1.cell 1 rfl
  have z1c := XX1.cell 2 rfl
  have z1d := XX1.cell 3 rfl
  have z1e := XX1.cell 4 rfl
  have z1f := XX1.cell 5 rfl
  have z1g := XX1.cell 6 rfl
  have z1h := XX1.cell 7 rfl
  have z1i := XX1.cell 8 rfl
  have z1j := XX1.cell 9 rfl
  have z1k := XX1.cell 10 rfl
  go_wp2_with fail
  clear z1a z1b z1c z1d z1e z1f z1g z1h z1i z1j z1k
  refine (vert_any r l g b4 b5 b6 _).mono ?_
  rintro e w3 ⟨v3, rfl, o3, q3⟩
  obtain ⟨A3, c3, rfl, hc3, -, -, -⟩ := o3.form
  have B3 : Bs w3 A3 (vertB r l g) := Own.at_ o3
  rw [vertB_length] at hc3 ⊢
  clear o3
  go_wp2_with fail
  have R3 := readVert_yes A3 c3 _ w3 B3 (vertB_length _ _ _) hc3
  rw [vertB_0 r l g b4, vertB_4 r l g b5, vertB_8 r l g b6] at R3
  refine R3.mono ?_
  rintro e w4 ⟨rfl, q4⟩
  clear R3 B3
  have K2 := keeps_trans K1 (keeps_trans q3 (keeps_trans q4 (keeps_alloc w4 (.cells #[.int .u32 r, .int .u32 l, .int .u32 g] 39))))
  have Y2 := Lib.hid (Box.new w4 39 #[.int .u32 r, .int .u32 l, .int .u32 g])
  have T2 := keeps_trans q3 (keeps_trans q4 (keeps_alloc w4 (.cells #[.int .u32 r, .int .u32 l, .int .u32 g] 39)))
  have hs2 : w.heap.size < w4.heap.size := ((X0.out.keep K1).keep (keeps_trans q3 q4)).lt
  have u2 : w2.heap.size < w4.heap.size := (Y1.out.keep (keeps_trans q3 q4)).lt
  clear q3 q4
  have XX2 := X0.out.keep K2
  have z2a := XX2.cell 0 rfl
  have z2b := XX2.cell 1 rfl
  have z2c := XX2.cell 2 rfl
  have z2d := XX2.cell 3 rfl
  have z2e := XX2.cell 4 rfl
  have z2f := XX2.cell 5 rfl
  have z2g := XX2.cell 6 rfl
  have z2h := XX2.cell 7 rfl
  have z2i := XX2.cell 8 rfl
  have z2j := XX2.cell 9 rfl
  have z2k := XX2.cell 10 rfl
  go_wp2_with fail
  clear z2a z2b z2c z2d z2e z2f z2g z2h z2i z2j z2k
  refine (label_any N hb nx d b10 b7 b8 b9 _).mono ?_
  rintro e w5 ⟨v5, rfl, o5, q5⟩
  obtain ⟨A5, c5, rfl, hc5, -, -, -⟩ := o5.form
  have B5 : Bs w5 A5 (labelB N hb nx d) := Own.at_ o5
  rw [labelB_length] at hc5 ⊢
  clear o5
  go_wp2_with fail
  have R5 := readLabel_yes A5 c5 _ w5 B5 (labelB_length _ _ _ _) hc5
  rw [labelB_0 N hb nx d b10, labelB_4 N hb nx d b7, labelB_8 N hb nx d b8, labelB_12 N hb nx d b9] at R5
  refine R5.mono ?_
  rintro e w6 ⟨rfl, q6⟩
  clear R5 B5
  have K3 := keeps_trans K2 (keeps_trans q5 (keeps_trans q6 (keeps_alloc w6 (.cells #[.int .u32 hb, .int .u32 nx, .int .u64 d] 41))))
  have Y3 := Lib.hid (Box.new w6 41 #[.int .u32 hb, .int .u32 nx, .int .u64 d])
  have T3 := keeps_trans q5 (keeps_trans q6 (keeps_alloc w6 (.cells #[.int .u32 hb, .int .u32 nx, .int .u64 d] 41)))
  have hs3 : w.heap.size < w6.heap.size := ((X0.out.keep K2).keep (keeps_trans q5 q6)).lt
  have u3 : w4.heap.size < w6.heap.size := (Y2.out.keep (keeps_trans q5 q6)).lt
  clear q5 q6
  have XX3 := X0.out.keep K3
  have z3a := XX3.cell 0 rfl
  have z3b := XX3.cell 1 rfl
  have z3c := XX3.cell 2 rfl
  have z3d := XX3.cell 3 rfl
  have z3e := XX3.cell 4 rfl
  have z3f := XX3.cell 5 rfl
  have z3g := XX3.cell 6 rfl
  have z3h := XX3.cell 7 rfl
  have z3i := XX3.cell 8 rfl
  have z3j := XX3.cell 9 rfl
  have z3k := XX3.cell 10 rfl
  have Y13 := Y1.out.keep (keeps_trans T2 T3)
  have Y23 := Y2.out.keep T3
  have Y33 := Y3.out
  have e3a := Y13.cell 0 rfl
  have e3b := Y13.cell 1 rfl
  have e3c := Y13.cell 2 rfl
  have e3d := Y13.cell 3 rfl
  have f3a := Y23.cell 0 rfl
  have f3b := Y23.cell 1 rfl
  have f3c := Y23.cell 2 rfl
  have kW := keeps_trans k0 K3
  have hBb := hB.keep kW
  have hB0 := hB
  have hc20 : (20 : Int) ≤ (c : Int) := by omega
  have hc12 : (12 : Int) ≤ (c : Int) := by omega
  have h12k : 20 ≤ k.length := by rw [← HN.out]; omega
  have l20 : (k.take 20).length = 20 := by rw [List.length_take]; omega
  have l12 : (k.take 12).length = 12 := by rw [List.length_take]; omega
  have H12 := Lib.hid h12k
  have L20 := Lib.hid l20
  have L12 := Lib.hid l12
  have Y13' := Y13
  have u0 := hs1
  clear h12k l20 l12 XX1 XX2 XX3 Y1 Y2 Y3 K0 K1 K2 K3 T1 T2 T3 X0 k0 hB hs1 hs2 hs3
  have hcn20 : 20 ≤ c := by omega
  have hcn12 : 12 ≤ c := by omega
  go_wp2_with fail
  clear z3a z3b z3c z3d z3e z3f z3g z3h z3i z3j z3k e3a e3b e3c e3d f3a f3b f3c
  have R := readEdge_yes A c (k.take 20) _ (hBb.take 20) L20.out hcn20
  rw [numAt_take k 0 4 20 (by omega), numAt_take k 4 4 20 (by omega), numAt_take k 8 8 20 (by omega), numAt_take k 16 4 20 (by omega)] at R
  refine R.mono ?_
  rintro e w7 ⟨rfl, q7⟩
  clear R
  have E1 := Y13.keep q7
  have V1 := Y23.keep q7
  have L1 := Y33.keep q7
  have kw7 := keeps_trans kW q7
  have ge10 := E1.cell 0 rfl
  have ge11 := E1.cell 1 rfl
  have ge12 := E1.cell 2 rfl
  have ge13 := E1.cell 3 rfl
  have gf10 := E1.frozen 0
  have gf11 := E1.frozen 1
  have gf12 := E1.frozen 2
  have gf13 := E1.frozen 3
  clear Y13 Y13' Y23 Y33 kW hBb q7
  go_wp2_with fail
  clear ge10 gf10 ge11 gf11 ge12 gf12 ge13 gf13
  have E2 : Box ((((w7.setCell ⟨w2.heap.size, 0, none⟩ (.int .u32 (numAt k 0 4))).setCell ⟨w2.heap.size, 1, none⟩ (.int .u32 (numAt k 4 4))).setCell ⟨w2.heap.size, 2, none⟩ (.int .u64 (numAt k 8 8))).setCell ⟨w2.heap.size, 3, none⟩ (.int .u32 (numAt k 16 4))) w2.heap.size 37 #[.int .u32 (numAt k 0 4), .int .u32 (numAt k 4 4), .int .u64 (numAt k 8 8), .int .u32 (numAt k 16 4)] := by have hx := ((((E1.set 0 (.int .u32 (numAt k 0 4))).set 1 (.int .u32 (numAt k 4 4))).set 2 (.int .u64 (numAt k 8 8))).set 3 (.int .u32 (numAt k 16 4))); simpa using hx
  have V2 : Box ((((w7.setCell ⟨w2.heap.size, 0, none⟩ (.int .u32 (numAt k 0 4))).setCell ⟨w2.heap.size, 1, none⟩ (.int .u32 (numAt k 4 4))).setCell ⟨w2.heap.size, 2, none⟩ (.int .u64 (numAt k 8 8))).setCell ⟨w2.heap.size, 3, none⟩ (.int .u32 (numAt k 16 4))) w4.heap.size 39 #[.int .u32 r, .int .u32 l, .int .u32 g] := ((((V1.far (by simp; omega) _).far (by simp; omega) _).far (by simp; omega) _).far (by simp; omega) _)
  have L2 : Box ((((w7.setCell ⟨w2.heap.size, 0, none⟩ (.int .u32 (numAt k 0 4))).setCell ⟨w2.heap.size, 1, none⟩ (.int .u32 (numAt k 4 4))).setCell ⟨w2.heap.size, 2, none⟩ (.int .u64 (numAt k 8 8))).setCell ⟨w2.heap.size, 3, none⟩ (.int .u32 (numAt k 16 4))) w6.heap.size 41 #[.int .u32 hb, .int .u32 nx, .int .u64 d] := ((((L1.far (by simp; omega) _).far (by simp; omega) _).far (by simp; omega) _).far (by simp; omega) _)
  have k8 : Keeps w ((((w7.setCell ⟨w2.heap.size, 0, none⟩ (.int .u32 (numAt k 0 4))).setCell ⟨w2.heap.size, 1, none⟩ (.int .u32 (numAt k 4 4))).setCell ⟨w2.heap.size, 2, none⟩ (.int .u64 (numAt k 8 8))).setCell ⟨w2.heap.size, 3, none⟩ (.int .u32 (numAt k 16 4))) := ((((kw7.setCell (by simp; omega) _).setCell (by simp; omega) _).setCell (by simp; omega) _).setCell (by simp; omega) _)
  clear E1 V1 L1 kw7
  generalize ((((w7.setCell ⟨w2.heap.size, 0, none⟩ (.int .u32 (numAt k 0 4))).setCell ⟨w2.heap.size, 1, none⟩ (.int .u32 (numAt k 4 4))).setCell ⟨w2.heap.size, 2, none⟩ (.int .u64 (numAt k 8 8))).setCell ⟨w2.heap.size, 3, none⟩ (.int .u32 (numAt k 16 4))) = w8 at *
  have R := readLabel_yes A c (k.take 20) w8 ((hB0.keep k8).take 20) L20.out hcn20
  rw [numAt_take k 0 4 20 (by omega), numAt_take k 4 4 20 (by omega), numAt_take k 8 4 20 (by omega), numAt_take k 12 8 20 (by omega)] at R
  refine R.mono ?_
  rintro e w9 ⟨rfl, q9⟩
  clear R
  have E3 := E2.keep q9
  have V3 := V2.keep q9
  have L3 := L2.keep q9
  have kw9 := keeps_trans k8 q9
  have ge10 := L3.cell 0 rfl
  have ge11 := L3.cell 1 rfl
  have ge12 := L3.cell 2 rfl
  have gf10 := L3.frozen 0
  have gf11 := L3.frozen 1
  have gf12 := L3.frozen 2
  clear E2 V2 L2 k8 q9
  go_wp2_with fail
  clear ge10 gf10 ge11 gf11 ge12 gf12
  have L4 : Box (((w9.setCell ⟨w6.heap.size, 0, none⟩ (.int .u32 (numAt k 4 4))).setCell ⟨w6.heap.size, 1, none⟩ (.int .u32 (numAt k 8 4))).setCell ⟨w6.heap.size, 2, none⟩ (.int .u64 (numAt k 12 8))) w6.heap.size 41 #[.int .u32 (numAt k 4 4), .int .u32 (numAt k 8 4), .int .u64 (numAt k 12 8)] := by have hx := (((L3.set 0 (.int .u32 (numAt k 4 4))).set 1 (.int .u32 (numAt k 8 4))).set 2 (.int .u64 (numAt k 12 8))); simpa using hx
  have V4 : Box (((w9.setCell ⟨w6.heap.size, 0, none⟩ (.int .u32 (numAt k 4 4))).setCell ⟨w6.heap.size, 1, none⟩ (.int .u32 (numAt k 8 4))).setCell ⟨w6.heap.size, 2, none⟩ (.int .u64 (numAt k 12 8))) w4.heap.size 39 #[.int .u32 r, .int .u32 l, .int .u32 g] := (((V3.far (by simp; omega) _).far (by simp; omega) _).far (by simp; omega) _)
  have E4 : Box (((w9.setCell ⟨w6.heap.size, 0, none⟩ (.int .u32 (numAt k 4 4))).setCell ⟨w6.heap.size, 1, none⟩ (.int .u32 (numAt k 8 4))).setCell ⟨w6.heap.size, 2, none⟩ (.int .u64 (numAt k 12 8))) w2.heap.size 37 #[.int .u32 (numAt k 0 4), .int .u32 (numAt k 4 4), .int .u64 (numAt k 8 8), .int .u32 (numAt k 16 4)] := (((E3.far (by simp; omega) _).far (by simp; omega) _).far (by simp; omega) _)
  have k10 : Keeps w (((w9.setCell ⟨w6.heap.size, 0, none⟩ (.int .u32 (numAt k 4 4))).setCell ⟨w6.heap.size, 1, none⟩ (.int .u32 (numAt k 8 4))).setCell ⟨w6.heap.size, 2, none⟩ (.int .u64 (numAt k 12 8))) := (((kw9.setCell (by simp; omega) _).setCell (by simp; omega) _).setCell (by simp; omega) _)
  clear E3 V3 L3 kw9
  generalize (((w9.setCell ⟨w6.heap.size, 0, none⟩ (.int .u32 (numAt k 4 4))).setCell ⟨w6.heap.size, 1, none⟩ (.int .u32 (numAt k 8 4))).setCell ⟨w6.heap.size, 2, none⟩ (.int .u64 (numAt k 12 8))) = w10 at *
  have R := readVert_yes A c (k.take 12) w10 ((hB0.keep k10).take 12) L12.out hcn12
  rw [numAt_take k 0 4 12 (by omega), numAt_take k 4 4 12 (by omega), numAt_take k 8 4 12 (by omega)] at R
  refine R.mono ?_
  rintro e w11 ⟨rfl, q11⟩
  clear R
  have E5 := E4.keep q11
  have V5 := V4.keep q11
  have L5 := L4.keep q11
  have kw11 := keeps_trans k10 q11
  have ge10 := V5.cell 0 rfl
  have ge11 := V5.cell 1 rfl
  have ge12 := V5.cell 2 rfl
  have gf10 := V5.frozen 0
  have gf11 := V5.frozen 1
  have gf12 := V5.frozen 2
  clear E4 V4 L4 k10 q11
  go_wp2_with fail
  clear ge10 gf10 ge11 gf11 ge12 gf12
  have V6 : Box (((w11.setCell ⟨w4.heap.size, 0, none⟩ (.int .u32 (numAt k 0 4))).setCell ⟨w4.heap.size, 1, none⟩ (.int .u32 (numAt k 4 4))).setCell ⟨w4.heap.size, 2, none⟩ (.int .u32 (numAt k 8 4))) w4.heap.size 39 #[.int .u32 (numAt k 0 4), .int .u32 (numAt k 4 4), .int .u32 (numAt k 8 4)] := by have hx := (((V5.set 0 (.int .u32 (numAt k 0 4))).set 1 (.int .u32 (numAt k 4 4))).set 2 (.int .u32 (numAt k 8 4))); simpa using hx
  have L6 : Box (((w11.setCell ⟨w4.heap.size, 0, none⟩ (.int .u32 (numAt k 0 4))).setCell ⟨w4.heap.size, 1, none⟩ (.int .u32 (numAt k 4 4))).setCell ⟨w4.heap.size, 2, none⟩ (.int .u32 (numAt k 8 4))) w6.heap.size 41 #[.int .u32 (numAt k 4 4), .int .u32 (numAt k 8 4), .int .u64 (numAt k 12 8)] := (((L5.far (by simp; omega) _).far (by simp; omega) _).far (by simp; omega) _)
  have E6 : Box (((w11.setCell ⟨w4.heap.size, 0, none⟩ (.int .u32 (numAt k 0 4))).setCell ⟨w4.heap.size, 1, none⟩ (.int .u32 (numAt k 4 4))).setCell ⟨w4.heap.size, 2, none⟩ (.int .u32 (numAt k 8 4))) w2.heap.size 37 #[.int .u32 (numAt k 0 4), .int .u32 (numAt k 4 4), .int .u64 (numAt k 8 8), .int .u32 (numAt k 16 4)] := (((E5.far (by simp; omega) _).far (by simp; omega) _).far (by simp; omega) _)
  have k12 : Keeps w (((w11.setCell ⟨w4.heap.size, 0, none⟩ (.int .u32 (numAt k 0 4))).setCell ⟨w4.heap.size, 1, none⟩ (.int .u32 (numAt k 4 4))).setCell ⟨w4.heap.size, 2, none⟩ (.int .u32 (numAt k 8 4))) := (((kw11.setCell (by simp; omega) _).setCell (by simp; omega) _).setCell (by simp; omega) _)
  clear E5 V5 L5 kw11
  generalize (((w11.setCell ⟨w4.heap.size, 0, none⟩ (.int .u32 (numAt k 0 4))).setCell ⟨w4.heap.size, 1, none⟩ (.int .u32 (numAt k 4 4))).setCell ⟨w4.heap.size, 2, none⟩ (.int .u32 (numAt k 8 4))) = w12 at *
  have ge60 := E6.cell 0 rfl
  have ge61 := E6.cell 1 rfl
  have ge62 := E6.cell 2 rfl
  have ge63 := E6.cell 3 rfl
  have gv60 := V6.cell 0 rfl
  have gv61 := V6.cell 1 rfl
  have gv62 := V6.cell 2 rfl
  have gl60 := L6.cell 0 rfl
  have gl61 := L6.cell 1 rfl
  have gl62 := L6.cell 2 rfl
  have kd : Keeps w12 w12.drew := keeps_drew w12
  have s0 : numAt k 0 4 < 4294967296 := by have := numAt_lt k 0 4; omega
  have s1 : numAt k 4 4 < 4294967296 := by have := numAt_lt k 4 4; omega
  have s2 : numAt k 8 8 < 18446744073709551616 := by have := numAt_lt k 8 8; omega
  have s3 : numAt k 16 4 < 4294967296 := by have := numAt_lt k 16 4; omega
  have s4 : numAt k 8 4 < 4294967296 := by have := numAt_lt k 8 4; omega
  have s5 : numAt k 12 8 < 18446744073709551616 := by have := numAt_lt k 12 8; omega
  go_region_held3 (fun W => W.cell? ⟨w2.heap.size, 0, none⟩ = some (.int .u32 (numAt k 0 4)) ∧ W.cell? ⟨w2.heap.size, 1, none⟩ = some (.int .u32 (numAt k 4 4)) ∧ W.cell? ⟨w2.heap.size, 2, none⟩ = some (.int .u64 (numAt k 8 8)) ∧ W.cell? ⟨w2.heap.size, 3, none⟩ = some (.int .u32 (numAt k 16 4)) ∧ W.cell? ⟨w4.heap.size, 0, none⟩ = some (.int .u32 (numAt k 0 4)) ∧ W.cell? ⟨w4.heap.size, 1, none⟩ = some (.int .u32 (numAt k 4 4)) ∧ W.cell? ⟨w4.heap.size, 2, none⟩ = some (.int .u32 (numAt k 8 4)) ∧ W.cell? ⟨w6.heap.size, 0, none⟩ = some (.int .u32 (numAt k 4 4)) ∧ W.cell? ⟨w6.heap.size, 1, none⟩ = some (.int .u32 (numAt k 8 4)) ∧ W.cell? ⟨w6.heap.size, 2, none⟩ = some (.int .u64 (numAt k 12 8))) (go_keep) (first
    | (go_at_call 17; refine (eqBytes_same A15 12 c15 (k.take 12) A 12 c w15 B15 L12.out.symm (((hB0.keep k12).keep (keeps_trans kd (keeps_trans q13 (keeps_trans q14 q15)))).take 12) L12.out.symm).mono ?_; rintro e w' ⟨rfl, rfl⟩)
    | (go_at_call 17; refine (eqBytes_same A14 20 c14 (k.take 20) A 20 c w14 B14 L20.out.symm (((hB0.keep k12).keep (keeps_trans kd (keeps_trans q13 q14))).take 20) L20.out.symm).mono ?_; rintro e w' ⟨rfl, rfl⟩)
    | (go_at_call 17; refine (eqBytes_same A13 20 c13 (k.take 20) A 20 c w13 B13 L20.out.symm (((hB0.keep k12).keep (keeps_trans kd q13)).take 20) L20.out.symm).mono ?_; rintro e w' ⟨rfl, rfl⟩)
    | (go_at_call 20; refine (edge_any _ _ _ _ s0 s1 s2 s3 _).mono ?_; rintro e w13 ⟨v13, rfl, o13, q13⟩; obtain ⟨A13, c13, rfl, hc13, -, -, -⟩ := o13.form; have B13 : Bs w13 A13 (edgeB (numAt k 0 4) (numAt k 4 4) (numAt k 8 8) (numAt k 16 4)) := Own.at_ o13; rw [edgeB_back k H12.out] at B13; clear o13; rw [edgeB_length] at hc13 ⊢; have E7 := (E6.keep kd).keep q13; have V7 := (V6.keep kd).keep q13; have L7 := (L6.keep kd).keep q13; have ge70 := E7.cell 0 rfl; have ge71 := E7.cell 1 rfl; have ge72 := E7.cell 2 rfl; have ge73 := E7.cell 3 rfl; have gv70 := V7.cell 0 rfl; have gv71 := V7.cell 1 rfl; have gv72 := V7.cell 2 rfl; have gl70 := L7.cell 0 rfl; have gl71 := L7.cell 1 rfl; have gl72 := L7.cell 2 rfl)
    | (go_at_call 24; refine (label_any _ _ _ _ s0 s1 s4 s5 _).mono ?_; rintro e w14 ⟨v14, rfl, o14, q14⟩; obtain ⟨A14, c14, rfl, hc14, -, -, -⟩ := o14.form; have B14 : Bs w14 A14 (labelB (numAt k 0 4) (numAt k 4 4) (numAt k 8 4) (numAt k 12 8)) := Own.at_ o14; rw [labelB_back k H12.out] at B14; clear o14; rw [labelB_length] at hc14 ⊢; have E8 := E7.keep q14; have V8 := V7.keep q14; have L8 := L7.keep q14; have ge80 := E8.cell 0 rfl; have ge81 := E8.cell 1 rfl; have ge82 := E8.cell 2 rfl; have ge83 := E8.cell 3 rfl; have gv80 := V8.cell 0 rfl; have gv81 := V8.cell 1 rfl; have gv82 := V8.cell 2 rfl; have gl80 := L8.cell 0 rfl; have gl81 := L8.cell 1 rfl; have gl82 := L8.cell 2 rfl)
    | (go_at_call 22; refine (vert_any _ _ _ s0 s1 s4 _).mono ?_; rintro e w15 ⟨v15, rfl, o15, q15⟩; obtain ⟨A15, c15, rfl, hc15, -, -, -⟩ := o15.form; have B15 : Bs w15 A15 (vertB (numAt k 0 4) (numAt k 4 4) (numAt k 8 4)) := Own.at_ o15; rw [vertB_back k (by have := H12.out; omega)] at B15; clear o15; rw [vertB_length] at hc15 ⊢; have E9 := E8.keep q15; have V9 := V8.keep q15; have L9 := L8.keep q15; have ge90 := E9.cell 0 rfl; have ge91 := E9.cell 1 rfl; have ge92 := E9.cell 2 rfl; have ge93 := E9.cell 3 rfl; have gv90 := V9.cell 0 rfl; have gv91 := V9.cell 1 rfl; have gv92 := V9.cell 2 rfl; have gl90 := L9.cell 0 rfl; have gl91 := L9.cell 1 rfl; have gl92 := L9.cell 2 rfl))
  have kW := keeps_trans k12 (keeps_trans kd (keeps_trans q13 (keeps_trans q14 q15)))
  clear E6 V6 L6 E7 V7 L7 E8 V8 L8 E9 V9 L9 B13 B14 B15 q13 q14 q15 k12 kd s0 s1 s2 s3 s4 s5 ge60 ge61 ge62 ge63 gv60 gv61 gv62 gl60 gl61 gl62 ge70 ge71 ge72 ge73 gv70 gv71 gv72 gl70 gl71 gl72 ge80 ge81 ge82 ge83 gv80 gv81 gv82 gl80 gl81 gl82 ge90 ge91 ge92 ge93 gv90 gv91 gv92 gl90 gl91 gl92
  have hB := hB0
  clear hB0
  go_wp2_with fail
  have kZ : Keeps w15 (w15.alloc (.cells #[.int .i64 1, .int .i64 2, .int .i64 4, .int .i64 8] 3)) := keeps_alloc _ _
  have XZ : Box (w15.alloc (.cells #[.int .i64 1, .int .i64 2, .int .i64 4, .int .i64 8] 3)) (w15.heap.size) 3 #[.int .i64 1, .int .i64 2, .int .i64 4, .int .i64 8] := by have hbx := Box.new w15 3 #[.int .i64 1, .int .i64 2, .int .i64 4, .int .i64 8]; simpa using hbx
  have kk := keeps_trans kW kZ
  generalize (w15.alloc (.cells #[.int .i64 1, .int .i64 2, .int .i64 4, .int .i64 8] 3)) = W1 at *
  clear kZ kW
  have hS1 := hS.keep kk
  have hB1 := hB.keep kk
  clear hS hB
  go_loopw [15, 16, 17, 18, 19] (fun i _ _ _ _ wr => ∃ j : Nat, j ≤ 4 ∧ i = .int .i64 j ∧ Keeps W1 wr) (fun i _ _ _ _ _ => 4 - (intOf i).toNat)
  case atStart => exact ⟨0, by omega, rfl, keeps_refl _⟩
  case round =>
    obtain ⟨j, hj, rfl, hw⟩ := hrel
    rcases (by omega : j = 0 ∨ j = 1 ∨ j = 2 ∨ j = 3 ∨ j = 4) with rfl | rfl | rfl | rfl | rfl
    · have za := (XZ.keep hw).cell 0 rfl
      have hSr := hS1.keep hw
      have hBr := hB1.keep hw
      have hL : (k ++ nb 1 y).length = n + 1 := by rw [List.length_append, nb_length, HN.out]
      have HL := Lib.hid hL
      clear hL XZ hS1 hB1
      go_wp2_with fail
      refine (put_k A n c k y 1 1 rfl wr hSr hBr HN.out hy (by omega) rfl).mono ?_
      rintro e w20 ⟨v20, rfl, o20, q20⟩
      obtain ⟨A20, c20, rfl, hc20, hm20, -, -⟩ := o20.form
      have B20 : Bs w20 A20 (k ++ nb 1 y) := Own.at_ o20
      rw [HL.out] at hc20 ⊢
      clear o20
      have zb := ((Keeps.cellOf q20) za)
      have hcc : (n : Int) ≤ (c20 : Int) := by omega
      go_wp2_with fail
      have G := get_yes A20 (n + 1) c20 (k ++ nb 1 y) n 1 w20 (hSr.keep q20) B20 HL.out.symm hc20 (by omega) rfl (by omega)
      rw [show numAt (k ++ nb 1 y) n 1 = y % 256 ^ 1 from (by rw [HN.out]; exact numAt_put k 1 y)] at G
      rw [show y % 256 ^ 1 = y % 256 from by rfl] at G
      refine G.mono ?_
      rintro e w' ⟨rfl, rfl⟩
      clear G
      have B21 : Bs w20 A20 k := (by have := B20.take k.length; rwa [List.take_left] at this)
      have B22 := hBr.keep q20
      have hyy : ((y % 256 : Nat) : Int) = (y : Int) % 256 := (by omega)
      have HYY := Lib.hid hyy
      clear hyy za hSr hBr B20
      rw [HYY.out]
      go_wp2_with fail
      refine (eqBytes_same A20 n c20 k A n c w20 B21 HN.out B22 HN.out).mono ?_
      rintro e w' ⟨rfl, rfl⟩
      go_wp2_with fail
      go_roundw
      case rel => exact ⟨1, by omega, rfl, keeps_trans hw q20⟩
      case measure => simp [intOf]
    · have za := (XZ.keep hw).cell 1 rfl
      have hSr := hS1.keep hw
      have hBr := hB1.keep hw
      have hL : (k ++ nb 2 y).length = n + 2 := by rw [List.length_append, nb_length, HN.out]
      have HL := Lib.hid hL
      clear hL XZ hS1 hB1
      go_wp2_with fail
      refine (put_k A n c k y 2 2 rfl wr hSr hBr HN.out hy (by omega) rfl).mono ?_
      rintro e w20 ⟨v20, rfl, o20, q20⟩
      obtain ⟨A20, c20, rfl, hc20, hm20, -, -⟩ := o20.form
      have B20 : Bs w20 A20 (k ++ nb 2 y) := Own.at_ o20
      rw [HL.out] at hc20 ⊢
      clear o20
      have zb := ((Keeps.cellOf q20) za)
      have hcc : (n : Int) ≤ (c20 : Int) := by omega
      go_wp2_with fail
      have G := get_yes A20 (n + 2) c20 (k ++ nb 2 y) n 2 w20 (hSr.keep q20) B20 HL.out.symm hc20 (by omega) rfl (by omega)
      rw [show numAt (k ++ nb 2 y) n 2 = y % 256 ^ 2 from (by rw [HN.out]; exact numAt_put k 2 y)] at G
      rw [show y % 256 ^ 2 = y % 65536 from by rfl] at G
      refine G.mono ?_
      rintro e w' ⟨rfl, rfl⟩
      clear G
      have B21 : Bs w20 A20 k := (by have := B20.take k.length; rwa [List.take_left] at this)
      have B22 := hBr.keep q20
      have hyy : ((y % 65536 : Nat) : Int) = (y : Int) % 65536 := (by omega)
      have HYY := Lib.hid hyy
      clear hyy za hSr hBr B20
      rw [HYY.out]
      go_wp2_with fail
      refine (eqBytes_same A20 n c20 k A n c w20 B21 HN.out B22 HN.out).mono ?_
      rintro e w' ⟨rfl, rfl⟩
      go_wp2_with fail
      go_roundw
      case rel => exact ⟨2, by omega, rfl, keeps_trans hw q20⟩
      case measure => simp [intOf]
    · have za := (XZ.keep hw).cell 2 rfl
      have hSr := hS1.keep hw
      have hBr := hB1.keep hw
      have hL : (k ++ nb 4 y).length = n + 4 := by rw [List.length_append, nb_length, HN.out]
      have HL := Lib.hid hL
      clear hL XZ hS1 hB1
      go_wp2_with fail
      refine (put_k A n c k y 4 4 rfl wr hSr hBr HN.out hy (by omega) rfl).mono ?_
      rintro e w20 ⟨v20, rfl, o20, q20⟩
      obtain ⟨A20, c20, rfl, hc20, hm20, -, -⟩ := o20.form
      have B20 : Bs w20 A20 (k ++ nb 4 y) := Own.at_ o20
      rw [HL.out] at hc20 ⊢
      clear o20
      have zb := ((Keeps.cellOf q20) za)
      have hcc : (n : Int) ≤ (c20 : Int) := by omega
      go_wp2_with fail
      have G := get_yes A20 (n + 4) c20 (k ++ nb 4 y) n 4 w20 (hSr.keep q20) B20 HL.out.symm hc20 (by omega) rfl (by omega)
      rw [show numAt (k ++ nb 4 y) n 4 = y % 256 ^ 4 from (by rw [HN.out]; exact numAt_put k 4 y)] at G
      rw [show y % 256 ^ 4 = y % 4294967296 from by rfl] at G
      refine G.mono ?_
      rintro e w' ⟨rfl, rfl⟩
      clear G
      have B21 : Bs w20 A20 k := (by have := B20.take k.length; rwa [List.take_left] at this)
      have B22 := hBr.keep q20
      have hyy : ((y % 4294967296 : Nat) : Int) = (y : Int) % 4294967296 := (by omega)
      have HYY := Lib.hid hyy
      clear hyy za hSr hBr B20
      rw [HYY.out]
      go_wp2_with fail
      refine (eqBytes_same A20 n c20 k A n c w20 B21 HN.out B22 HN.out).mono ?_
      rintro e w' ⟨rfl, rfl⟩
      go_wp2_with fail
      go_roundw
      case rel => exact ⟨3, by omega, rfl, keeps_trans hw q20⟩
      case measure => simp [intOf]
    · have za := (XZ.keep hw).cell 3 rfl
      have hSr := hS1.keep hw
      have hBr := hB1.keep hw
      have hL : (k ++ nb 8 y).length = n + 8 := by rw [List.length_append, nb_length, HN.out]
      have HL := Lib.hid hL
      clear hL XZ hS1 hB1
      go_wp2_with fail
      refine (put_k A n c k y 8 8 rfl wr hSr hBr HN.out hy (by omega) rfl).mono ?_
      rintro e w20 ⟨v20, rfl, o20, q20⟩
      obtain ⟨A20, c20, rfl, hc20, hm20, -, -⟩ := o20.form
      have B20 : Bs w20 A20 (k ++ nb 8 y) := Own.at_ o20
      rw [HL.out] at hc20 ⊢
      clear o20
      have zb := ((Keeps.cellOf q20) za)
      have hcc : (n : Int) ≤ (c20 : Int) := by omega
      go_wp2_with fail
      have G := get_yes A20 (n + 8) c20 (k ++ nb 8 y) n 8 w20 (hSr.keep q20) B20 HL.out.symm hc20 (by omega) rfl (by omega)
      rw [show numAt (k ++ nb 8 y) n 8 = y % 256 ^ 8 from (by rw [HN.out]; exact numAt_put k 8 y)] at G
      rw [show y % 256 ^ 8 = y from Nat.mod_eq_of_lt (by omega)] at G
      refine G.mono ?_
      rintro e w' ⟨rfl, rfl⟩
      clear G
      have B21 : Bs w20 A20 k := (by have := B20.take k.length; rwa [List.take_left] at this)
      have B22 := hBr.keep q20
      have hyy : ((y % 18446744073709551616 : Nat) : Int) = (y : Int) % 18446744073709551616 := (by omega)
      have HYY := Lib.hid hyy
      clear hyy za hSr hBr B20
      
      go_wp2_with fail
      refine (eqBytes_same A20 n c20 k A n c w20 B21 HN.out B22 HN.out).mono ?_
      rintro e w' ⟨rfl, rfl⟩
      go_wp2_with fail
      go_roundw
      case rel => exact ⟨4, by omega, rfl, keeps_trans hw q20⟩
      case measure => simp [intOf]
    · go_wp2_with fail
      refine (works_any wr (hS1.keep hw)).mono ?_
      rintro e w20 ⟨rfl, q20⟩
      go_wp2_with fail
      go_ret
      exact ⟨rfl, keeps_trans kk (keeps_trans hw q20)⟩

end Go.Proofs.YtbbkkbfpojndmaaDoor
