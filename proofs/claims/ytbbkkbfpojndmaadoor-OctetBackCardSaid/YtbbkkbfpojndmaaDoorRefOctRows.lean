/- The contracts of package milepostref01: the document's answers for rows of numbers. -/
import Derived.Test.YtbbkkbfpojndmaaDoorRefOct
namespace Go.Proofs.YtbbkkbfpojndmaaDoor
open Go.RowKit
set_option linter.unusedSimpArgs false
set_option linter.unusedVariables false

theorem refPut_k (A : Option Addr) (n c : Nat) (l : List UInt8) (x k : Nat) (s : Int) (hks : s = (k : Int)) (w : World) (hB : Bs w A l) (hnl : n = l.length) (hx : x < 18446744073709551616) (hn : n ≤ 140737488354000) (hk : isSz (k : Int) = true) :
    Calls Tryd.prog 18 #[.slice A n c, .int .u64 x, .int .i64 s] w (New w (l ++ nb k x)) := by
  subst hks
  have h := refPut_any A n c l x k w hB hnl hx hn
  rw [if_pos hk, Int.toNat_natCast] at h
  exact h

set_option maxHeartbeats 800000 in
theorem refEdge_any (t h x m : Nat) (ht : t < 4294967296) (hh : h < 4294967296) (hx : x < 18446744073709551616) (hm : m < 4294967296) (w : World) :
    Calls Tryd.prog 21 #[.agg #[.int .u32 t, .int .u32 h, .int .u64 x, .int .u32 m]] w (New w (edgeB t h x m)) := by
  have C : ∀ j : Nat, (w.alloc (.cells #[.int .u32 t, .int .u32 h, .int .u64 x, .int .u32 m] 37)).cell? ⟨w.heap.size, j, none⟩ = (#[.int .u32 t, .int .u32 h, .int .u64 x, .int .u32 m] : Array Value)[j]? := fun j => cell_of_row _ _ j _ _ _ (heap_alloc_new w _)
  have HC := Lib.hid C
  have k0 := keeps_alloc w (.cells #[.int .u32 t, .int .u32 h, .int .u64 x, .int .u32 m] 37)
  have K0 := keeps_refl (w.alloc (.cells #[.int .u32 t, .int .u32 h, .int .u64 x, .int .u32 m] 37))
  have B0 : Bs (w.alloc (.cells #[.int .u32 t, .int .u32 h, .int .u64 x, .int .u32 m] 37)) none [] := Bs.nil _ _
  clear C
  have gt : t < 18446744073709551616 := by omega
  have gh : h < 18446744073709551616 := by omega
  have gm : m < 18446744073709551616 := by omega
  go_enter Tryd.func21, Tryd.ntmps21
  go_wp2_with fail
  refine (refPut_k _ _ _ _ t 4 4 rfl _ B0 (by simp [nb_length]) gt (by simp [nb_length]) rfl).mono ?_
  rintro e w1 ⟨v1, rfl, o1, q1⟩
  have K1 := keeps_trans K0 q1
  obtain ⟨A1, c1, rfl, -, -, -, -⟩ := o1.form
  have B1 : Bs w1 A1 _ := Own.at_ o1
  try simp only [List.length_append, nb_length, List.length_nil, Nat.zero_add, Nat.reduceAdd]
  clear o1 q1 B0 K0
  have d1 := K1.cellOf (HC.out 1)
  try simp only [List.getElem?_toArray, List.getElem?_cons_zero, List.getElem?_cons_succ] at d1
  go_wp2_with fail
  refine (refPut_k _ _ _ _ h 4 4 rfl _ B1 (by simp [nb_length]) gh (by simp [nb_length]) rfl).mono ?_
  rintro e w2 ⟨v2, rfl, o2, q2⟩
  have K2 := keeps_trans K1 q2
  obtain ⟨A2, c2, rfl, -, -, -, -⟩ := o2.form
  have B2 : Bs w2 A2 _ := Own.at_ o2
  try simp only [List.length_append, nb_length, List.length_nil, Nat.zero_add, Nat.reduceAdd]
  clear o2 q2 B1 K1
  have d2 := K2.cellOf (HC.out 2)
  try simp only [List.getElem?_toArray, List.getElem?_cons_zero, List.getElem?_cons_succ] at d2
  go_wp2_with fail
  refine (refPut_k _ _ _ _ x 8 8 rfl _ B2 (by simp [nb_length]) hx (by simp [nb_length]) rfl).mono ?_
  rintro e w3 ⟨v3, rfl, o3, q3⟩
  have K3 := keeps_trans K2 q3
  obtain ⟨A3, c3, rfl, -, -, -, -⟩ := o3.form
  have B3 : Bs w3 A3 _ := Own.at_ o3
  try simp only [List.length_append, nb_length, List.length_nil, Nat.zero_add, Nat.reduceAdd]
  clear o3 q3 B2 K2
  have d3 := K3.cellOf (HC.out 3)
  try simp only [List.getElem?_toArray, List.getElem?_cons_zero, List.getElem?_cons_succ] at d3
  go_wp2_with fail
  refine (refPut_k _ _ _ _ m 4 4 rfl _ B3 (by simp [nb_length]) gm (by simp [nb_length]) rfl).mono ?_
  rintro e w4 ⟨v4, rfl, o4, q4⟩
  have K4 := keeps_trans K3 q4
  go_wp2_with fail
  go_ret
  refine ⟨_, rfl, ?_, keeps_trans k0 K4⟩
  have o := o4.base_le (base' := w.heap.size) (Nat.le_trans k0.size K3.size)
  simpa [edgeB] using o

set_option maxHeartbeats 800000 in
theorem refVert_any (r l g : Nat) (hr : r < 4294967296) (hl : l < 4294967296) (hg : g < 4294967296) (w : World) :
    Calls Tryd.prog 23 #[.agg #[.int .u32 r, .int .u32 l, .int .u32 g]] w (New w (vertB r l g)) := by
  have C : ∀ j : Nat, (w.alloc (.cells #[.int .u32 r, .int .u32 l, .int .u32 g] 39)).cell? ⟨w.heap.size, j, none⟩ = (#[.int .u32 r, .int .u32 l, .int .u32 g] : Array Value)[j]? := fun j => cell_of_row _ _ j _ _ _ (heap_alloc_new w _)
  have HC := Lib.hid C
  have k0 := keeps_alloc w (.cells #[.int .u32 r, .int .u32 l, .int .u32 g] 39)
  have K0 := keeps_refl (w.alloc (.cells #[.int .u32 r, .int .u32 l, .int .u32 g] 39))
  have B0 : Bs (w.alloc (.cells #[.int .u32 r, .int .u32 l, .int .u32 g] 39)) none [] := Bs.nil _ _
  clear C
  have gr : r < 18446744073709551616 := by omega
  have gl : l < 18446744073709551616 := by omega
  have gg : g < 18446744073709551616 := by omega
  go_enter Tryd.func23, Tryd.ntmps23
  go_wp2_with fail
  refine (refPut_k _ _ _ _ r 4 4 rfl _ B0 (by simp [nb_length]) gr (by simp [nb_length]) rfl).mono ?_
  rintro e w1 ⟨v1, rfl, o1, q1⟩
  have K1 := keeps_trans K0 q1
  obtain ⟨A1, c1, rfl, -, -, -, -⟩ := o1.form
  have B1 : Bs w1 A1 _ := Own.at_ o1
  try simp only [List.length_append, nb_length, List.length_nil, Nat.zero_add, Nat.reduceAdd]
  clear o1 q1 B0 K0
  have d1 := K1.cellOf (HC.out 1)
  try simp only [List.getElem?_toArray, List.getElem?_cons_zero, List.getElem?_cons_succ] at d1
  go_wp2_with fail
  refine (refPut_k _ _ _ _ l 4 4 rfl _ B1 (by simp [nb_length]) gl (by simp [nb_length]) rfl).mono ?_
  rintro e w2 ⟨v2, rfl, o2, q2⟩
  have K2 := keeps_trans K1 q2
  obtain ⟨A2, c2, rfl, -, -, -, -⟩ := o2.form
  have B2 : Bs w2 A2 _ := Own.at_ o2
  try simp only [List.length_append, nb_length, List.length_nil, Nat.zero_add, Nat.reduceAdd]
  clear o2 q2 B1 K1
  have d2 := K2.cellOf (HC.out 2)
  try simp only [List.getElem?_toArray, List.getElem?_cons_zero, List.getElem?_cons_succ] at d2
  go_wp2_with fail
  refine (refPut_k _ _ _ _ g 4 4 rfl _ B2 (by simp [nb_length]) gg (by simp [nb_length]) rfl).mono ?_
  rintro e w3 ⟨v3, rfl, o3, q3⟩
  have K3 := keeps_trans K2 q3
  go_wp2_with fail
  go_ret
  refine ⟨_, rfl, ?_, keeps_trans k0 K3⟩
  have o := o3.base_le (base' := w.heap.size) (Nat.le_trans k0.size K2.size)
  simpa [vertB] using o

set_option maxHeartbeats 800000 in
theorem refLabel_any (v h n d : Nat) (hv : v < 4294967296) (hh : h < 4294967296) (hn : n < 4294967296) (hd : d < 18446744073709551616) (w : World) :
    Calls Tryd.prog 25 #[.int .u32 v, .agg #[.int .u32 h, .int .u32 n, .int .u64 d]] w (New w (labelB v h n d)) := by
  have C : ∀ j : Nat, (w.alloc (.cells #[.int .u32 h, .int .u32 n, .int .u64 d] 41)).cell? ⟨w.heap.size, j, none⟩ = (#[.int .u32 h, .int .u32 n, .int .u64 d] : Array Value)[j]? := fun j => cell_of_row _ _ j _ _ _ (heap_alloc_new w _)
  have HC := Lib.hid C
  have k0 := keeps_alloc w (.cells #[.int .u32 h, .int .u32 n, .int .u64 d] 41)
  have K0 := keeps_refl (w.alloc (.cells #[.int .u32 h, .int .u32 n, .int .u64 d] 41))
  have B0 : Bs (w.alloc (.cells #[.int .u32 h, .int .u32 n, .int .u64 d] 41)) none [] := Bs.nil _ _
  clear C
  have gv : v < 18446744073709551616 := by omega
  have gh : h < 18446744073709551616 := by omega
  have gn : n < 18446744073709551616 := by omega
  go_enter Tryd.func25, Tryd.ntmps25
  go_wp2_with fail
  refine (refPut_k _ _ _ _ v 4 4 rfl _ B0 (by simp [nb_length]) gv (by simp [nb_length]) rfl).mono ?_
  rintro e w1 ⟨v1, rfl, o1, q1⟩
  have K1 := keeps_trans K0 q1
  obtain ⟨A1, c1, rfl, -, -, -, -⟩ := o1.form
  have B1 : Bs w1 A1 _ := Own.at_ o1
  try simp only [List.length_append, nb_length, List.length_nil, Nat.zero_add, Nat.reduceAdd]
  clear o1 q1 B0 K0
  have d1 := K1.cellOf (HC.out 0)
  try simp only [List.getElem?_toArray, List.getElem?_cons_zero, List.getElem?_cons_succ] at d1
  go_wp2_with fail
  refine (refPut_k _ _ _ _ h 4 4 rfl _ B1 (by simp [nb_length]) gh (by simp [nb_length]) rfl).mono ?_
  rintro e w2 ⟨v2, rfl, o2, q2⟩
  have K2 := keeps_trans K1 q2
  obtain ⟨A2, c2, rfl, -, -, -, -⟩ := o2.form
  have B2 : Bs w2 A2 _ := Own.at_ o2
  try simp only [List.length_append, nb_length, List.length_nil, Nat.zero_add, Nat.reduceAdd]
  clear o2 q2 B1 K1
  have d2 := K2.cellOf (HC.out 1)
  try simp only [List.getElem?_toArray, List.getElem?_cons_zero, List.getElem?_cons_succ] at d2
  go_wp2_with fail
  refine (refPut_k _ _ _ _ n 4 4 rfl _ B2 (by simp [nb_length]) gn (by simp [nb_length]) rfl).mono ?_
  rintro e w3 ⟨v3, rfl, o3, q3⟩
  have K3 := keeps_trans K2 q3
  obtain ⟨A3, c3, rfl, -, -, -, -⟩ := o3.form
  have B3 : Bs w3 A3 _ := Own.at_ o3
  try simp only [List.length_append, nb_length, List.length_nil, Nat.zero_add, Nat.reduceAdd]
  clear o3 q3 B2 K2
  have d3 := K3.cellOf (HC.out 2)
  try simp only [List.getElem?_toArray, List.getElem?_cons_zero, List.getElem?_cons_succ] at d3
  go_wp2_with fail
  refine (refPut_k _ _ _ _ d 8 8 rfl _ B3 (by simp [nb_length]) hd (by simp [nb_length]) rfl).mono ?_
  rintro e w4 ⟨v4, rfl, o4, q4⟩
  have K4 := keeps_trans K3 q4
  go_wp2_with fail
  go_ret
  refine ⟨_, rfl, ?_, keeps_trans k0 K4⟩
  have o := o4.base_le (base' := w.heap.size) (Nat.le_trans k0.size K3.size)
  simpa [labelB] using o

set_option maxHeartbeats 400000 in
theorem refReadEdge_no (A : Option Addr) (n c : Nat) (w : World) (hn : n ≠ 20) :
    Calls Tryd.prog 27 #[.slice A n c] w (Read2 w (.tuple #[.agg #[.int .u32 0, .int .u32 0, .int .u64 0, .int .u32 0], .int .i64 8])) := by
  have hne : ((n : Int) != 20) = true := by simp; omega
  go_enter Tryd.func27, Tryd.ntmps27
  go_wp2
  go_returns
  exact ⟨rfl, keeps_alloc _ _⟩

set_option maxHeartbeats 800000 in
theorem refReadEdge_yes (A : Option Addr) (c : Nat) (l : List UInt8) (w : World) (hB : Bs w A l) (hl : l.length = 20) :
    Calls Tryd.prog 27 #[.slice A 20 c] w (Read2 w (.tuple #[.agg #[.int .u32 (numAt l 0 4), .int .u32 (numAt l 4 4), .int .u64 (numAt l 8 8), .int .u32 (numAt l 16 4)], .int .i64 0])) := by
  have hW : Bs (w.alloc (.cells #[.int .u32 0, .int .u32 0, .int .u64 0, .int .u32 0] 37)) A l := hB.keep (keeps_alloc _ _)
  have y0 : numAt l 0 4 ≤ 4294967295 := by have := numAt_lt l 0 4; omega
  have N0 := Lib.hid (number_any A 20 c l 0 4 _ hW hl.symm (by omega) rfl (by omega))
  have y4 : numAt l 4 4 ≤ 4294967295 := by have := numAt_lt l 4 4; omega
  have N4 := Lib.hid (number_any A 20 c l 4 4 _ hW hl.symm (by omega) rfl (by omega))
  have N8 := Lib.hid (number_any A 20 c l 8 8 _ hW hl.symm (by omega) rfl (by omega))
  have y16 : numAt l 16 4 ≤ 4294967295 := by have := numAt_lt l 16 4; omega
  have N16 := Lib.hid (number_any A 20 c l 16 4 _ hW hl.symm (by omega) rfl (by omega))
  clear hB hW hl
  generalize numAt l 0 4 = z0 at *
  generalize numAt l 4 4 = z4 at *
  generalize numAt l 8 8 = z8 at *
  generalize numAt l 16 4 = z16 at *
  go_enter Tryd.func27, Tryd.ntmps27
  go_wp2_with fail
  refine N0.out.mono ?_
  rintro e w' ⟨rfl, rfl⟩
  go_wp2_with fail
  refine N4.out.mono ?_
  rintro e w' ⟨rfl, rfl⟩
  go_wp2_with fail
  refine N8.out.mono ?_
  rintro e w' ⟨rfl, rfl⟩
  go_wp2_with fail
  refine N16.out.mono ?_
  rintro e w' ⟨rfl, rfl⟩
  go_wp2_with fail
  go_returns
  exact ⟨rfl, keeps_alloc _ _⟩

set_option maxHeartbeats 400000 in
theorem refReadVert_no (A : Option Addr) (n c : Nat) (w : World) (hn : n ≠ 12) :
    Calls Tryd.prog 29 #[.slice A n c] w (Read2 w (.tuple #[.agg #[.int .u32 0, .int .u32 0, .int .u32 0], .int .i64 8])) := by
  have hne : ((n : Int) != 12) = true := by simp; omega
  go_enter Tryd.func29, Tryd.ntmps29
  go_wp2
  go_returns
  exact ⟨rfl, keeps_alloc _ _⟩

set_option maxHeartbeats 800000 in
theorem refReadVert_yes (A : Option Addr) (c : Nat) (l : List UInt8) (w : World) (hB : Bs w A l) (hl : l.length = 12) :
    Calls Tryd.prog 29 #[.slice A 12 c] w (Read2 w (.tuple #[.agg #[.int .u32 (numAt l 0 4), .int .u32 (numAt l 4 4), .int .u32 (numAt l 8 4)], .int .i64 0])) := by
  have hW : Bs (w.alloc (.cells #[.int .u32 0, .int .u32 0, .int .u32 0] 39)) A l := hB.keep (keeps_alloc _ _)
  have y0 : numAt l 0 4 ≤ 4294967295 := by have := numAt_lt l 0 4; omega
  have N0 := Lib.hid (number_any A 12 c l 0 4 _ hW hl.symm (by omega) rfl (by omega))
  have y4 : numAt l 4 4 ≤ 4294967295 := by have := numAt_lt l 4 4; omega
  have N4 := Lib.hid (number_any A 12 c l 4 4 _ hW hl.symm (by omega) rfl (by omega))
  have y8 : numAt l 8 4 ≤ 4294967295 := by have := numAt_lt l 8 4; omega
  have N8 := Lib.hid (number_any A 12 c l 8 4 _ hW hl.symm (by omega) rfl (by omega))
  clear hB hW hl
  generalize numAt l 0 4 = z0 at *
  generalize numAt l 4 4 = z4 at *
  generalize numAt l 8 4 = z8 at *
  go_enter Tryd.func29, Tryd.ntmps29
  go_wp2_with fail
  refine N0.out.mono ?_
  rintro e w' ⟨rfl, rfl⟩
  go_wp2_with fail
  refine N4.out.mono ?_
  rintro e w' ⟨rfl, rfl⟩
  go_wp2_with fail
  refine N8.out.mono ?_
  rintro e w' ⟨rfl, rfl⟩
  go_wp2_with fail
  go_returns
  exact ⟨rfl, keeps_alloc _ _⟩

set_option maxHeartbeats 400000 in
theorem refReadLabel_no (A : Option Addr) (n c : Nat) (w : World) (hn : n ≠ 20) :
    Calls Tryd.prog 31 #[.slice A n c] w (Read2 w (.tuple #[.int .u32 0, .agg #[.int .u32 0, .int .u32 0, .int .u64 0], .int .i64 8])) := by
  have hne : ((n : Int) != 20) = true := by simp; omega
  go_enter Tryd.func31, Tryd.ntmps31
  go_wp2
  go_returns
  exact ⟨rfl, keeps_alloc _ _⟩

set_option maxHeartbeats 800000 in
theorem refReadLabel_yes (A : Option Addr) (c : Nat) (l : List UInt8) (w : World) (hB : Bs w A l) (hl : l.length = 20) :
    Calls Tryd.prog 31 #[.slice A 20 c] w (Read2 w (.tuple #[.int .u32 (numAt l 0 4), .agg #[.int .u32 (numAt l 4 4), .int .u32 (numAt l 8 4), .int .u64 (numAt l 12 8)], .int .i64 0])) := by
  have hW : Bs (w.alloc (.cells #[.int .u32 0, .int .u32 0, .int .u64 0] 41)) A l := hB.keep (keeps_alloc _ _)
  have y0 : numAt l 0 4 ≤ 4294967295 := by have := numAt_lt l 0 4; omega
  have N0 := Lib.hid (number_any A 20 c l 0 4 _ hW hl.symm (by omega) rfl (by omega))
  have y4 : numAt l 4 4 ≤ 4294967295 := by have := numAt_lt l 4 4; omega
  have N4 := Lib.hid (number_any A 20 c l 4 4 _ hW hl.symm (by omega) rfl (by omega))
  have y8 : numAt l 8 4 ≤ 4294967295 := by have := numAt_lt l 8 4; omega
  have N8 := Lib.hid (number_any A 20 c l 8 4 _ hW hl.symm (by omega) rfl (by omega))
  have N12 := Lib.hid (number_any A 20 c l 12 8 _ hW hl.symm (by omega) rfl (by omega))
  clear hB hW hl
  generalize numAt l 0 4 = z0 at *
  generalize numAt l 4 4 = z4 at *
  generalize numAt l 8 4 = z8 at *
  generalize numAt l 12 8 = z12 at *
  go_enter Tryd.func31, Tryd.ntmps31
  go_wp2_with fail
  refine N0.out.mono ?_
  rintro e w' ⟨rfl, rfl⟩
  go_wp2_with fail
  refine N4.out.mono ?_
  rintro e w' ⟨rfl, rfl⟩
  go_wp2_with fail
  refine N8.out.mono ?_
  rintro e w' ⟨rfl, rfl⟩
  go_wp2_with fail
  refine N12.out.mono ?_
  rintro e w' ⟨rfl, rfl⟩
  go_wp2_with fail
  go_returns
  exact ⟨rfl, keeps_alloc _ _⟩

end Go.Proofs.YtbbkkbfpojndmaaDoor
