/- The contracts of package milepostref01: the document's answers for rows of numbers. -/
import Derived.Test.YtbalejfloieiiaaDoorRefOct
namespace Go.Proofs.YtbalejfloieiiaaDoor
open Go.RowKit
set_option linter.unusedSimpArgs false
set_option linter.unusedVariables false
set_option maxRecDepth 100000

theorem refPut_k (A : Option Addr) (n c : Nat) (l : List UInt8) (x k : Nat) (s : Int) (hks : s = (k : Int)) (w : World) (hB : Bs w A l) (hnl : n = l.length) (hx : x < 18446744073709551616) (hn : n ≤ 140737488354000) (hk : isSz (k : Int) = true) :
    Calls Tryd.prog 42 #[.slice A n c, .int .u64 x, .int .i64 s] w (New w (l ++ nb k x)) := by
  subst hks
  have h := refPut_any A n c l x k w hB hnl hx hn
  rw [if_pos hk, Int.toNat_natCast] at h
  exact h

set_option maxHeartbeats 800000 in
theorem refEdge_any (t h x m : Nat) (ht : t < 4294967296) (hh : h < 4294967296) (hx : x < 18446744073709551616) (hm : m < 4294967296) (w : World) :
    Calls Tryd.prog 43 #[.agg #[.int .u32 t, .int .u32 h, .int .u64 x, .int .u32 m]] w (New w (edgeB t h x m)) := by
  have C : ∀ j : Nat, (w.alloc (.cells #[.int .u32 t, .int .u32 h, .int .u64 x, .int .u32 m] 31)).cell? ⟨w.heap.size, j, none⟩ = (#[.int .u32 t, .int .u32 h, .int .u64 x, .int .u32 m] : Array Value)[j]? := fun j => cell_of_row _ _ j _ _ _ (heap_alloc_new w _)
  have HC := Lib.hid C
  have k0 := keeps_alloc w (.cells #[.int .u32 t, .int .u32 h, .int .u64 x, .int .u32 m] 31)
  have K0 := keeps_refl (w.alloc (.cells #[.int .u32 t, .int .u32 h, .int .u64 x, .int .u32 m] 31))
  have B0 : Bs (w.alloc (.cells #[.int .u32 t, .int .u32 h, .int .u64 x, .int .u32 m] 31)) none [] := Bs.nil _ _
  clear C
  have gt : t < 18446744073709551616 := by omega
  have gh : h < 18446744073709551616 := by omega
  have gm : m < 18446744073709551616 := by omega
  go_enter Tryd.func43, Tryd.ntmps43
  go_wp2_with fail
  refine (refPut_k _ _ _ _ t 4 4 rfl _ B0 (by simp [nb_length]) gt (by simp [nb_length]) rfl).mono ?_
  rintro e w1 ⟨v1, rfl, o1, q1⟩
  have K1 := keeps_trans K0 q1
  obtain ⟨A1, c1, rfl, -, -, -, -⟩ := o1.form
  have B1 : Bs w1 A1 _ := Own.at_ o1
  try simp only [List.length_append, nb_length, List.length_nil, Nat.zero_add, Nat.reduceAdd]
  clear o1 q1 B0 K0
  have d1 := K1.cellOf (HC.out 1)
  try simp only [List.getElem?_toArray, List.getElem?_cons_zero, List.getElem?_cons_succ] at d1
  go_wp2_with fail
  refine (refPut_k _ _ _ _ h 4 4 rfl _ B1 (by simp [nb_length]) gh (by simp [nb_length]) rfl).mono ?_
  rintro e w2 ⟨v2, rfl, o2, q2⟩
  have K2 := keeps_trans K1 q2
  obtain ⟨A2, c2, rfl, -, -, -, -⟩ := o2.form
  have B2 : Bs w2 A2 _ := Own.at_ o2
  try simp only [List.length_append, nb_length, List.length_nil, Nat.zero_add, Nat.reduceAdd]
  clear o2 q2 B1 K1
  have d2 := K2.cellOf (HC.out 2)
  try simp only [List.getElem?_toArray, List.getElem?_cons_zero, List.getElem?_cons_succ] at d2
  go_wp2_with fail
  refine (refPut_k _ _ _ _ x 8 8 rfl _ B2 (by simp [nb_length]) hx (by simp [nb_length]) rfl).mono ?_
  rintro e w3 ⟨v3, rfl, o3, q3⟩
  have K3 := keeps_trans K2 q3
  obtain ⟨A3, c3, rfl, -, -, -, -⟩ := o3.form
  have B3 : Bs w3 A3 _ := Own.at_ o3
  try simp only [List.length_append, nb_length, List.length_nil, Nat.zero_add, Nat.reduceAdd]
  clear o3 q3 B2 K2
  have d3 := K3.cellOf (HC.out 3)
  try simp only [List.getElem?_toArray, List.getElem?_cons_zero, List.getElem?_cons_succ] at d3
  go_wp2_with fail
  refine (refPut_k _ _ _ _ m 4 4 rfl _ B3 (by simp [nb_length]) gm (by simp [nb_length]) rfl).mono ?_
  rintro e w4 ⟨v4, rfl, o4, q4⟩
  have K4 := keeps_trans K3 q4
  go_wp2_with fail
  go_ret
  refine ⟨_, rfl, ?_, keeps_trans k0 K4⟩
  have o := o4.base_le (base' := w.heap.size) (Nat.le_trans k0.size K3.size)
  simpa [edgeB] using o

end Go.Proofs.YtbalejfloieiiaaDoor
