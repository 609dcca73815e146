/- page.Make and page.Open: package page is what the chapter asks (pageOk). -/
import Derived.Test.YtllmmmggepgblaaDoorPage
import Derived.Test.YtllmmmggepgblaaDoorLawPage3
import Derived.Test.YtllmmmggepgblaaDoorCrc
namespace Go.Proofs.YtllmmmggepgblaaDoor
open Go.RowKit
set_option linter.unusedSimpArgs false
set_option linter.unusedVariables false
set_option maxRecDepth 100000

theorem splice_head (t n s : Nat) : spliceL (cel (noughts 252)) 0 ((cel (headB t n s)).take (min 12 252)) = cel (headB t n s ++ noughts 240) := by
  have e : min 12 252 = 12 := rfl
  rw [e, List.take_of_length_le (by rw [cel_length, headB_length]; omega)]
  unfold spliceL
  rw [List.take_zero, List.nil_append, cel_length, headB_length, cel_append]
  congr 1
theorem splice_body (t n : Nat) (b : List UInt8) (h : b.length ≤ 240) : spliceL (cel (headB t n b.length ++ noughts 240)) 12 ((cel b).take (min b.length 240)) = cel (bodyB t n b) := by
  rw [Nat.min_eq_left h, List.take_of_length_le (by rw [cel_length]; omega)]
  unfold spliceL bodyB
  rw [cel_append, cel_append, cel_append, cel_length]
  have hl : (cel (headB t n b.length)).length = 12 := by rw [cel_length, headB_length]
  rw [List.take_left' hl, ← List.append_assoc]
  congr 1
  rw [List.drop_append, hl]
  have e1 : (cel (headB t n b.length)).drop (12 + b.length) = [] := List.drop_of_length_le (by omega)
  rw [e1, List.nil_append]
  unfold noughts
  rw [show 12 + b.length - 12 = b.length by omega, ← cel_drop, List.drop_replicate]

set_option maxHeartbeats 2000000 in
theorem make_any (K : CrcOk) (t n : Nat) (ht : t < 4294967296) (hn : n < 4294967296) (A : Option Addr) (m c : Nat) (b : List UInt8) (w : World) (hS : Sizes w) (hB : Bs w A b) (hm : m = b.length) (hc : m ≤ c) (hb : b.length ≤ 240) :
    Calls Tryd.prog 12 #[.int .u32 t, .int .u32 n, .slice A m c] w (Gave w (pageB t n b)) := by
  obtain ⟨i0, hi, hz0, hz1, hz2⟩ := info_parts info_u8
  subst hm
  have HB := Lib.hid hB
  have hmz : ((b.length : Nat) : Int) ≤ 240 := by omega
  have hbody := bodyB_length (b := b) t n hb
  have hpl := pageB_length (b := b) t n hb
  have hsum := extC_lt (s := 0) (by decide) (bodyB t n b)
  have SB := Lib.hid (splice_body t n b hb)
  clear hB
  go_enter Tryd.func12, Tryd.ntmps12
  go_wp2_with (first
    | (at_make; refine wpList_make_full _ rfl _ _ 23 rfl w.heap.size 5 i0 (.int .u8 0) 1 Tryd.underlying23 hi hz0 hz1 .i64 .i64 252 252 252 rfl rfl rfl rfl (by rw [hz2]; omega) (by unfold maxLen; omega) (Nat.le_refl _) ?_; intro w1 hown1 hg1; have k1 : Keeps w w1 := keeps_grown hg1 _ (Nat.le_refl _) (by simp); rw [made_noughts] at hown1; have o1 := Own.of_row hown1; clear hown1 hg1))
  refine (toBytes_any t n b.length ht hn hb w1 (hS.keep k1)).mono ?_
  rintro e w2 ⟨v2, rfl, o2, k2⟩
  rw [headB_length] at o2
  obtain ⟨A2, c2, rfl, hc2, -, -, -⟩ := o2.form
  have o1' := Lib.hid (o1.keep k2)
  have B2 := Lib.hid (Own.at_ o2)
  have q2 := keeps_trans k1 k2
  clear o1 o2
  go_wp2_with (first
    | (refine wpList_copyO _ rfl _ _ 23 rfl w.heap.size 5 i0 Tryd.underlying23 hi hz1 (some ⟨w.heap.size, 0, none⟩) 252 252 (cel (noughts 252)) o1'.out 0 252 252 rfl (by omega) A2 12 c2 (cel (headB t n b.length)) rfl (by rw [cel_length, headB_length]) B2.out (cel_one _) ?_; intro w3 o3 g3; rw [splice_head] at o3; have k3 : Keeps w w3 := Below.grown q2 g3 q2.size (fun g hg => (o1'.out.lt g hg).1); have O3 := Lib.hid o3; clear o3 g3)
    | (refine wpList_copyO _ rfl _ _ 23 rfl w.heap.size 5 i0 Tryd.underlying23 hi hz1 (some ⟨w.heap.size, 0, none⟩) 252 252 (cel (headB t n b.length ++ noughts 240)) O3.out 12 240 240 rfl (by omega) A b.length c (cel b) rfl (by rw [cel_length]) (HB.out.keep k3) (cel_one _) ?_; intro w4 o4 g4; rw [SB.out] at o4; have k4 : Keeps w w4 := Below.grown k3 g4 k3.size (fun g hg => (O3.out.lt g hg).1); have O4 := Lib.hid o4; clear o4 g4))
  refine (K.sum (some ⟨w.heap.size, 0, none⟩) 252 252 (bodyB t n b) w4 (Own.at_ O4.out) hbody.symm (by omega) (by omega)).mono ?_
  rintro e w5 ⟨rfl, k5⟩
  have q5 := keeps_trans k4 k5
  have PS := Lib.hid (put4 (some ⟨w.heap.size, 0, none⟩) 252 252 (bodyB t n b) (extC 0 (bodyB t n b)) w5 (hS.keep q5) (Own.at_ (O4.out.keep k5)) hbody.symm (by omega) (by decide))
  have hpg : bodyB t n b ++ nb 4 (extC 0 (bodyB t n b)) = pageB t n b := rfl
  rw [hpg] at PS
  clear hpg SB
  generalize extC 0 (bodyB t n b) = x at *
  go_wp2_with fail
  refine PS.out.mono ?_
  rintro e w6 ⟨v6, rfl, o6, k6⟩
  go_wp2_with fail
  go_ret2
  exact ⟨v6, rfl, o6.base_le q5.size, keeps_trans q5 k6⟩
end Go.Proofs.YtllmmmggepgblaaDoor
