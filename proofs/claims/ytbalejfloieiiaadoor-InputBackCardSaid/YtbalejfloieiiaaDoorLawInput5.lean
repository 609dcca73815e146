/- The walk of InputBack. -/
import Derived.Test.YtbalejfloieiiaaDoorLawInput2
namespace Go.Proofs.YtbalejfloieiiaaDoor
open Go.RowKit
set_option linter.unusedSimpArgs false
set_option linter.unusedVariables false
set_option maxRecDepth 100000

theorem WriteV.yes {w w' : World} {N : Nat} {l : List Ed} {e : Ending} (h : WriteV w N l e w') (hw : WOk N l) : ∃ A c, e = .returned (.tuple #[.slice A (writeB N l).length c, .int .i64 0]) ∧ (writeB N l).length ≤ c ∧ c ≤ maxLen ∧ Own w' w.heap.size 5 1 (.slice A (writeB N l).length c) (writeB N l).length (cel (writeB N l)) ∧ Keeps w w' := by
  rcases h with ⟨_, v, rfl, o, k⟩ | ⟨h, _⟩
  · obtain ⟨A, c, rfl, hc, hm, -⟩ := o.form
    exact ⟨A, c, rfl, hc, hm, o, k⟩
  · exact absurd hw h
theorem CheckV.form {w w' : World} {r : CRes} {e : Ending} (h : CheckV w r e w') : ∃ A c, e = .returned (.tuple #[.int .u32 (r.n : Int), .slice A r.l.length c, .int .i64 (r.e : Int), .int .i64 (r.a : Int)]) ∧ r.l.length ≤ c ∧ c ≤ maxLen ∧ Own w' w.heap.size 31 4 (.slice A r.l.length c) r.l.length (edsC r.l) ∧ Keeps w w' := by
  obtain ⟨v, rfl, o, k⟩ := h
  obtain ⟨A, c, rfl, hc, hm, -⟩ := o.form
  exact ⟨A, c, rfl, hc, hm, o, k⟩

set_option maxHeartbeats 4000000 in
theorem back_wrong (K : InputOk) (A : Option Addr) (n c : Nat) (l : List UInt8) (cut : Int) (w : World) (hZ : K.Z w) (hB : Bs w A l) (hn : n = l.length) (hc : n ≤ c) (hm : n ≤ 8192) (he : (checkS l).e ≠ 0) :
    Calls Tryd.prog 7 #[.slice A n c, .int .i64 cut] w (Yes w) := by
  have HN := Lib.hid hn
  have HZ := Lib.hid hZ
  have HB := Lib.hid hB
  obtain ⟨hw1, hw2⟩ := check_wrong he
  obtain ⟨hz1, hz2⟩ := check_none he
  have C1 := Lib.hid (K.check A n c l w hZ hB hn hc (by omega))
  obtain ⟨R, hR⟩ : ∃ R, checkS l = R := ⟨_, rfl⟩
  rw [hR] at C1 he hw1 hw2 hz1 hz2
  obtain ⟨r1, r2, r3, r4⟩ := R
  simp only at he hw1 hw2 hz1 hz2
  subst hz1; subst hz2
  obtain ⟨T, hT⟩ : ∃ T, checkS (l.take r4) = T := ⟨_, rfl⟩
  rw [hT] at hw2
  have C2 := Lib.hid (fun V (k : Keeps w V) => K.check A r4 c (l.take r4) V (K.keep hZ k) ((hB.keep k).take r4) (by rw [List.length_take]; omega) (by omega) (by omega))
  rw [hT] at C2
  obtain ⟨t1, t2, t3, t4⟩ := T
  simp only at hw2
  have e0 : ((r3 : Int) == 0) = false := by rw [beq_eq_false_iff_ne]; omega
  have a1 : (r4 : Int) ≤ (n : Int) := by omega
  have a2 : (r4 : Int) ≤ (c : Int) := by omega
  have W := Lib.hid (fun V (k : Keeps w V) => works_input K V (K.keep hZ k))
  have H2 := Lib.hid hw2
  have HM := Lib.hid hm
  have hs : ¬ (8192 : Int) < n := by omega
  clear hn hZ hB hR hT hw2 he hw1 hm
  go_enter Tryd.func7, Tryd.ntmps7
  go_wp2_with fail
  refine C1.out.mono ?_
  rintro e w1 hv
  obtain ⟨A1, c1, rfl, hc1, hm1, o1, k1⟩ := hv.form
  clear hv o1
  have C3 := Lib.hid (C2.out w1 k1)
  have K1 := Lib.hid k1
  clear k1
  go_wp2_with fail
  refine C3.out.mono ?_
  rintro e w2 hv
  obtain ⟨A2, c2, rfl, hc2, hm2, o2, k2⟩ := hv.form
  clear hv o2
  have WW := Lib.hid (W.out w2 (keeps_trans K1.out k2))
  have K2 := Lib.hid k2
  clear k2
  rcases H2.out with ⟨h1, h2⟩ | h1
  · subst h1; subst h2
    go_wp2_with fail
    refine WW.out.mono ?_
    rintro e w3 ⟨rfl, k3⟩
    go_wp2_with fail
    go_ret
    exact ⟨rfl, keeps_trans K1.out (keeps_trans K2.out k3)⟩
  · subst h1
    by_cases ht : t4 = r4
    · subst ht
      go_wp2_with fail
      refine WW.out.mono ?_
      rintro e w3 ⟨rfl, k3⟩
      go_wp2_with fail
      go_ret
      exact ⟨rfl, keeps_trans K1.out (keeps_trans K2.out k3)⟩
    · have e1 : ((t4 : Int) == (r4 : Int)) = false := by rw [beq_eq_false_iff_ne]; omega
      go_wp2_with fail
      refine WW.out.mono ?_
      rintro e w3 ⟨rfl, k3⟩
      go_wp2_with fail
      go_ret
      exact ⟨rfl, keeps_trans K1.out (keeps_trans K2.out k3)⟩

set_option maxHeartbeats 4000000 in
theorem back_right (K : InputOk) (A : Option Addr) (n c : Nat) (l : List UInt8) (cut : Int) (w : World) (hZ : K.Z w) (hB : Bs w A l) (hn : n = l.length) (hc : n ≤ c) (hm : n ≤ 8192) (he : (checkS l).e = 0) :
    Calls Tryd.prog 7 #[.slice A n c, .int .i64 cut] w (Yes w) := by
  obtain ⟨ha, hw, hb, hed⟩ := check_inv he
  have hcutS := fun (k : Nat) (h : k < l.length) => check_cut he h
  have C1 := Lib.hid (K.check A n c l w hZ hB hn hc (by omega))
  obtain ⟨R, hR⟩ : ∃ R, checkS l = R := ⟨_, rfl⟩
  rw [hR] at C1 he ha hw hb hed
  obtain ⟨r1, r2, r3, r4⟩ := R
  simp only at he ha hw hb hed
  subst he; subst ha
  have hlen2 : (writeB r1 r2).length = n := by rw [← hb, hn]
  have hr2 : r2.length ≤ 1000 := by rw [writeB_length] at hlen2; omega
  have hr1 : r1 < 4294967296 := by have := hw.1.1; omega
  have HW := Lib.hid hw
  have HE := Lib.hid (fun e he => (hed e he).1)
  have HL2 := Lib.hid hlen2
  have HBE := Lib.hid hb
  have HR1 := Lib.hid (And.intro hr1 hr2)
  have HN := Lib.hid hn
  have HZ := Lib.hid hZ
  have HB := Lib.hid hB
  have HM := Lib.hid hm
  have HC := Lib.hid hcutS
  have hs : ¬ (8192 : Int) < n := by omega
  clear hn hZ hB hR hw hb hed hlen2 hm hr1 hr2 hcutS
  go_enter Tryd.func7, Tryd.ntmps7
  go_wp2_with fail
  refine C1.out.mono ?_
  rintro e w1 hv
  obtain ⟨A1, c1, rfl, hc1, hm1, o1, k1⟩ := hv.form
  have C2 := Lib.hid (K.write r1 A1 r2.length c1 r2 w1 (K.keep HZ.out k1) HR1.out.1 o1.at_ HE.out rfl hc1 (by have := HR1.out.2; omega))
  have K1 := Lib.hid k1
  clear hv o1 k1
  go_wp2_with fail
  refine C2.out.mono ?_
  rintro e w2 hv
  obtain ⟨A2, c2, rfl, hc2, hm2, o2, k2⟩ := hv.yes HW.out
  have Q := Lib.hid (eqBytes_any A2 (writeB r1 r2).length c2 (writeB r1 r2) A n c l w2 o2.at_ rfl (HB.out.keep (keeps_trans K1.out k2)) HN.out)
  rw [decide_eq_true (show writeB r1 r2 = l from HBE.out.symm)] at Q
  rw [HL2.out] at Q ⊢
  have K2 := Lib.hid (keeps_trans K1.out k2)
  clear hv o2 k2 hc2
  go_wp2_with fail
  refine Q.out.mono ?_
  rintro e w3 ⟨rfl, rfl⟩
  by_cases h0 : cut < 0
  · have WW := Lib.hid (works_input K w2 (K.keep HZ.out K2.out))
    go_wp2_with fail
    refine WW.out.mono ?_
    rintro e w4 ⟨rfl, k4⟩
    go_wp2_with fail
    go_ret
    exact ⟨rfl, keeps_trans K2.out k4⟩
  · by_cases h1 : (n : Int) ≤ cut
    · have WW := Lib.hid (works_input K w2 (K.keep HZ.out K2.out))
      go_wp2_with fail
      refine WW.out.mono ?_
      rintro e w4 ⟨rfl, k4⟩
      go_wp2_with fail
      go_ret
      exact ⟨rfl, keeps_trans K2.out k4⟩
    · obtain ⟨q, rfl⟩ : ∃ q : Nat, cut = (q : Int) := ⟨cut.toNat, by omega⟩
      have hq : q < n := by omega
      have hqi : decide ((n : Int) ≤ (q : Int)) = false := decide_eq_false (by omega)
      have hqn : decide (n ≤ q) = false := decide_eq_false (by omega)
      have hqc : (q : Int) ≤ (c : Int) := by omega
      have C3 := Lib.hid (K.check A q c (l.take q) w2 (K.keep HZ.out K2.out) ((HB.out.keep K2.out).take q) (by rw [List.length_take, ← HN.out]; omega) (by omega) (by have := HM.out; omega))
      rw [HC.out q (by rw [← HN.out]; exact hq)] at C3
      clear h0 h1 hq
      go_wp2_with fail
      refine C3.out.mono ?_
      rintro e w4 hv
      obtain ⟨A4, c4, rfl, hc4, hm4, o4, k4⟩ := hv.form
      have WW := Lib.hid (works_input K w4 (K.keep HZ.out (keeps_trans K2.out k4)))
      have K4 := Lib.hid k4
      clear hv o4 k4
      go_wp2_with fail
      refine WW.out.mono ?_
      rintro e w5 ⟨rfl, k5⟩
      go_wp2_with fail
      go_ret
      exact ⟨rfl, keeps_trans K2.out (keeps_trans K4.out k5)⟩

theorem back_walkI (K : InputOk) (A : Option Addr) (n c : Nat) (l : List UInt8) (cut : Int) (w : World) (hZ : K.Z w) (hB : Bs w A l) (hn : n = l.length) (hc : n ≤ c) (hlen : n ≤ maxLen) :
    Calls Tryd.prog 7 #[.slice A n c, .int .i64 cut] w (Yes w) := by
  unfold maxLen at hlen
  by_cases h : (8192 : Int) < n
  · have W := Lib.hid (works_input K w hZ)
    clear hn hB
    go_enter Tryd.func7, Tryd.ntmps7
    go_wp2_with (go_at_call 14; refine W.out.mono ?_; rintro e w1 ⟨rfl, k1⟩)
    go_ret
    exact ⟨rfl, k1⟩
  · by_cases he : (checkS l).e = 0
    · exact back_right K A n c l cut w hZ hB hn hc (by omega) he
    · exact back_wrong K A n c l cut w hZ hB hn hc (by omega) he
end Go.Proofs.YtbalejfloieiiaaDoor
