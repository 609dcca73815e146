/- The walk of InputMore. -/
import Derived.Test.YtbalejfloieiiaaDoorLawInput5
namespace Go.Proofs.YtbalejfloieiiaaDoor
open Go.RowKit
set_option linter.unusedSimpArgs false
set_option linter.unusedVariables false
set_option maxRecDepth 100000

theorem infoI_u8 : (Tryd.prog.info? 5).map (fun i => (i.zero, i.size, i.bytes)) = some (some (.int .u8 0), 1, 1) := by kernel_rfl

set_option maxHeartbeats 4000000 in
theorem more_yes (K : InputOk) (N : Nat) (hN : N < 4294967296) (A : Option Addr) (n c : Nat) (l : List Ed) (A' : Option Addr) (n' c' : Nat) (m : List UInt8) (w : World) (hZ : K.Z w) (hB : At w w.heap.size A (edsC l)) (hok : ∀ e ∈ l, EdOk e) (hn : n = l.length) (hc : n ≤ c)
    (hB' : Bs w A' m) (hn' : n' = m.length) (hc' : n' ≤ c') (h1 : n ≤ 1024) (h2 : n' ≤ 4096) (hw : WOk N l) :
    Calls Tryd.prog 9 #[.int .u32 (N : Int), .slice A n c, .slice A' n' c'] w (Yes w) := by
  obtain ⟨i0, hi, hz0, hz1, hz2⟩ := info_parts infoI_u8
  have hlen2 : (writeB N l).length = 12 + 16 * n := by rw [writeB_length, hn]
  have C1 := Lib.hid (K.write N A n c l w hZ hN hB hok hn hc (by omega))
  have CM : Hid (checkS (writeB N l ++ m) = if n' = 0 then ⟨N, l.map nomid, 0, 0⟩ else ⟨0, [], 8, 12 + 16 * n⟩) := Lib.hid (by
    by_cases h0 : n' = 0
    · rw [if_pos h0]
      obtain rfl : m = [] := List.eq_nil_of_length_eq_zero (by omega)
      rw [List.append_nil]
      exact check_write hok hw
    · rw [if_neg h0, ← hlen2]
      exact check_more hok hw m (fun e => h0 (by rw [hn', e]; rfl)))
  have HW := Lib.hid hw
  have HL2 := Lib.hid hlen2
  have HN' := Lib.hid hn'
  have HZ := Lib.hid hZ
  have HB' := Lib.hid hB'
  have H1 := Lib.hid h1
  have H2 := Lib.hid h2
  have hs1 : (n : Int) ≤ 1024 := by omega
  have hs2 : (n' : Int) ≤ 4096 := by omega
  clear hZ hB hok hn hc hB' hn' hw hlen2 h1 h2
  go_enter Tryd.func9, Tryd.ntmps9
  go_wp2_with fail
  refine C1.out.mono ?_
  rintro e w1 hv
  obtain ⟨A1, c1, rfl, hc1, hm1, o1, k1⟩ := hv.yes HW.out
  rw [HL2.out] at o1 hc1 ⊢
  have O1 := Lib.hid o1
  have K1 := Lib.hid k1
  have hB1 := HB'.out.keep k1
  clear hv o1
  go_wp2_with (at_builtin; refine wpList_app _ rfl _ _ 22 rfl w.heap.size 5 i0 (.int .u8 0) 1 1 Tryd.underlying22 hi hz0 hz1 hz2 rfl (by decide) _ _ _ rfl O1.out w1.heap.size A' n' c' (cel m) rfl (by rw [cel_length, HN'.out, Nat.mul_one]) hB1 (cel_one m) (by unfold maxLen; omega) (by omega) K1.out.size ?_; intro v2 w2 o2 g2 b2; obtain ⟨A2, c2, rfl, hc2, hm2, -, -⟩ := o2.form; have k2 : Keeps w w2 := Below.trans K1.out (keeps_grown g2 _ K1.out.size (fun k hk => (O1.out.lt k hk).1)))
  have C2 := Lib.hid (K.check A2 (12 + 16 * n + n') c2 (writeB N l ++ m) w2 (K.keep HZ.out k2) (by have := o2.at_; unfold Bs; rw [cel_append]; exact this) (by rw [List.length_append, HL2.out, HN'.out]) hc2 (by omega))
  rw [CM.out] at C2
  have K2 := Lib.hid k2
  clear o2 g2 b2 k2 k1 hB1
  by_cases h0 : n' = 0
  · subst h0
    rw [if_pos rfl] at C2
    refine C2.out.mono ?_
    rintro e w3 hv
    obtain ⟨A3, c3, rfl, hc3, hm3, o3, k3⟩ := hv.form
    have WW := Lib.hid (works_input K w3 (K.keep HZ.out (keeps_trans K2.out k3)))
    have K3 := Lib.hid k3
    clear hv o3 k3
    go_wp2_with fail
    refine WW.out.mono ?_
    rintro e w4 ⟨rfl, k4⟩
    go_wp2_with fail
    go_ret
    exact ⟨rfl, keeps_trans K2.out (keeps_trans K3.out k4)⟩
  · rw [if_neg h0] at C2
    have hb0 : ((n' : Int) == 0) = false := by rw [beq_eq_false_iff_ne]; omega
    refine C2.out.mono ?_
    rintro e w3 hv
    obtain ⟨A3, c3, rfl, hc3, hm3, o3, k3⟩ := hv.form
    have WW := Lib.hid (works_input K w3 (K.keep HZ.out (keeps_trans K2.out k3)))
    have K3 := Lib.hid k3
    clear hv o3 k3
    go_wp2_with fail
    refine WW.out.mono ?_
    rintro e w4 ⟨rfl, k4⟩
    go_wp2_with fail
    go_ret
    exact ⟨rfl, keeps_trans K2.out (keeps_trans K3.out k4)⟩

theorem WriteV.no {w w' : World} {N : Nat} {l : List Ed} {e : Ending} (h : WriteV w N l e w') (hw : ¬ WOk N l) : e = .returned (.tuple #[.slice none 0 0, .int .i64 1]) ∧ Keeps w w' := by
  rcases h with ⟨h, _⟩ | ⟨_, h⟩
  · exact absurd h hw
  · exact h

set_option maxHeartbeats 4000000 in
theorem more_walk (K : InputOk) (N : Nat) (hN : N < 4294967296) (A : Option Addr) (n c : Nat) (l : List Ed) (A' : Option Addr) (n' c' : Nat) (m : List UInt8) (w : World) (hZ : K.Z w) (hB : At w w.heap.size A (edsC l)) (hok : ∀ e ∈ l, EdOk e) (hn : n = l.length) (hc : n ≤ c)
    (hB' : Bs w A' m) (hn' : n' = m.length) (hc' : n' ≤ c') (hlen : n ≤ maxLen) (hlen' : n' ≤ maxLen) :
    Calls Tryd.prog 9 #[.int .u32 (N : Int), .slice A n c, .slice A' n' c'] w (Yes w) := by
  unfold maxLen at hlen hlen'
  have W := Lib.hid (works_input K w hZ)
  by_cases h : (1024 : Int) < n
  · clear hn hB hn' hB'
    go_enter Tryd.func9, Tryd.ntmps9
    go_wp2_with (go_at_call 14; refine W.out.mono ?_; rintro e w1 ⟨rfl, k1⟩)
    go_ret
    exact ⟨rfl, k1⟩
  · by_cases h' : (4096 : Int) < n'
    · clear hn hB hn' hB'
      go_enter Tryd.func9, Tryd.ntmps9
      go_wp2_with (go_at_call 14; refine W.out.mono ?_; rintro e w1 ⟨rfl, k1⟩)
      go_ret
      exact ⟨rfl, k1⟩
    · by_cases hw : WOk N l
      · exact more_yes K N hN A n c l A' n' c' m w hZ hB hok hn hc hB' hn' hc' (by omega) (by omega) hw
      · have C1 := Lib.hid (K.write N A n c l w hZ hN hB hok hn hc (by omega))
        have HW := Lib.hid hw
        have HZ := Lib.hid hZ
        clear hn hB hn' hB' hw hZ hlen hlen'
        go_enter Tryd.func9, Tryd.ntmps9
        go_wp2_with fail
        refine C1.out.mono ?_
        rintro e w1 hv
        obtain ⟨rfl, k1⟩ := hv.no HW.out
        have WW := Lib.hid (works_input K w1 (K.keep HZ.out k1))
        clear hv
        go_wp2_with fail
        refine WW.out.mono ?_
        rintro e w4 ⟨rfl, k4⟩
        go_wp2_with fail
        go_ret
        exact ⟨rfl, keeps_trans k1 k4⟩
end Go.Proofs.YtbalejfloieiiaaDoor
