/- The walk of InputRows. -/
import Derived.Test.YtbalejfloieiiaaDoorLawInput6
namespace Go.Proofs.YtbalejfloieiiaaDoor
open Go.RowKit
set_option linter.unusedSimpArgs false
set_option linter.unusedVariables false
set_option maxRecDepth 100000

theorem row_of_ok {N : Nat} {e : Ed} (he : EdOk e) (hr : rowOk N e) : rowS (rowB e) N = ⟨nomid e, 0, 0⟩ := by
  rw [rowS_rowB N e he.t he.h he.x, if_pos (edErr_ok.1 hr)]

set_option maxHeartbeats 8000000 in
theorem rows_yes (K : InputOk) (N : Nat) (hN : N < 4294967296) (A : Option Addr) (n c : Nat) (l : List Ed) (w : World) (hZ : K.Z w) (hB : At w w.heap.size A (edsC l)) (hok : ∀ e ∈ l, EdOk e) (hn : n = l.length) (hc : n ≤ c) (h1 : n ≤ 1024) (hw : WOk N l) :
    Calls Tryd.prog 11 #[.int .u32 (N : Int), .slice A n c] w (Yes w) := by
  have hlen2 : (writeB N l).length = 12 + 16 * n := by rw [writeB_length, hn]
  have C1 := Lib.hid (K.write N A n c l w hZ hN hB hok hn hc (by omega))
  have hhd : headS (writeB N l) = ⟨N, n, 0, 0⟩ := by
    rw [hn]
    exact headS_ok hw.1 _
  have HD := Lib.hid hhd
  have RW := Lib.hid (fun (k : Nat) (e : Ed) (hk : l[k]? = some e) => (show rowS (((writeB N l).drop (12 + 16 * k)).take 16) N = ⟨nomid e, 0, 0⟩ from by
    rw [row_at hk]
    exact row_of_ok (hok e (List.mem_of_getElem? hk)) (hw.2 e (List.mem_of_getElem? hk))))
  have HW := Lib.hid hw
  have HL2 := Lib.hid hlen2
  have HN := Lib.hid hn
  have HZ := Lib.hid hZ
  have HB := Lib.hid hB
  have HM := Lib.hid h1
  have hs1 : (n : Int) ≤ 1024 := by omega
  clear hZ hB hok hn hc hw hlen2 h1 hhd
  go_enter Tryd.func11, Tryd.ntmps11
  go_wp2_with fail
  refine C1.out.mono ?_
  rintro e w1 hv
  obtain ⟨A1, c1, rfl, hc1, hm1, o1, k1⟩ := hv.yes HW.out
  rw [HL2.out] at o1 hc1 ⊢
  have hB1 : Bs w1 A1 (writeB N l) := o1.at_
  have C2 := Lib.hid (K.head A1 (12 + 16 * n) c1 (writeB N l) w1 (K.keep HZ.out k1) hB1 HL2.out.symm hc1 (by omega))
  rw [HD.out] at C2
  unfold headV at C2
  have HB1 := Lib.hid hB1
  have K1 := Lib.hid k1
  have HC1 := Lib.hid hc1
  clear hv o1 k1 hB1 hc1
  go_wp2_with fail
  refine C2.out.mono ?_
  rintro e w2 ⟨rfl, k2⟩
  have HB2 := Lib.hid (HB1.out.keep k2)
  have K2 := Lib.hid (keeps_trans K1.out k2)
  clear k2
  go_wp2_with fail
  clear hs1
  go_loopw [11] (fun i wr => ∃ (j : Nat), j ≤ n ∧ i = .int .i64 j ∧ Keeps w2 wr) (fun i _ => n - (intOf i).toNat)
  case atStart => exact ⟨0, Nat.zero_le _, rfl, keeps_refl _⟩
  case round =>
    obtain ⟨j, hj, rfl, hk⟩ := hrel
    by_cases hlt : j < n
    · obtain ⟨x, hx⟩ : ∃ x, l[j]? = some x := ⟨_, List.getElem?_eq_getElem (by have := HN.out; omega)⟩
      obtain ⟨ad, rfl, hadb, hE⟩ := eds_at HB.out hx
      have KW := Lib.hid (keeps_trans K2.out hk)
      have j1 : (j : Int) < (n : Int) := by omega
      have j0 : (0 : Int) ≤ (j : Int) := by omega
      have j2 : (j : Int) < 1024 := by have := HM.out; omega
      have hsl0 := run_lohi (P := Tryd.prog) 22 5 Tryd.underlying22 sizeU8' A1 (12 + 16 * n) c1 (12 + 16 * j) (28 + 16 * j) (by omega) (by have := HC1.out; omega)
      have hsl : ∀ W : World, (Instr.sliceAt 22 (.slice A1 (12 + 16 * n) c1) (some (.int .i64 (12 + 16 * (j : Int)))) (some (.int .i64 (28 + 16 * (j : Int)))) none).run Tryd.prog W = .ok (.slice (dropA A1 c1 (12 + 16 * j)) 16 (c1 - (12 + 16 * j))) W := fun W => by
        have := hsl0 W
        rw [show 28 + 16 * j - (12 + 16 * j) = 16 by omega] at this
        rw [show (12 + 16 * (j : Int)) = ((12 + 16 * j : Nat) : Int) by omega, show (28 + 16 * (j : Int)) = ((28 + 16 * j : Nat) : Int) by omega]
        exact this
      have C3 := Lib.hid (K.row (dropA A1 c1 (12 + 16 * j)) 16 (c1 - (12 + 16 * j)) (((writeB N l).drop (12 + 16 * j)).take 16) N wr (K.keep HZ.out KW.out) hN (((HB2.out.keep hk).dropA HL2.out.symm HC1.out).take 16) (by rw [List.length_take, List.length_drop, HL2.out]; omega) (by have := HC1.out; omega) (by decide))
      rw [RW.out j x hx] at C3
      unfold rowV nomid at C3
      have HE := Lib.hid hE
      have HJ := Lib.hid hlt
      have HK := Lib.hid hk
      clear hx hadb hE hlt hk hj hsl0
      go_wp2_with fail
      refine C3.out.mono ?_
      rintro e w3 ⟨rfl, k3⟩
      obtain ⟨e0, e1, e2, e3⟩ := HE.out.keep (keeps_trans KW.out (keeps_trans k3 (keeps_alloc w3 (.cells #[.int .u32 (x.t : Int), .int .u32 (x.h : Int), .int .u64 (x.x : Int), .int .u32 4294967295] 31))))
      obtain ⟨y0, y1, y2, y3⟩ := (EdBox.new w3 31 ⟨x.t, x.h, x.x, 4294967295⟩).cells
      go_wp2_with fail
      go_quiet (fail)
      go_wp2_with fail
      go_roundw
      case rel => exact ⟨j + 1, by have := HJ.out; omega, by go_num, keeps_trans HK.out (keeps_trans k3 (keeps_trans (keeps_alloc _ _) (keeps_drewN _ _)))⟩
      case measure => have := HJ.out; simp [intOf]; omega
    · obtain rfl : j = n := by omega
      have WW := Lib.hid (works_input K wr (K.keep HZ.out (keeps_trans K2.out hk)))
      have HK := Lib.hid hk
      clear hk hj hlt
      go_wp2_with fail
      refine WW.out.mono ?_
      rintro e w4 ⟨rfl, k4⟩
      go_wp2_with fail
      go_ret
      exact ⟨rfl, keeps_trans K2.out (keeps_trans HK.out k4)⟩

set_option maxHeartbeats 4000000 in
theorem rowsI_walk (K : InputOk) (N : Nat) (hN : N < 4294967296) (A : Option Addr) (n c : Nat) (l : List Ed) (w : World) (hZ : K.Z w) (hB : At w w.heap.size A (edsC l)) (hok : ∀ e ∈ l, EdOk e) (hn : n = l.length) (hc : n ≤ c) (hlen : n ≤ maxLen) :
    Calls Tryd.prog 11 #[.int .u32 (N : Int), .slice A n c] w (Yes w) := by
  unfold maxLen at hlen
  by_cases h : (1024 : Int) < n
  · have W := Lib.hid (works_input K w hZ)
    clear hn hB hlen
    go_enter Tryd.func11, Tryd.ntmps11
    go_wp2_with (go_at_call 14; refine W.out.mono ?_; rintro e w1 ⟨rfl, k1⟩)
    go_ret
    exact ⟨rfl, k1⟩
  · by_cases hw : WOk N l
    · exact rows_yes K N hN A n c l w hZ hB hok hn hc (by omega) hw
    · have C1 := Lib.hid (K.write N A n c l w hZ hN hB hok hn hc (by omega))
      have HW := Lib.hid hw
      have HZ := Lib.hid hZ
      clear hn hB hw hZ hlen
      go_enter Tryd.func11, Tryd.ntmps11
      go_wp2_with fail
      refine C1.out.mono ?_
      rintro e w1 hv
      obtain ⟨rfl, k1⟩ := hv.no HW.out
      have WW := Lib.hid (works_input K w1 (K.keep HZ.out k1))
      clear hv
      go_wp2_with fail
      refine WW.out.mono ?_
      rintro e w4 ⟨rfl, k4⟩
      go_wp2_with fail
      go_ret
      exact ⟨rfl, keeps_trans k1 k4⟩
end Go.Proofs.YtbalejfloieiiaaDoor
