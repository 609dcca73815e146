/- The walk of InputMarks. -/
import Derived.Test.YtbalejfloieiiaaDoorLawInput6
namespace Go.Proofs.YtbalejfloieiiaaDoor
open Go.RowKit
set_option linter.unusedSimpArgs false
set_option linter.unusedVariables false
set_option maxRecDepth 100000

theorem cel_set (l : List UInt8) (k : Nat) (v : UInt8) : (cel l).set k (.int .u8 (v.toNat : Int)) = cel (l.set k v) := by simp [cel, List.map_set]
theorem u8_of (v : Nat) (h : v < 256) : (UInt8.ofNat v).toNat = v := by simp; omega

set_option maxHeartbeats 4000000 in
theorem marks_yes (K : InputOk) (N : Nat) (hN : N < 4294967296) (A : Option Addr) (n c : Nat) (l : List Ed) (p v : Nat) (hp : p < 256) (hv : v < 256) (w : World) (hZ : K.Z w) (hB : At w w.heap.size A (edsC l)) (hok : ∀ e ∈ l, EdOk e) (hn : n = l.length) (hc : n ≤ c)
    (h1 : n ≤ 1024) (hw : WOk N l) :
    Calls Tryd.prog 13 #[.agg #[.int .u32 (N : Int), .slice A n c, .int .u8 (p : Int), .int .u8 (v : Int)]] w (Yes w) := by
  have hlen2 : (writeB N l).length = 12 + 16 * n := by rw [writeB_length, hn]
  have k0 := keeps_alloc w (.cells #[.int .u32 (N : Int), .slice A n c, .int .u8 (p : Int), .int .u8 (v : Int)] 56)
  have C1 := Lib.hid (K.write N A n c l _ (K.keep hZ k0) hN ((hB.keep k0).more k0.size) hok hn hc (by omega))
  obtain ⟨q, hq⟩ : ∃ q, q = p % 4 := ⟨_, rfl⟩
  have hq4 : q < 4 := by omega
  have hs1 : (n : Int) ≤ 1024 := by omega
  have hq1 : (0 : Int) ≤ (q : Int) := by omega
  have hq2 : (q : Int) < 12 + 16 * (n : Int) := by omega
  have hmod : ((p : Int)).tmod 4 = (q : Int) := by rw [hq]; exact (Int.ofNat_tmod p 4).symm
  have hqw : wrap64 (q : Int) = (q : Int) := by unfold wrap64; omega
  have WAS := Lib.hid (mark_was (n := N) (l := l) q hq4)
  have CMK := Lib.hid (fun (u : UInt8) (hu : u ≠ magicL.getD q 0) => check_mark (n := N) (l := l) q hq4 u hu)
  have CWR := Lib.hid (check_write hok hw)
  obtain ⟨z, hz⟩ : ∃ z, magicL.getD q 0 = z := ⟨_, rfl⟩
  rw [hz] at WAS CMK
  have HW := Lib.hid hw
  have HL2 := Lib.hid hlen2
  have HZ := Lib.hid hZ
  have HQ := Lib.hid hq4
  have HV := Lib.hid hv
  have K0 := Lib.hid k0
  clear hZ hB hok hn hc hw hlen2 h1 hq hq4 k0 hv hz
  go_enter Tryd.func13, Tryd.ntmps13
  go_wp2_with fail
  generalize w.alloc (.cells #[.int .u32 (N : Int), .slice A n c, .int .u8 (p : Int), .int .u8 (v : Int)] 56) = W0 at *
  refine C1.out.mono ?_
  rintro e w1 hv
  obtain ⟨A1, c1, rfl, hc1, hm1, o1, k1⟩ := hv.yes HW.out
  rw [HL2.out] at o1 hc1 ⊢
  have K1 := Lib.hid k1
  obtain ⟨g, rfl, x0, z0, hb0⟩ := o1.cell (j := q) (by rw [cel_length, HL2.out]; have := HQ.out; omega)
  have lg := (o1.lt g rfl).2
  have o2 := o1.store (j := q) (by rw [cel_length, HL2.out]; have := HQ.out; omega) (.int .u8 (v : Int))
  obtain ⟨u, hu⟩ : ∃ u : UInt8, u.toNat = v := ⟨UInt8.ofNat v, u8_of v HV.out⟩
  rw [← hu, cel_set] at o2
  rw [cel_get _ (by rw [HL2.out]; have := HQ.out; omega), WAS.out] at x0
  have kb : Keeps W0 (w1.setCell ⟨g, q, none⟩ (.int .u8 (v : Int))) := by
    refine ⟨k1.os, k1.tape, k1.output, by simpa using k1.size, fun i hi => ?_⟩
    have hne : i ≠ g := by omega
    rw [Below.heap_setCell _ ⟨g, q, none⟩ _ i hne]
    exact k1.block i hi
  rw [← hu] at kb
  have C2 := Lib.hid (K.check (some ⟨g, 0, none⟩) (12 + 16 * n) c1 ((writeB N l).set q u) _ (K.keep HZ.out (keeps_trans K0.out kb)) o2.at_ (by rw [List.length_set, HL2.out]) hc1 (by omega))
  have KB := Lib.hid kb
  have HU := Lib.hid hu
  subst hu
  clear hv o1 k1 o2 kb
  by_cases h0 : u = z
  · subst h0
    rw [show (writeB N l).set q u = writeB N l from by rw [← WAS.out]; exact set_was _ _ (by rw [HL2.out]; have := HQ.out; omega), CWR.out] at C2
    go_wp2_with fail
    refine C2.out.mono ?_
    rintro e w2 hv
    obtain ⟨A2, c2, rfl, hc2, hm2, o2, k2⟩ := hv.form
    have WW := Lib.hid (works_input K w2 (K.keep HZ.out (keeps_trans K0.out (keeps_trans KB.out k2))))
    have K2 := Lib.hid k2
    clear hv o2 k2 x0 z0
    go_wp2_with fail
    refine WW.out.mono ?_
    rintro e w4 ⟨rfl, k4⟩
    go_wp2_with fail
    go_ret
    exact ⟨rfl, keeps_trans K0.out (keeps_trans KB.out (keeps_trans K2.out k4))⟩
  · rw [CMK.out u h0] at C2
    have hne : ((u.toNat : Int) == (z.toNat : Int)) = false := by
      rw [beq_eq_false_iff_ne]
      intro e
      exact h0 (UInt8.toNat_inj.1 (Int.ofNat.inj e))
    have H0 := Lib.hid h0
    clear h0
    go_wp2_with fail
    refine C2.out.mono ?_
    rintro e w2 hv
    obtain ⟨A2, c2, rfl, hc2, hm2, o2, k2⟩ := hv.form
    have WW := Lib.hid (works_input K w2 (K.keep HZ.out (keeps_trans K0.out (keeps_trans KB.out k2))))
    have K2 := Lib.hid k2
    clear hv o2 k2 x0 z0
    go_wp2_with fail
    refine WW.out.mono ?_
    rintro e w4 ⟨rfl, k4⟩
    go_wp2_with fail
    go_ret
    exact ⟨rfl, keeps_trans K0.out (keeps_trans KB.out (keeps_trans K2.out k4))⟩

set_option maxHeartbeats 4000000 in
theorem marks_walk (K : InputOk) (N : Nat) (hN : N < 4294967296) (A : Option Addr) (n c : Nat) (l : List Ed) (p v : Nat) (hp : p < 256) (hv : v < 256) (w : World) (hZ : K.Z w) (hB : At w w.heap.size A (edsC l)) (hok : ∀ e ∈ l, EdOk e) (hn : n = l.length) (hc : n ≤ c)
    (hlen : n ≤ maxLen) :
    Calls Tryd.prog 13 #[.agg #[.int .u32 (N : Int), .slice A n c, .int .u8 (p : Int), .int .u8 (v : Int)]] w (Yes w) := by
  unfold maxLen at hlen
  have k0 := keeps_alloc w (.cells #[.int .u32 (N : Int), .slice A n c, .int .u8 (p : Int), .int .u8 (v : Int)] 56)
  by_cases h : (1024 : Int) < n
  · have W := Lib.hid (works_input K _ (K.keep hZ k0))
    have K0 := Lib.hid k0
    clear hn hB hlen k0
    go_enter Tryd.func13, Tryd.ntmps13
    go_wp2_with (go_at_call 14; refine W.out.mono ?_; rintro e w1 ⟨rfl, k1⟩)
    go_ret
    exact ⟨rfl, keeps_trans K0.out k1⟩
  · by_cases hw : WOk N l
    · exact marks_yes K N hN A n c l p v hp hv w hZ hB hok hn hc (by omega) hw
    · have C1 := Lib.hid (K.write N A n c l _ (K.keep hZ k0) hN ((hB.keep k0).more k0.size) hok hn hc (by omega))
      have HW := Lib.hid hw
      have HZ := Lib.hid hZ
      have K0 := Lib.hid k0
      clear hn hB hw hZ hlen k0
      go_enter Tryd.func13, Tryd.ntmps13
      go_wp2_with fail
      refine C1.out.mono ?_
      rintro e w1 hv
      obtain ⟨rfl, k1⟩ := hv.no HW.out
      have WW := Lib.hid (works_input K w1 (K.keep HZ.out (keeps_trans K0.out k1)))
      clear hv
      go_wp2_with fail
      refine WW.out.mono ?_
      rintro e w4 ⟨rfl, k4⟩
      go_wp2_with fail
      go_ret
      exact ⟨rfl, keeps_trans K0.out (keeps_trans k1 k4)⟩
end Go.Proofs.YtbalejfloieiiaaDoor
