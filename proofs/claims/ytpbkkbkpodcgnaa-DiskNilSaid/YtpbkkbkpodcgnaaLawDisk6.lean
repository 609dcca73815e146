/- DiskCuts. -/
import Derived.Test.YtpbkkbkpodcgnaaLawDisk5
namespace Go.Proofs.Ytpbkkbkpodcgnaa
open Go.RowKit
set_option linter.unusedSimpArgs false
set_option linter.unusedVariables false
set_option maxRecDepth 100000

theorem sizeU8d : (Try.prog.info? 5).map (·.size) = some 1 := by kernel_rfl
/-- a file a that holds and keeps these bytes -/
def fA (l : List UInt8) : Fl := ⟨[97], l, l, fun _ => false⟩
theorem start_a (l : List UInt8) (h : l.length ≤ 262144) : writeS (D1 ⟨[97], [], [], fun _ => false⟩) [97] 0 l = (D1 (writeF ⟨[97], [], [], fun _ => false⟩ 0 l), 0) := by
  have := write1 (f := ⟨[97], [], [], fun _ => false⟩) rfl (off := 0) (b := l) (Nat.zero_le _) (by simp; omega)
  simpa using this
theorem start_b (l : List UInt8) : syncS (D1 (writeF ⟨[97], [], [], fun _ => false⟩ 0 l)) [97] = (D1 (fA l), 0) := by
  rw [sync1 (by rfl)]
  have : syncF (writeF ⟨[97], [], [], fun _ => false⟩ 0 l) = fA l := by simp [syncF, writeF, layB_nil, fA]
  rw [this]
def fC (l : List UInt8) (k : Nat) : Fl := cutF (fA l) k
theorem fC_now (l : List UInt8) (k : Nat) : (fC l k).now = l.take k := rfl
theorem fC_lasts (l : List UInt8) (k : Nat) : (fC l k).lasts = l.take k := rfl
theorem cuts_w (l more : List UInt8) (k : Nat) (hk : k ≤ l.length) (h : l.length + more.length ≤ 262144) : writeS (D1 (fC l k)) [97] (k : Int) more = (D1 (writeF (fC l k) k more), 0) :=
  write1 (f := fC l k) rfl (by rw [fC_now, List.length_take]; omega) (by rw [fC_now, List.length_take]; omega)
theorem cuts_now (l more : List UInt8) (k : Nat) (hk : k ≤ l.length) : (writeF (fC l k) k more).now = l.take k ++ more := by
  show layB (l.take k) k more = _
  have e : k = (l.take k).length := by rw [List.length_take]; omega
  have := layB_end (l.take k) more
  rw [← e] at this
  exact this
theorem cuts_on (l more : List UInt8) (k : Nat) : onS ⟨[writeF (fC l k) k more], 4096, 0, true⟩ [] = (D1 (fA (l.take k)), 0) := by
  rw [on1, backF_nil]
  rfl
theorem i0_ok : IsI 0 := ⟨by decide, by decide⟩
theorem i1_ok : IsI 1 := ⟨by decide, by decide⟩
theorem iM_ok : IsI 16777216 := ⟨by decide, by decide⟩

set_option maxHeartbeats 16000000 in
theorem cuts6_walk (K : DiskOk) (A : Option Addr) (n c : Nat) (l : List UInt8) (k : Int) (hki : IsI k) (A2 : Option Addr) (n2 c2 : Nat) (l2 : List UInt8) (w : World) (hZ : K.Z w) (hB : Bs w A l) (hn : n = l.length) (hc : n ≤ c) (hB2 : Bs w A2 l2) (hn2 : n2 = l2.length) (hc2 : n2 ≤ c2)
    (hm : n ≤ 9223372036854775807) (hm2 : n2 ≤ 9223372036854775807) :
    Calls Try.prog 9 #[.slice A n c, .int .i64 k, .slice A2 n2 c2] w (Yes w) := by
  have WK := Lib.hid (fun (W : World) (q : Keeps w W) => works6 K W (K.keep hZ q))
  have HB := Lib.hid hB
  have HB2 := Lib.hid hB2
  have HN := Lib.hid hn
  have HN2 := Lib.hid hn2
  have HZ := Lib.hid hZ
  have HKI := Lib.hid hki
  by_cases big : 4096 < n ∨ 4096 < n2
  · have ways : (4096 : Int) < (n : Int) ∨ (¬ (4096 : Int) < (n : Int) ∧ (4096 : Int) < (n2 : Int)) := by omega
    clear hB hB2 hn hn2 hZ hki big
    go_enter Try.func9, Try.ntmps9
    rcases ways with w1 | ⟨w1, w2⟩
    all_goals
      go_wp2_with fail
      refine (WK.out _ (keeps_refl _)).mono ?_
      rintro e w1 ⟨rfl, k1⟩
      go_wp2_with fail
      go_ret
      exact ⟨rfl, k1⟩
  · have b1 : (n : Int) ≤ 4096 := by omega
    have b2 : (n2 : Int) ≤ 4096 := by omega
    have NW := Lib.hid (new_ K w hZ)
    clear hB hB2 hn hn2 hZ hki big
    go_enter Try.func9, Try.ntmps9
    go_wp2_with fail
    refine NW.out.mono ?_
    rintro e w1 ⟨b, F, rfl, h1⟩
    have H1 := Lib.hid h1
    clear h1
    go_wp2_with fail
    refine (H1.out.create_ HZ.out [97] _ rfl create1).mono ?_
    rintro e w2 ⟨rfl, F2, h2⟩
    have T2 := Lib.hid (twin6_any A n c l w2 (HB.out.keep h2.kp) HN.out (by omega))
    have H2 := Lib.hid h2
    clear h2
    go_wp2_with fail
    refine T2.out.mono ?_
    rintro e w3 ⟨v3, rfl, o3, k3⟩
    obtain ⟨A3, c3, rfl, -⟩ := o3.form
    go_wp2_with fail
    refine (H2.out.write_ HZ.out [97] 0 i0_ok _ rfl o3 rfl k3 (by have := HN.out; omega) (start_a l (by have := HN.out; omega))).mono ?_
    rintro e w4 ⟨rfl, F4, h4⟩
    have H4 := Lib.hid h4
    clear h4 o3 k3
    go_wp2_with fail
    refine (H4.out.sync_ HZ.out [97] _ rfl (start_b l)).mono ?_
    rintro e w5 ⟨rfl, F5, h5⟩
    have H5 := Lib.hid h5
    clear h5
    by_cases hk : k < 0 ∨ (n : Int) < k
    · have ways : (k : Int) < 0 ∨ (¬ (k : Int) < 0 ∧ (n : Int) < k) := by omega
      have CN := Lib.hid (show cutS (D1 (fA l)) [97] k = (D1 (fA l), 1) from cut1_no rfl (by show k < 0 ∨ (l.length : Int) < k; have := HN.out; omega))
      clear hk
      rcases ways with q1 | ⟨q1, q2⟩
      all_goals
        go_wp2_with fail
        refine (H5.out.cut_ HZ.out [97] k HKI.out _ rfl CN.out).mono ?_
        rintro e w6 ⟨rfl, F6, h6⟩
        have H6 := Lib.hid h6
        clear h6
        go_wp2_with fail
        refine (WK.out _ H6.out.kp).mono ?_
        rintro e w7 ⟨rfl, k7⟩
        have K7 := Lib.hid (keeps_trans H6.out.kp k7)
        clear k7
        go_wp2_with fail
        go_ret
        exact ⟨rfl, K7.out⟩
    · obtain ⟨m, rfl⟩ : ∃ m : Nat, k = (m : Int) := ⟨k.toNat, by omega⟩
      have hmn : (m : Int) ≤ (n : Int) := by omega
      have HMN := Lib.hid (show m ≤ l.length by have := HN.out; omega)
      have CY := Lib.hid (show cutS (D1 (fA l)) [97] (m : Int) = (D1 (fC l m), 0) from cut1 (f := fA l) rfl HMN.out)
      have CW := Lib.hid (cuts_w l l2 m HMN.out (by have := HN.out; have := HN2.out; omega))
      have CR := Lib.hid (show readS (D1 (writeF (fC l m) m l2)) [97] 0 16777216 = (l.take m ++ l2, 0) by
        have h1 := read1 (f := writeF (fC l m) m l2) rfl (by rw [cuts_now l l2 m HMN.out, List.length_append, List.length_take]; have := HN.out; have := HN2.out; omega)
        rw [cuts_now l l2 m HMN.out] at h1
        exact h1)
      clear hk
      go_wp2_with fail
      refine (H5.out.cut_ HZ.out [97] m HKI.out _ rfl CY.out).mono ?_
      rintro e w6 ⟨rfl, F6, h6⟩
      have H6 := Lib.hid h6
      clear h6
      have T6 := Lib.hid (twin6_any A2 n2 c2 l2 w6 (HB2.out.keep H6.out.kp) HN2.out (by omega))
      go_wp2_with fail
      refine T6.out.mono ?_
      rintro e w7 ⟨v7, rfl, o7, k7⟩
      obtain ⟨A7, c7, rfl, -⟩ := o7.form
      have L7 : (l2.length : Int) = (n2 : Int) := by have := HN2.out; omega
      go_wp2_with fail
      refine (H6.out.write_ HZ.out [97] m HKI.out _ rfl o7 rfl k7 (by have := HN2.out; omega) CW.out).mono ?_
      rintro e w8 ⟨rfl, F8, h8⟩
      have H8 := Lib.hid h8
      clear h8 o7 k7
      go_wp2_with fail
      refine (H8.out.read_ HZ.out [97] 0 16777216 i0_ok iM_ok _ rfl CR.out).mono ?_
      rintro e w9 ⟨A9, c9, rfl, hc9, o9, h9, k9⟩
      have H9 := Lib.hid h9
      have B9 : Bs w9 A9 (l.take m ++ l2) := o9.at_
      have e9 : (l.take m ++ l2).length = m + n2 := by rw [List.length_append, List.length_take]; have := HMN.out; have := HN2.out; omega
      have HB9 := Lib.hid B9
      rw [e9] at hc9
      simp only [e9]
      have E9 := Lib.hid e9
      clear B9 h9 k9 o9 e9
      obtain ⟨q, hq⟩ : ∃ q, q = m + n2 := ⟨_, rfl⟩
      rw [← hq] at hc9 E9
      simp only [← hq]
      have hq2 : q - m = n2 := by omega
      have hmq : m ≤ q := by omega
      have hc9' : (m : Int) ≤ (c9 : Int) := by omega
      have hcm : (m : Int) ≤ (c : Int) := by omega
      have hsl := run_from (P := Try.prog) 22 5 Try.underlying22 sizeU8d A9 q c9 m hmq
      have hlt9 : decide (q < m) = false := decide_eq_false (by omega)
      have hlt8 : decide ((q : Int) < (m : Int)) = false := decide_eq_false (by omega)
      have S1 := Lib.hid (fun W (k : Keeps w9 W) => same6_any A9 m c9 (l.take m) A m c (l.take m) W (by have := (HB9.out.keep k).take m; rwa [List.take_left' (by rw [List.length_take]; have := HMN.out; omega)] at this) (by rw [List.length_take]; have := HMN.out; omega) ((HB.out.keep (keeps_trans H9.out.kp k)).take m) (by rw [List.length_take]; have := HMN.out; omega) (by omega))
      have S2 := Lib.hid (fun W (k : Keeps w9 W) => same6_any (dropA A9 c9 m) (q - m) (c9 - m) l2 A2 n2 c2 l2 W (by have := (HB9.out.keep k).dropA (n := q) (c := c9) (k := m) E9.out.symm hc9; rwa [List.drop_left' (by rw [List.length_take]; have := HMN.out; omega)] at this) (by have := HN2.out; omega) (HB2.out.keep (keeps_trans H9.out.kp k)) HN2.out (by omega))
      rw [decide_eq_true rfl] at S1 S2
      rw [hq2] at S2 hsl
      generalize dropA A9 c9 m = D at *
      have HMQ := Lib.hid hmq
      clear hq2 hq hmq
      go_wp2_with fail
      go_region_held3 (fun _ => True) (trivial) (first
        | (go_at_call 29; refine (S1.out _ (by first | exact keeps_refl _ | exact keeps_drew _)).mono ?_; rintro e w10 ⟨rfl, k10⟩; replace k10 := keeps_trans (keeps_drew _) k10; clear S1)
        | (go_at_call 29; refine (S2.out _ (by assumption)).mono ?_; rintro e w11 ⟨rfl, k11⟩; clear S2))
      have H11 := Lib.hid (H9.out.keep (keeps_trans k10 k11))
      clear k10 k11 hsl hlt9 hlt8 hc9 hc9'
      go_wp2_with fail
      refine (H11.out.arm_ HZ.out 1 i1_ok (arm1 _)).mono ?_
      rintro e w12 ⟨rfl, F12, h12⟩
      have H12 := Lib.hid h12
      clear h12
      go_wp2_with fail
      refine (H12.out.create_ HZ.out [120] _ rfl (dead1 _ _)).mono ?_
      rintro e w13 ⟨rfl, F13, h13⟩
      have H13 := Lib.hid h13
      clear h13
      go_wp2_with fail
      refine (H13.out.on_ HZ.out none 0 0 [] (At.nil _ _ _) (fun ad h => by cases h) rfl (Nat.le_refl _) (by decide) (cuts_on l l2 m)).mono ?_
      rintro e w14 ⟨rfl, F14, h14⟩
      have H14 := Lib.hid h14
      clear h14
      have CR2 := Lib.hid (show readS (D1 (fA (l.take m))) [97] 0 16777216 = (l.take m, 0) from read1 (f := fA (l.take m)) rfl (by show (l.take m).length ≤ 16777216; rw [List.length_take]; have := HN.out; omega))
      go_wp2_with fail
      refine (H14.out.read_ HZ.out [97] 0 16777216 i0_ok iM_ok _ rfl CR2.out).mono ?_
      rintro e w15 ⟨A15, c15, rfl, hc15, o15, h15, k15⟩
      have H15 := Lib.hid h15
      have e15 : (l.take m).length = m := by rw [List.length_take]; have := HMN.out; omega
      have S3 := Lib.hid (same6_any A15 m c15 (l.take m) A m c (l.take m) w15 o15.at_ e15.symm ((HB.out.keep H15.out.kp).take m) e15.symm (by omega))
      rw [decide_eq_true rfl] at S3
      rw [e15] at hc15
      simp only [e15]
      clear o15 h15 k15 e15
      go_wp2_with fail
      refine S3.out.mono ?_
      rintro e w16 ⟨rfl, k16⟩
      have K16 := Lib.hid (keeps_trans H15.out.kp k16)
      clear k16
      go_wp2_with fail
      refine (WK.out _ K16.out).mono ?_
      rintro e w17 ⟨rfl, k17⟩
      have K17 := Lib.hid (keeps_trans K16.out k17)
      clear k17
      go_wp2_with fail
      go_ret
      exact ⟨rfl, K17.out⟩
end Go.Proofs.Ytpbkkbkpodcgnaa
