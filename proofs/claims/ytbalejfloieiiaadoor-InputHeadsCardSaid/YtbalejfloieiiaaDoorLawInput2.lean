/- The walks of InputHeads and InputChecks. -/
import Derived.Test.YtbalejfloieiiaaDoorLawInput
namespace Go.Proofs.YtbalejfloieiiaaDoor
open Go.RowKit
set_option linter.unusedSimpArgs false
set_option linter.unusedVariables false
set_option maxRecDepth 100000

set_option maxHeartbeats 2000000 in
theorem heads_walk (K : InputOk) (A : Option Addr) (n c : Nat) (l : List UInt8) (N : Nat) (hN : N < 4294967296) (w : World) (hZ : K.Z w) (hB : Bs w A l) (hn : n = l.length) (hc : n ≤ c) (hlen : n ≤ maxLen) :
    Calls Tryd.prog 3 #[.slice A n c, .int .u32 (N : Int)] w (Yes w) := by
  unfold maxLen at hlen
  by_cases h : (131072 : Int) < n
  · have W := Lib.hid (works_input K w hZ)
    clear hn hB
    go_enter Tryd.func3, Tryd.ntmps3
    go_wp2_with (go_at_call 14; refine W.out.mono ?_; rintro e w1 ⟨rfl, k1⟩)
    go_ret
    exact ⟨rfl, k1⟩
  · have hm : n ≤ 131072 := by omega
    have R := Lib.hid (roomy_any A n c l w hB hn (by omega))
    have HN := Lib.hid hn
    have HZ := Lib.hid hZ
    have HB := Lib.hid hB
    obtain ⟨H, hH⟩ : ∃ H, headS l = H := ⟨_, rfl⟩
    obtain ⟨Q, hQ⟩ : ∃ Q, rowS l N = Q := ⟨_, rfl⟩
    have HH := Lib.hid hH
    have HQ := Lib.hid hQ
    obtain ⟨h1, h2, h3, h4⟩ := H
    obtain ⟨⟨q1, q2, q3, q4⟩, q5, q6⟩ := Q
    have HM := Lib.hid hm
    have HC := Lib.hid hc
    clear hn hZ hB hH hQ
    go_enter Tryd.func3, Tryd.ntmps3
    go_wp2_with fail
    refine R.out.mono ?_
    rintro e w1 ⟨ad, cap, rfl, r⟩
    have k1 := r.kept
    have hin : Bs w1 (some ad) l := by have := r.bytes.take l.length; rwa [List.take_left] at this
    have hcap : n + 7 ≤ cap := by rw [HN.out]; exact r.fits
    have hcap' : n ≤ cap := by omega
    have RB := Lib.hid r.bytes
    rw [← HN.out]
    have C1 := Lib.hid (K.head (some ad) n cap l w1 (K.keep HZ.out k1) hin HN.out hcap' (by omega))
    have HI := Lib.hid hin
    rw [HH.out] at C1
    clear r hin
    unfold headV at C1
    go_wp2_with fail
    refine C1.out.mono ?_
    rintro e w2 ⟨rfl, k2⟩
    have C2 := Lib.hid (refHead_any A n c l w2 (HB.out.keep (keeps_trans k1 k2)) HN.out (by omega))
    rw [HH.out] at C2
    unfold headV at C2
    go_wp2_with fail
    refine C2.out.mono ?_
    rintro e w3 ⟨rfl, k3⟩
    have C3 := Lib.hid (K.row (some ad) n cap l N w3 (K.keep HZ.out (keeps_trans k1 (keeps_trans k2 k3))) hN (HI.out.keep (keeps_trans k2 k3)) HN.out hcap' (by omega))
    rw [HQ.out] at C3
    unfold rowV at C3
    go_wp2_with fail
    refine C3.out.mono ?_
    rintro e w4 ⟨rfl, k4⟩
    have K4 := keeps_trans k1 (keeps_trans k2 (keeps_trans k3 k4))
    have k5 := keeps_alloc w4 (.cells #[.int .u32 (q1 : Int), .int .u32 (q2 : Int), .int .u64 (q3 : Int), .int .u32 (q4 : Int)] 31)
    have E1 := EdBox.new w4 31 ⟨q1, q2, q3, q4⟩
    have C4 := Lib.hid (refRow_any A n c l N hN _ (HB.out.keep (keeps_trans K4 k5)) HN.out (by omega))
    rw [HQ.out] at C4
    unfold rowV at C4
    have RB4 := Lib.hid (RB.out.keep (keeps_trans k2 (keeps_trans k3 k4)))
    go_wp2_with fail
    generalize w4.alloc (.cells #[.int .u32 (q1 : Int), .int .u32 (q2 : Int), .int .u64 (q3 : Int), .int .u32 (q4 : Int)] 31) = w5 at *
    refine C4.out.mono ?_
    rintro e w6 ⟨rfl, k6⟩
    have k7 := keeps_alloc w6 (.cells #[.int .u32 (q1 : Int), .int .u32 (q2 : Int), .int .u64 (q3 : Int), .int .u32 (q4 : Int)] 31)
    obtain ⟨c0, c1, c2, c3⟩ := ((E1.keep k6).keep k7).cells
    obtain ⟨d0, d1, d2, d3⟩ := (EdBox.new w6 31 ⟨q1, q2, q3, q4⟩).cells
    have K7 := keeps_trans K4 (keeps_trans k5 (keeps_trans k6 k7))
    have P := Lib.hid (kept_any ad n cap l A n c _ (RB4.out.keep (keeps_trans k5 (keeps_trans k6 k7))) HN.out hcap (by omega) (HB.out.keep K7) HN.out)
    have WK := Lib.hid (fun V (k : Keeps w V) => works_input K V (K.keep HZ.out k))
    have KK := Lib.hid K7
    clear k1 k2 k3 k4 k5 k6 k7 K4 K7 E1
    go_wp2_with fail
    generalize w6.alloc (.cells #[.int .u32 (q1 : Int), .int .u32 (q2 : Int), .int .u64 (q3 : Int), .int .u32 (q4 : Int)] 31) = w8 at *
    refine P.out.mono ?_
    rintro e w9 ⟨rfl, k9⟩
    have WW := Lib.hid (WK.out w9 (keeps_trans KK.out k9))
    have K9 := Lib.hid k9
    clear c0 c1 c2 c3 d0 d1 d2 d3 k9
    go_wp2_with fail
    refine WW.out.mono ?_
    rintro e wa ⟨rfl, ka⟩
    go_wp2_with fail
    go_ret
    exact ⟨rfl, keeps_trans KK.out (keeps_trans K9.out ka)⟩

theorem At.below {w w' : World} {B B' : Nat} {A : Option Addr} {xs : List Value} (h : At w B A xs) (k : Below B' w w') (hB : B ≤ B') : At w' B A xs := h.keep (k.mono hB)

set_option maxHeartbeats 4000000 in
theorem checks_walk (K : InputOk) (A : Option Addr) (n c : Nat) (l : List UInt8) (w : World) (hZ : K.Z w) (hB : Bs w A l) (hn : n = l.length) (hc : n ≤ c) (hlen : n ≤ maxLen) :
    Calls Tryd.prog 4 #[.slice A n c] w (Yes w) := by
  unfold maxLen at hlen
  by_cases h : (131072 : Int) < n
  · have W := Lib.hid (works_input K w hZ)
    clear hn hB
    go_enter Tryd.func4, Tryd.ntmps4
    go_wp2_with (go_at_call 14; refine W.out.mono ?_; rintro e w1 ⟨rfl, k1⟩)
    go_ret
    exact ⟨rfl, k1⟩
  · have hm : n ≤ 131072 := by omega
    have R := Lib.hid (roomy_any A n c l w hB hn (by omega))
    have HN := Lib.hid hn
    have HZ := Lib.hid hZ
    have HB := Lib.hid hB
    obtain ⟨H, hH⟩ : ∃ H, checkS l = H := ⟨_, rfl⟩
    have HH := Lib.hid hH
    have hL : H.l.length ≤ 16777216 := by
      rw [← hH]
      by_cases he : (checkS l).e = 0
      · exact (check_inv he).2.1.1.2.1
      · rw [(check_none he).2]; simp
    have HL := Lib.hid hL
    clear hL
    obtain ⟨h1, hl, h3, h4⟩ := H
    have HM := Lib.hid hm
    have HC := Lib.hid hc
    clear hn hZ hB hH
    go_enter Tryd.func4, Tryd.ntmps4
    go_wp2_with fail
    refine R.out.mono ?_
    rintro e w1 ⟨ad, cap, rfl, r⟩
    have k1 := r.kept
    have hin : Bs w1 (some ad) l := by have := r.bytes.take l.length; rwa [List.take_left] at this
    have hcap : n + 7 ≤ cap := by rw [HN.out]; exact r.fits
    have hcap' : n ≤ cap := by omega
    have RB := Lib.hid r.bytes
    rw [← HN.out]
    have C1 := Lib.hid (K.check (some ad) n cap l w1 (K.keep HZ.out k1) hin HN.out hcap' (by omega))
    rw [HH.out] at C1
    have K1 := Lib.hid k1
    clear r hin k1
    go_wp2_with fail
    refine C1.out.mono ?_
    rintro e w2 ⟨v, rfl, own2, k2⟩
    obtain ⟨A2, c2, rfl, hc2, hm2, -⟩ := own2.form
    have C2 := Lib.hid (refCheck_any A n c l w2 (HB.out.keep (keeps_trans K1.out k2)) HN.out HC.out (by omega))
    rw [HH.out] at C2
    have O2 := Lib.hid own2
    have K2 := Lib.hid k2
    clear own2 k2
    go_wp2_with fail
    refine C2.out.mono ?_
    rintro e w3 ⟨v3, rfl, own3, k3⟩
    obtain ⟨A3, c3, rfl, hc3, hm3, -⟩ := own3.form
    have Q := Lib.hid (refEq_any A2 hl.length c2 hl A3 hl.length c3 hl w3 (O2.out.keep k3).at_ rfl own3.at_ rfl (by have := HL.out; omega) (by have := HL.out; omega))
    have K3 := Lib.hid k3
    clear own3 k3
    go_wp2_with fail
    refine Q.out.mono ?_
    rintro e w4 ⟨hq, k4⟩
    obtain rfl : e = .returned (.bool true) := by
      rcases hq with ⟨e, _⟩ | ⟨_, e⟩
      · exact e
      · exact absurd rfl e
    clear hq
    have K14 := Lib.hid (keeps_trans K2.out (keeps_trans K3.out k4))
    have P := Lib.hid (kept_any ad n cap l A n c w4 (RB.out.keep K14.out) HN.out hcap (by omega) (HB.out.keep (keeps_trans K1.out K14.out)) HN.out)
    have O4 := Lib.hid (O2.out.keep (keeps_trans K3.out k4))
    clear k4
    go_wp2_with fail
    refine P.out.mono ?_
    rintro e w5 ⟨rfl, k5⟩
    have O5 := Lib.hid (O4.out.keep k5)
    have K15 := Lib.hid (keeps_trans K14.out k5)
    clear k5
    go_wp2_with fail
    go_loopw [12] (fun i wr => ∃ (j : Nat) (m : List Ed), j ≤ hl.length ∧ i = .int .i64 j ∧ m.length = hl.length ∧ Own wr w1.heap.size 31 4 (.slice A2 hl.length c2) hl.length (edsC m) ∧ Keeps w1 wr) (fun i _ => hl.length - (intOf i).toNat)
    case atStart => exact ⟨0, hl, Nat.zero_le _, rfl, rfl, O5.out, K15.out⟩
    case round =>
      obtain ⟨j, m, hj, rfl, hml, ho, hk⟩ := hrel
      by_cases hlt : j < hl.length
      · obtain ⟨g, rfl, -⟩ := ho.cell (j := 0) (by rw [edsC_length]; omega)
        obtain ⟨e, he⟩ : ∃ e, m[j]? = some e := ⟨_, List.getElem?_eq_getElem (by omega)⟩
        obtain ⟨⟨d0, d1, d2, d3⟩, f0, f1, f2, f3⟩ := own_edge' ho he
        have lg := (ho.lt g rfl).2
        have hg := (ho.lt g rfl).1
        have ST := Lib.hid (And.intro (ho.stored' hml hlt ⟨0, 0, 0, 0⟩) (stEd_below hk hg j ⟨0, 0, 0, 0⟩))
        have j0 : (0 : Int) ≤ (j : Int) := by omega
        have j1 : (j : Int) < (hl.length : Int) := by omega
        have j2 : (j : Int) < 16777216 := by have := HL.out; omega
        have HJ := Lib.hid (And.intro hlt hml)
        clear he hlt hml ho hk hj
        go_wp2_with fail
        go_roundw
        case rel => exact ⟨j + 1, m.set j ⟨0, 0, 0, 0⟩, by have := HJ.out.1; omega, by go_num, by rw [List.length_set]; exact HJ.out.2, ST.out.1, ST.out.2⟩
        case measure => have := HJ.out.1; simp [intOf]; omega
      · obtain rfl : j = hl.length := by omega
        have KR := Lib.hid hk
        have P2 := Lib.hid (kept_any ad n cap l A n c wr (RB.out.keep hk) HN.out hcap (by omega) (HB.out.keep (keeps_trans K1.out hk)) HN.out)
        clear ho hk hlt hj hml
        go_wp2_with fail
        refine P2.out.mono ?_
        rintro e w7 ⟨rfl, k7⟩
        have WW := Lib.hid (works_input K w7 (K.keep HZ.out (keeps_trans K1.out (keeps_trans KR.out k7))))
        have K7 := Lib.hid k7
        clear k7
        go_wp2_with fail
        refine WW.out.mono ?_
        rintro e w8 ⟨rfl, k8⟩
        go_wp2_with fail
        go_ret
        exact ⟨rfl, keeps_trans K1.out (keeps_trans KR.out (keeps_trans K7.out k8))⟩
end Go.Proofs.YtbalejfloieiiaaDoor
