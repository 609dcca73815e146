/- PagefileGrows. -/
import Derived.Test.YtbpiiegjbcoapaaDoorQLawPf
namespace Go.Proofs.YtbpiiegjbcoapaaDoor
open Go.RowKit
set_option linter.unusedSimpArgs false
set_option linter.unusedVariables false
set_option maxRecDepth 100000

set_option maxHeartbeats 16000000 in
theorem grows8_walk (K : DiskOk) (PK : PageOk) (A : Option Addr) (n c : Nat) (rs : List RwS) (k : Int) (hk : IsI k) (B : Option Addr) (m d : Nat) (l : List UInt8) (w : World) (hZ : K.Z w) (hS : Sizes w)
    (h : RowsAt w A rs) (hn : n = rs.length) (hB : Bs w B l) (hm : m = l.length) (hd : m ≤ d) (hnx : n ≤ maxLen) (hdx : d ≤ maxLen) :
    Calls Tryd.prog 8 #[.slice A n c, .int .i64 k, .slice B m d] w (Yes8 w) := by
  have WK := Lib.hid (fun (W : World) (q : Keeps w W) => works8 K PK W (K.keep hZ q) (hS.keep q))
  have hk1 := hk.1
  have hk2 := hk.2
  have HZ := Lib.hid hZ
  have HS := Lib.hid hS
  have H := Lib.hid h
  have HN := Lib.hid hn
  have HB := Lib.hid hB
  have HM := Lib.hid hm
  have HD := Lib.hid (And.intro hd hdx)
  unfold maxLen at hnx hdx
  by_cases big : 40 < n ∨ 240 < m
  · have ways : (40 : Int) < (n : Int) ∨ (¬ (40 : Int) < (n : Int) ∧ (240 : Int) < (m : Int)) := by omega
    clear hZ hS h hn hB hm hd big hk
    go_enter Tryd.func8, Tryd.ntmps8
    rcases ways with x1 | ⟨x1, x2⟩
    all_goals
      go_wp2_with fail
      refine (WK.out _ (keeps_refl _)).mono ?_
      rintro e w9 ⟨rfl, k9⟩
      go_wp2_with fail
      go_ret
      exact ⟨rfl, k9⟩
  · have b0 : (n : Int) ≤ 40 := by omega
    have b1 : (m : Int) ≤ 240 := by omega
    have LD := Lib.hid (laid_any K PK w hZ hS A n c rs h hn (by omega))
    clear hZ hS h hn hB hm hd big hk
    go_enter Tryd.func8, Tryd.ntmps8
    go_wp2_with fail
    refine LD.out.mono ?_
    rintro e w1 (⟨b, f, F, fl, rfl, h1⟩ | ⟨rfl, k1⟩)
    rotate_left
    · go_wp2_with fail
      refine (WK.out _ k1).mono ?_
      rintro e w9 ⟨rfl, k9⟩
      go_wp2_with fail
      go_ret
      exact ⟨rfl, keeps_trans k1 k9⟩
    have H1 := Lib.hid h1
    have hpl : (rowsL rs).length = n := by rw [rowsL_length]; exact HN.out.symm
    obtain ⟨M, hM⟩ : ∃ M : Nat, 256 * n = M := ⟨_, rfl⟩
    have hMi : (256 : Int) * (n : Int) = (M : Int) := by omega
    have hMb : (M : Int) ≤ 20000 := by omega
    have hsz := h1.is.size
    rw [hpl, hM] at hsz
    have PG := Lib.hid (pfPages_any h1.h HZ.out h1.at_ (by decide) hsz (by omega))
    rw [show M / 256 = n by omega] at PG
    have SZ := Lib.hid (fun (V : World) (kk : Keeps w1 V) => (h1.h.keep kk).size_ HZ.out [97] _ rfl hsz)
    have HPL := Lib.hid hpl
    have e1 : ((0 : Int) != 0) = false := rfl
    have e2 : ((n : Int) != (n : Int)) = false := by simp
    have e3 : ((M : Int) != (M : Int)) = false := by simp
    clear h1 hM hsz
    go_wp2_with fail
    refine PG.out.mono ?_
    rintro e w2 ⟨rfl, k2⟩
    have S2 := Lib.hid (SZ.out _ k2)
    have K2 := Lib.hid k2
    clear k2
    go_wp2_with fail
    refine S2.out.mono ?_
    rintro e w3 ⟨rfl, -, k3⟩
    have L3 := Lib.hid (H1.out.keep (keeps_trans K2.out k3))
    clear k3
    by_cases far : (n : Int) < k
    · have hw := L3.out.is.write_no (k := k) (b := l) (by rw [hpl]; exact .inr far) (by have := HM.out; omega)
      have WR := Lib.hid (pfWrite_any PK L3.out.h HZ.out HS.out L3.out.at_ (by decide) k ⟨hk1, hk2⟩ B m d l (HB.out.keep L3.out.h.kp) HM.out HD.out.1 HD.out.2 hw)
      have g1 : ¬ k < 0 := by omega
      have g2 : (n : Int) ≤ k := by omega
      clear hw hpl
      go_wp2_with fail
      refine WR.out.mono ?_
      rintro e w4 ⟨rfl, F4, h4, -⟩
      have K4 := Lib.hid h4.kp
      clear h4
      go_wp2_with fail
      refine (WK.out _ K4.out).mono ?_
      rintro e w9 ⟨rfl, k9⟩
      go_wp2_with fail
      go_ret
      exact ⟨rfl, keeps_trans K4.out k9⟩
    · by_cases out : k < 0 ∨ k = (n : Int)
      · have ways : k < 0 ∨ (¬ k < 0 ∧ (n : Int) ≤ k) := by omega
        clear out hpl
        rcases ways with x1 | ⟨x1, x2⟩
        all_goals
          go_wp2_with fail
          refine (WK.out _ L3.out.h.kp).mono ?_
          rintro e w9 ⟨rfl, k9⟩
          go_wp2_with fail
          go_ret
          exact ⟨rfl, keeps_trans L3.out.h.kp k9⟩
      · obtain ⟨kn, rfl⟩ : ∃ kn : Nat, k = (kn : Int) := ⟨k.toNat, by omega⟩
        have g1 : ¬ (kn : Int) < 0 := by omega
        have g2 : ¬ (n : Int) ≤ (kn : Int) := by omega
        have hknl : kn < (rowsL rs).length := by omega
        obtain ⟨p, hp⟩ : ∃ p, (rowsL rs)[kn]? = some p := ⟨_, List.getElem?_eq_getElem hknl⟩
        have hpb := (L3.out.is.page kn p hp).1
        obtain ⟨hfl, hx⟩ := (L3.out.is.isX hp).flip (j := 20) (by decide) (m := 255) (by decide)
        have hno := flip_not (k := kn) hpb tA kn
        have NO := Lib.hid hno
        obtain ⟨o1, ho1⟩ : ∃ o1 : Nat, 256 * kn = o1 := ⟨_, rfl⟩
        obtain ⟨o2, ho2⟩ : ∃ o2 : Nat, o1 + 20 = o2 := ⟨_, rfl⟩
        have ha : (256 : Int) * (kn : Int) = (o1 : Int) := by omega
        have hb : (o1 : Int) + 20 = (o2 : Int) := by omega
        have hbb : (o2 : Int) ≤ 20000 := by omega
        have hbb1 : (o1 : Int) ≤ 20000 := by omega
        rw [ho1, ho2] at hfl hx
        have IX := Lib.hid hx
        have FP := Lib.hid (L3.out.h.went hfl (K.flip [97] (o2 : Int) 255 (L3.out.h.z HZ.out) L3.out.h.D (by decide) (by omega) (by omega)))
        unfold dpt strV at FP
        rw [strA8, show (((255 : UInt8).toNat : Nat) : Int) = 255 from rfl] at FP
        clear hfl hx hno ho1 ho2 hpb
        go_wp2_with fail
        refine FP.out.mono ?_
        rintro e w4 ⟨rfl, F4, h4, t4⟩
        obtain ⟨hf4, hn4⟩ := L3.out.at_.turn t4 L3.out.out
        have H4 := Lib.hid h4
        have HF4 := Lib.hid hf4
        have HN4 := Lib.hid hn4
        have RD := Lib.hid (pfRead_any PK h4 HZ.out HS.out hf4 (by decide) (kn : Int) ⟨by omega, by omega⟩ (IX.out.rot NO.out))
        clear h4 t4 hf4 hn4
        go_wp2_with fail
        refine RD.out.mono ?_
        rintro e w5 ⟨A5, c5, rfl, -, -, k5⟩
        have H5 := Lib.hid (H4.out.keep k5)
        have HF5 := Lib.hid (HF4.out.keep k5)
        have CP := Lib.hid (copyBytes_any B m d l w5 (HB.out.keep H5.out.kp) HM.out (by unfold maxLen; omega))
        have e7 : ((7 : Int) != 7) = false := rfl
        clear k5
        go_wp2_with fail
        refine CP.out.mono ?_
        rintro e w6 ⟨v6, rfl, o6, k6⟩
        obtain ⟨A6, c6, rfl, hc6, -⟩ := o6.form
        have hw := IX.out.write (by omega) (b := l) (by have := HM.out; omega)
        have IS := Lib.hid (IX.out.over (b := l) (by have := HM.out; omega))
        have WR := Lib.hid (pfWrite_any PK (H5.out.keep k6) HZ.out HS.out (HF5.out.keep k6) (by decide) (kn : Int) ⟨by omega, by omega⟩ A6 l.length c6 l o6.at_ rfl hc6 o6.capm hw)
        have HF6 := Lib.hid (HF5.out.keep k6)
        clear hw o6 k6
        go_wp2_with fail
        refine WR.out.mono ?_
        rintro e w7 ⟨rfl, F7, h7, t7⟩
        obtain ⟨hf7, hn7⟩ := HF6.out.turn t7 HN4.out
        have H7 := Lib.hid h7
        have HF7 := Lib.hid hf7
        have RD7 := Lib.hid (pfRead_any PK h7 HZ.out HS.out hf7 (by decide) (kn : Int) ⟨by omega, by omega⟩ (IS.out.read (p := l) (by rw [setP_get (by omega), if_pos rfl])))
        clear h7 t7 hf7 hn7
        go_wp2_with fail
        refine RD7.out.mono ?_
        rintro e w8 ⟨A8, c8, rfl, -, o8, k8⟩
        have H8 := Lib.hid (H7.out.keep k8)
        have O8 := Lib.hid o8
        have BD := Lib.hid (pfBad_any PK H8.out HZ.out HS.out (nm := [97]) (by decide))
        rw [IS.out.bad, strA8] at BD
        clear o8 k8
        go_wp2_with fail
        refine BD.out.mono ?_
        rintro e wa ⟨va, rfl, oa, ka⟩
        obtain ⟨Aa, ca, rfl, -⟩ := oa.form
        have KA := Lib.hid (keeps_trans H8.out.kp ka)
        have EQ := Lib.hid (eq_same A8 l.length c8 l B m d wa (O8.out.keep ka).at_ rfl (HB.out.keep KA.out) HM.out)
        clear oa ka
        go_wp2_with fail
        refine EQ.out.mono ?_
        rintro e wb ⟨rfl, rfl⟩
        go_wp2_with fail
        refine (WK.out _ KA.out).mono ?_
        rintro e w9 ⟨rfl, k9⟩
        go_wp2_with fail
        go_ret
        exact ⟨rfl, keeps_trans KA.out k9⟩
end Go.Proofs.YtbpiiegjbcoapaaDoor
