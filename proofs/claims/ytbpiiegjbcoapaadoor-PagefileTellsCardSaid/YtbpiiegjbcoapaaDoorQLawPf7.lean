/- PagefileTells. -/
import Derived.Test.YtbpiiegjbcoapaaDoorQLawPf
import Derived.Test.YtbpiiegjbcoapaaDoorQLawPage2
namespace Go.Proofs.YtbpiiegjbcoapaaDoor
open Go.RowKit
open Go.IntWalk
set_option linter.unusedSimpArgs false
set_option linter.unusedVariables false
set_option maxRecDepth 100000

/-- one bit of the burst -/
theorem IsX.turn {f : Fl} {ps : List (List UInt8)} {kn a m j : Nat} {pg : List UInt8} (h : IsX f ps kn (turnC pg a m j)) (hl : pg.length = 256) (hb : m.testBit j = true) {pl q r off : Nat} (hpl : a + j = pl) (hp : pl < 2048) (hq : pl / 8 = q) (hr : pl % 8 = r) (ho : 256 * kn + q = off) :
    ∃ f', flipS (D1 f) [97] (off : Int) (UInt8.ofNat (2 ^ r)) = (D1 f', 0) ∧ IsX f' ps kn (turnC pg a m (j + 1)) := by
  have hr8 : r < 8 := by rw [← hr]; exact Nat.mod_lt _ (by decide)
  have hp2 : (2 : Nat) ^ r < 256 := Nat.pow_lt_pow_right (by omega) hr8
  have hne : UInt8.ofNat (2 ^ r) ≠ 0 := by
    intro e
    have e2 := congrArg UInt8.toNat e
    rw [UInt8.toNat_ofNat', Nat.mod_eq_of_lt hp2] at e2
    have : 0 < 2 ^ r := Nat.pow_pos (by decide)
    simp at e2
  obtain ⟨h1, h2⟩ := h.flip (j := q) (by omega) hne
  rw [ho] at h1 h2
  refine ⟨_, h1, ?_⟩
  have e : turnC pg a m (j + 1) = flipB (turnC pg a m j) q (UInt8.ofNat (2 ^ r)) := by
    rw [turnC, if_pos ⟨hb, by omega⟩, hpl, hq, hr]
    rfl
  rw [e]
  exact h2
set_option maxHeartbeats 16000000 in
theorem tells8_walk (K : DiskOk) (PK : PageOk) (A : Option Addr) (n c : Nat) (rs : List RwS) (k : Int) (hk : IsI k) (x : Nat) (hx : x < 65536) (y : Nat) (hy : y < 4294967296) (w : World) (hZ : K.Z w) (hS : Sizes w)
    (h : RowsAt w A rs) (hn : n = rs.length) (hnx : n ≤ maxLen) :
    Calls Tryd.prog 5 #[.slice A n c, .int .i64 k, .int .u16 (x : Int), .int .u32 (y : Int)] w (Yes8 w) := by
  have WK := Lib.hid (fun (W : World) (q : Keeps w W) => works8 K PK W (K.keep hZ q) (hS.keep q))
  have hk1 := hk.1
  have hk2 := hk.2
  have HZ := Lib.hid hZ
  have HS := Lib.hid hS
  have H := Lib.hid h
  have HN := Lib.hid hn
  unfold maxLen at hnx
  by_cases big : 40 < n ∨ k < 0 ∨ (n : Int) ≤ k
  · have ways : (40 : Int) < (n : Int) ∨ (¬ (40 : Int) < (n : Int) ∧ k < 0) ∨ (¬ (40 : Int) < (n : Int) ∧ ¬ k < 0 ∧ (n : Int) ≤ k) := by omega
    clear hZ hS h hn big hk hx hy
    go_enter Tryd.func5, Tryd.ntmps5
    rcases ways with x1 | ⟨x1, x2⟩ | ⟨x1, x2, x3⟩
    all_goals
      go_wp2_with fail
      refine (WK.out _ (keeps_refl _)).mono ?_
      rintro e w9 ⟨rfl, k9⟩
      go_wp2_with fail
      go_ret
      exact ⟨rfl, k9⟩
  · obtain ⟨kn, rfl⟩ : ∃ kn : Nat, k = (kn : Int) := ⟨k.toNat, by omega⟩
    have b0 : (n : Int) ≤ 40 := by omega
    have b1 : ¬ (kn : Int) < 0 := by omega
    have b2 : ¬ (n : Int) ≤ (kn : Int) := by omega
    have LD := Lib.hid (laid_any K PK w hZ hS A n c rs h hn (by omega))
    obtain ⟨a, ha⟩ : ∃ a, x % 2017 = a := ⟨_, rfl⟩
    have hta : (x : Int).tmod 2017 = (a : Int) := by rw [Int.tmod_eq_emod_of_nonneg (by omega)]; omega
    have hta2 : (x : Int) % 2017 = (a : Int) := by omega
    have hab : (a : Int) ≤ 2016 := by omega
    have hxi : (x : Int) ≤ 65535 := by omega
    obtain ⟨m, hm⟩ : ∃ m, y ||| 1 = m := ⟨_, rfl⟩
    have hm32 : m < 4294967296 := by rw [← hm]; exact Nat.or_lt_two_pow (n := 32) hy (by decide)
    have hor : bits .or .u32 (y : Int) 1 = (m : Int) := by rw [← hm]; exact u32_or_nat y 1 hy (by decide)
    have HM0 := Lib.hid (show m.testBit 0 = true by rw [← hm, Nat.testBit_or]; simp)
    have hknn : kn < n := by omega
    obtain ⟨r0, hr0⟩ : ∃ r, rs[kn]? = some r := ⟨_, List.getElem?_eq_getElem (by omega)⟩
    have HP := Lib.hid (show (rowsL rs)[kn]? = some r0.l by rw [rowsL_get, hr0]; rfl)
    obtain ⟨o1, ho1⟩ : ∃ o : Nat, 256 * kn = o := ⟨_, rfl⟩
    have hmo : (256 : Int) * (kn : Int) = (o1 : Int) := by omega
    have hob : (o1 : Int) ≤ 20000 := by omega
    have HO1 := Lib.hid ho1
    have HM32 := Lib.hid hm32
    clear hZ hS h hn big hk hx hy ha hm hr0 hknn ho1
    go_enter Tryd.func5, Tryd.ntmps5
    go_wp2_with fail
    refine LD.out.mono ?_
    rintro e w1 (⟨b, f, F, fl, rfl, h1⟩ | ⟨rfl, k1⟩)
    rotate_left
    · go_wp2_with fail
      refine (WK.out _ k1).mono ?_
      rintro e w9 ⟨rfl, k9⟩
      go_wp2_with fail
      go_ret
      exact ⟨rfl, keeps_trans k1 k9⟩
    have H1 := Lib.hid h1
    have HPB := Lib.hid (h1.is.page kn r0.l HP.out).1
    have HPGL := Lib.hid (pageB_length tA kn HPB.out)
    have IX1 := Lib.hid (h1.is.isX HP.out)
    obtain ⟨pg, hpg⟩ : ∃ pg, pageB tA kn r0.l = pg := ⟨_, rfl⟩
    have HPG := Lib.hid hpg
    rw [hpg] at HPGL IX1
    clear h1 hpg
    go_wp2_with fail
    go_loopw [14] (fun i wr => ∃ (j : Nat) (F' : Nat → Prop) (fl' : Fl), j ≤ 32 ∧ i = .int .i64 j ∧ Hid (Have K w wr b F' (D1 fl')) ∧ Hid (PfAt wr f b [97]) ∧ Hid (¬ F' f) ∧ Hid (IsX fl' (rowsL rs) kn (turnC pg a m j))) (fun i _ => 32 - (intOf i).toNat)
    case atStart => exact ⟨0, F, fl, Nat.zero_le _, rfl, Lib.hid H1.out.h, Lib.hid H1.out.at_, Lib.hid H1.out.out, IX1⟩
    case round =>
      obtain ⟨j, F', fl', hj, rfl, HV, HFA, HNF, HIX⟩ := hrel
      by_cases hlt : j < 32
      · have hand := mask_bit m j HM32.out
        have hji : (j : Int) < 32 := by omega
        cases hb : m.testBit j with
        | false =>
          have hx : ¬ bits .and .u32 ((m : Int) / 2 ^ j) 1 = 1 := by rw [hand, hb]; decide
          have HT := Lib.hid (show turnC pg a m (j + 1) = turnC pg a m j by rw [turnC, if_neg (by rw [hb]; simp)])
          clear hand hb
          go_wp2_with fail
          go_roundw
          case rel => exact ⟨j + 1, F', fl', by omega, by go_num, HV, HFA, HNF, by rw [HT.out]; exact HIX⟩
          case measure => simp [intOf]; omega
        | true =>
          have hx : bits .and .u32 ((m : Int) / 2 ^ j) 1 = 1 := by rw [hand, hb]; rfl
          obtain ⟨pl, hpl⟩ : ∃ p : Nat, a + j = p := ⟨_, rfl⟩
          obtain ⟨q, hq⟩ : ∃ q : Nat, pl / 8 = q := ⟨_, rfl⟩
          obtain ⟨r, hr⟩ : ∃ r : Nat, pl % 8 = r := ⟨_, rfl⟩
          obtain ⟨off, hoff⟩ : ∃ o : Nat, o1 + q = o := ⟨_, rfl⟩
          obtain ⟨f2, hfl, hx2⟩ := HIX.out.turn (off := off) HPGL.out hb hpl (by omega) hq hr (by have := HO1.out; omega)
          have IX2 := Lib.hid hx2
          have hr8 : r < 8 := by rw [← hr]; exact Nat.mod_lt _ (by decide)
          have hp2 : (2 : Nat) ^ r < 256 := Nat.pow_lt_pow_right (by omega) hr8
          have em : (((UInt8.ofNat (2 ^ r)).toNat : Nat) : Int) = (2 : Int) ^ r % 256 := by
            rw [UInt8.toNat_ofNat', Nat.mod_eq_of_lt hp2]
            have e9 : ((2 : Int) ^ r) = ((2 ^ r : Nat) : Int) := by simp
            rw [e9]
            generalize (2 : Nat) ^ r = z at hp2 ⊢
            omega
          have FP := Lib.hid (HV.out.went hfl (K.flip [97] (off : Int) (UInt8.ofNat (2 ^ r)) (HV.out.z HZ.out) HV.out.D (by decide) (by omega) (by omega)))
          unfold dpt strV at FP
          rw [strA8, em] at FP
          have p1 : (a : Int) + (j : Int) = (pl : Int) := by omega
          have p2 : (pl : Int) / 8 = (q : Int) := by omega
          have p3 : (pl : Int) % 8 = (r : Int) := by omega
          have p4 : (o1 : Int) + (q : Int) = (off : Int) := by omega
          have p5 : (pl : Int) ≤ 2047 := by omega
          have p6 : (off : Int) ≤ 21000 := by omega
          have p7 : (q : Int) ≤ 255 := by omega
          have p8 : (r : Int) ≤ 7 := by omega
          have p9 : (pl : Int).tdiv 8 = (q : Int) := by rw [Int.tdiv_eq_ediv_of_nonneg (by omega)]; omega
          have p0 : (pl : Int).tmod 8 = (r : Int) := by rw [Int.tmod_eq_emod_of_nonneg (by omega)]; omega
          clear hand hb hfl hx2 hpl hq hr hoff hp2 hr8 em
          go_wp2_with fail
          refine FP.out.mono ?_
          rintro e w4 ⟨rfl, F4, h4, t4⟩
          obtain ⟨hf4, hn4⟩ := HFA.out.turn t4 HNF.out
          have H4 := Lib.hid h4
          have HF4 := Lib.hid hf4
          have HN4 := Lib.hid hn4
          have e1 : ((0 : Int) != 0) = false := rfl
          clear h4 t4 hf4 hn4
          go_wp2_with fail
          go_roundw
          case rel => exact ⟨j + 1, F4, f2, by omega, by go_num, H4, HF4, HN4, IX2⟩
          case measure => simp [intOf]; omega
      · obtain rfl : j = 32 := by omega
        have NO := Lib.hid (show ¬ IsPage (turnC pg a m 32) tA kn by rw [← HPG.out]; exact burst_not HPB.out (by omega) HM0.out tA kn)
        have BD := Lib.hid (pfBad_any PK HV.out HZ.out HS.out (nm := [97]) (by decide))
        rw [HIX.out.bad NO.out, strA8] at BD
        have e1 : ((0 : Int) != 0) = false := rfl
        have e7 : ((kn : Int) != (kn : Int)) = false := by simp
        clear hlt hj
        go_wp2_with fail
        refine BD.out.mono ?_
        rintro e w4 ⟨v4, rfl, o4, k4⟩
        obtain ⟨A4, c4, rfl, -⟩ := o4.form
        obtain ⟨g4, rfl, q4, -⟩ := o4.cell (j := 0) (by simp [intC])
        have q4' : w4.cell? ⟨g4, 0, none⟩ = some (.int .i64 (kn : Int)) := q4
        have H4 := Lib.hid (HV.out.keep k4)
        have HF4 := Lib.hid (HFA.out.keep k4)
        clear o4 k4 q4
        go_wp2_with fail
        go_loopw [19] (fun i wr => ∃ j : Nat, j ≤ n ∧ i = .int .i64 j ∧ Hid (Keeps w4 wr)) (fun i _ => n - (intOf i).toNat)
        case atStart => exact ⟨0, Nat.zero_le _, rfl, Lib.hid (keeps_refl _)⟩
        case round =>
          obtain ⟨j, hj, rfl, KR⟩ := hrel
          by_cases hlt : j < n
          · have hjn : (j : Int) < (n : Int) := by omega
            by_cases hjk : j = kn
            · subst hjk
              have heq : ((j : Int) == (j : Int)) = true := by simp
              have e77 : ((7 : Int) != 7) = false := rfl
              have RD := Lib.hid (pfRead_any PK (H4.out.keep KR.out) HZ.out HS.out (HF4.out.keep KR.out) (by decide) (j : Int) ⟨by omega, by omega⟩ (HIX.out.rot NO.out))
              clear hj hlt
              go_wp2_with fail
              refine RD.out.mono ?_
              rintro e w5 ⟨A5, c5, rfl, -, -, k5⟩
              have K5 := Lib.hid (keeps_trans KR.out k5)
              clear k5
              rw [show ([] : List UInt8).length = 0 from rfl]
              go_wp2_with fail
              go_roundw
              case rel => exact ⟨j + 1, by omega, by go_num, K5⟩
              case measure => simp [intOf]; omega
            · have hne : ((j : Int) == (kn : Int)) = false := by rw [beq_eq_false_iff_ne]; omega
              obtain ⟨r, hr⟩ : ∃ r, rs[j]? = some r := ⟨_, List.getElem?_eq_getElem (by have := HN.out; omega)⟩
              obtain ⟨ad, rfl, hc, g⟩ := (H.out.keep (keeps_trans H4.out.kp KR.out)).get hr
              have G := Lib.hid g
              have RD := Lib.hid (pfRead_any PK (H4.out.keep KR.out) HZ.out HS.out (HF4.out.keep KR.out) (by decide) (j : Int) ⟨by omega, by omega⟩ (HIX.out.read (p := r.l) (by rw [rowsL_get, hr]; rfl) hjk))
              clear hj hlt g hr
              go_wp2_with fail
              refine RD.out.mono ?_
              rintro e w5 ⟨A5, c5, rfl, -, o5, k5⟩
              have hc5 := k5.cellOf hc
              have EQ := Lib.hid (eq_same A5 r.l.length c5 r.l r.A r.n r.c w5 o5.at_ rfl (G.out.b.keep k5) G.out.len)
              have K5 := Lib.hid (keeps_trans KR.out k5)
              clear o5 k5 hc
              go_wp2_with fail
              refine EQ.out.mono ?_
              rintro e w6 ⟨rfl, rfl⟩
              go_wp2_with fail
              go_roundw
              case rel => exact ⟨j + 1, by omega, by go_num, K5⟩
              case measure => simp [intOf]; omega
          · obtain rfl : j = n := by omega
            have K9 := Lib.hid (keeps_trans H4.out.kp KR.out)
            clear hlt hj
            go_wp2_with fail
            refine (WK.out _ K9.out).mono ?_
            rintro e w9 ⟨rfl, k9⟩
            go_wp2_with fail
            go_ret
            exact ⟨rfl, keeps_trans K9.out k9⟩
end Go.Proofs.YtbpiiegjbcoapaaDoor
