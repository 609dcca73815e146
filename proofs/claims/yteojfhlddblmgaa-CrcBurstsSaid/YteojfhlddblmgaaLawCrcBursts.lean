/- The walk of CrcBursts, from the contracts of crc.Extend and crc.Sum. -/
import Derived.Test.YteojfhlddblmgaaLawCrc
namespace Go.Proofs.Yteojfhlddblmgaa
open Go.RowKit
set_option linter.unusedSimpArgs false
set_option linter.unusedVariables false

theorem turn_place (z : Int) (n : Nat) (hn : 0 < n) : ∃ a : Nat, a < n ∧ (z.tmod n + n).tmod n = (a : Int) := by
  have h1 : -(n : Int) < z.tmod n := by
    have := Int.lt_tmod_of_pos z (b := (n : Int)) (by omega)
    omega
  have h2 : 0 ≤ z.tmod n + n := by omega
  rw [Int.tmod_eq_emod_of_nonneg h2]
  have h3 := Int.emod_nonneg (z.tmod n + n) (b := (n : Int)) (by omega)
  have h4 := Int.emod_lt_of_pos (z.tmod n + n) (b := (n : Int)) (by omega)
  exact ⟨((z.tmod n + n) % n).toNat, by omega, by omega⟩

theorem join_byte (X y : Nat) (hX : X < 16777216) (hy : y < 256) : bits .or .u32 ((X : Int) * 256) (y : Int) = ((y + 256 * X : Nat) : Int) := by
  have e : ((X : Int) * 256) = ((X * 256 : Nat) : Int) := by omega
  rw [e, u32_or_nat (X * 256) y (by omega) (by omega)]
  congr 1
  have h : 256 * X + y = 256 * X ||| y := Nat.two_pow_add_eq_or_of_lt (i := 8) hy X
  rw [Nat.mul_comm X 256, ← h]
  omega

set_option maxRecDepth 100000 in
set_option maxHeartbeats 4000000 in
theorem bursts_walk (K : CrcOk) (A : Option Addr) (n c : Nat) (l : List UInt8) (z : Int) (hz1 : -9223372036854775808 ≤ z) (hz2 : z ≤ 9223372036854775807) (m : Nat) (hm : m < 4294967296) (w : World) (hB : Bs w A l) (hn : n = l.length) (hc : n ≤ c) (hlen : n ≤ maxLen) :
    Calls Try.prog 5 #[.slice A n c, .int .i64 z, .int .u32 m] w (Yes w) := by
  unfold maxLen at hlen
  by_cases h : (8192 : Int) < n
  · have W := Lib.hid (works_crc K w)
    clear hn hB
    go_enter Try.func5, Try.ntmps5
    go_wp2_with (go_at_call 9; refine W.out.mono ?_; rintro e w1 ⟨rfl, k1⟩)
    go_ret
    exact ⟨rfl, k1⟩
  · have hmx : n ≤ 8192 := by omega
    obtain ⟨i0, hi, hy0, hy1, hy2⟩ := info_parts infoC_u8
    obtain ⟨a, ha, hat⟩ := turn_place z (8 * (n + 4)) (by omega)
    have hat' : (z.tmod (8 * ((n : Int) + 4)) + 8 * ((n : Int) + 4)).tmod (8 * ((n : Int) + 4)) = (a : Int) := by
      have e : ((8 * (n + 4) : Nat) : Int) = 8 * ((n : Int) + 4) := by omega
      rw [e] at hat
      exact hat
    have hN0 : 8 * ((n : Int) + 4) ≠ 0 := by omega
    have hN1 := Int.lt_tmod_of_pos z (b := 8 * ((n : Int) + 4)) (by omega)
    have hN2 := Int.tmod_lt_of_pos z (b := 8 * ((n : Int) + 4)) (by omega)
    have HN := Lib.hid hn
    clear hn hat
    go_enter Try.func5, Try.ntmps5
    go_wp2_with fail
    refine (turned_any A n c l a m (by omega) hm w hB HN.out (by omega)).mono ?_
    rintro e w1 ⟨v1, rfl, o1, k1⟩
    have o1' : Own w1 w.heap.size 5 1 v1 n (cel (turnC l a m 32)) := by rw [turnC_length, ← HN.out] at o1; exact o1
    obtain ⟨A1, c1, rfl, hc1, -, -, -⟩ := o1'.form
    have B1 : Bs w1 A1 (turnC l a m 32) := Own.at_ o1'
    have hT : n = (turnC l a m 32).length := by rw [turnC_length]; exact HN.out
    have hdiff : l ≠ turnC l a m 32 → extC 0 (turnC l a m 32) ≠ extC 0 l := extC_burst 0 l a m
    have HD := Lib.hid hdiff
    have HT := Lib.hid hT
    clear o1 o1' hat' hN0 hN1 hN2 hdiff hT
    generalize turnC l a m 32 = T at *
    go_wp2_with fail
    refine (eqBytes_any A n c l A1 n c1 T w1 (hB.keep k1) HN.out B1 HT.out).mono ?_
    rintro e w' ⟨rfl, rfl⟩
    have HK := Lib.hid (fun W (k : Keeps w W) => copyBytes_any A n c l W (hB.keep k) HN.out (by unfold maxLen; omega))
    have HS := Lib.hid (fun W (k : Keeps w W) => K.sum A n c l W (hB.keep k) HN.out hc (by omega))
    by_cases he : l = T
    all_goals first
      | (have hh : l = T := he
         simp only [decide_eq_true hh]
         clear hh
         go_wp2_with fail)
      | (have hh : ¬ l = T := he
         simp only [decide_eq_false hh]
         go_wp2_with fail
         refine (HS.out _ k1).mono ?_
         rintro e w2 ⟨rfl, k2⟩
         go_wp2_with fail
         refine (K.sum A1 n c1 T w2 (B1.keep k2) HT.out hc1 (by omega)).mono ?_
         rintro e w3 ⟨rfl, k3⟩
         have hne : ¬ ((extC 0 l : Nat) : Int) = (extC 0 T : Int) := fun e => HD.out hh (by omega)
         replace k1 := keeps_trans k1 (keeps_trans k2 k3)
         clear hh
         generalize extC 0 T = sT at *
         go_wp2_with fail)
    all_goals
      clear HD B1 he
      refine (HK.out _ k1).mono ?_
      rintro e u1 ⟨y1, rfl, p1, j1⟩
      have hb0 := k1.size
      replace k1 := keeps_trans k1 j1
      go_wp2_with fail
      refine (HS.out _ k1).mono ?_
      rintro e u2 ⟨rfl, j2⟩
      replace k1 := keeps_trans k1 j2
      have P1 := Lib.hid ((p1.base_le hb0).keep j2)
      have hs := extC_lt (s := 0) (by decide) l
      have HTold := Lib.hid (extC_told l a m)
      clear p1 HS HK
      generalize extC 0 l = s at *
      have hll : l.length ≤ 8192 := by rw [← HN.out]; exact hmx
      go_wp2_with fail
      go_loopw [9, 11] (fun v' i wr => ∃ k : Nat, k ≤ 4 ∧ i = .int .i64 k ∧ Own wr w.heap.size 5 1 v' (l.length + k) (cel (l ++ nb k s)) ∧ Keeps w wr) (fun _ i _ => 4 - (intOf i).toNat)
      case atStart => exact ⟨0, Nat.zero_le _, rfl, by simpa [nb] using P1.out, k1⟩
      case round =>
        obtain ⟨k, hk, rfl, hr, hkp⟩ := hrel
        by_cases hlt : k < 4
        · have hbase' : w.heap.size ≤ wr.heap.size := hkp.size
          go_wp2_with (at_builtin; refine wpList_app _ rfl _ _ 23 rfl w.heap.size 5 i0 (.int .u8 0) 1 1 Try.underlying23 hi hy0 hy1 hy2 rfl (by decide) _ _ _ rfl (hr.keep (keeps_alloc _ _)) (wr.heap.size + 1) _ 1 1 [.int .u8 ((s : Int) / 2 ^ (8 * k) % 256)] rfl rfl (At.new _ _ _ _ (by omega)) (fun u hu => by simp at hu; subst hu; rfl) (by unfold maxLen; omega) (by omega) (by simp; omega) ?_)
          intro v' w3 hown' hgrow hblk
          have hkp' : Keeps w w3 := Below.grown (keeps_trans hkp (keeps_alloc _ _)) hgrow (keeps_trans hkp (keeps_alloc _ _)).size (fun g hg => (hr.lt g hg).1)
          have e : cel (l ++ nb k s) ++ [.int .u8 ((s : Int) / 2 ^ (8 * k) % 256)] = cel (l ++ nb (k + 1) s) := by
            rw [nb_succ, ← List.append_assoc, cel_append (l ++ nb k s), byteC]
            rfl
          rw [e, Nat.add_assoc] at hown'
          clear e hgrow hblk hr
          go_wp2_with fail
          go_roundw
          case rel => exact ⟨k + 1, by omega, by go_num, hown', hkp'⟩
          case measure => simp [intOf]; omega
        · obtain rfl : k = 4 := by omega
          obtain ⟨A3, c3, rfl, hc3, -, -, -⟩ := hr.form
          have B3 : Bs wr A3 (l ++ nb 4 s) := Own.at_ hr
          have h4 : l.length + 4 = (l ++ nb 4 s).length := by rw [List.length_append, nb_length]
          clear hr
          go_wp2_with fail
          refine (turned_any A3 (l.length + 4) c3 (l ++ nb 4 s) a m (by omega) hm wr B3 h4 (by omega)).mono ?_
          rintro e w5 ⟨v5, rfl, o5, k5⟩
          have o5' : Own w5 wr.heap.size 5 1 v5 (l.length + 4) (cel (turnC (l ++ nb 4 s) a m 32)) := by rw [turnC_length, ← h4] at o5; exact o5
          have h5 : (turnC (l ++ nb 4 s) a m 32).length = l.length + 4 := by rw [turnC_length, ← h4]
          obtain ⟨A5, c5, rfl, hc5, -, -, -⟩ := o5'.form
          have B5 : Bs w5 A5 (turnC (l ++ nb 4 s) a m 32) := Own.at_ o5'
          have H5 := Lib.hid h5
          clear o5 o5' h5
          generalize turnC (l ++ nb 4 s) a m 32 = D at *
          replace hkp := keeps_trans hkp k5
          go_wp2_with fail
          refine (eqBytes_any A3 (l.length + 4) c3 (l ++ nb 4 s) A5 (l.length + 4) c5 D w5 (B3.keep k5) h4 B5 H5.out.symm).mono ?_
          rintro e w' ⟨rfl, rfl⟩
          by_cases hd : l ++ nb 4 s = D
          · simp only [decide_eq_true hd]
            go_wp2_with fail
            refine (works_crc K _).mono ?_
            rintro e w6 ⟨rfl, k6⟩
            go_wp2_with fail
            go_ret
            exact ⟨rfl, keeps_trans hkp k6⟩
          · simp only [decide_eq_false hd]
            have HX := Lib.hid (HTold.out hd)
            clear hd h4 B3
            go_wp2_with fail
            have HN2 := Lib.hid (show l.length = n from HN.out.symm)
            rw [HN2.out] at H5 HX
            have hDn : ∃ ad, A5 = some ad := B5.some_ (by rw [H5.out]; omega)
            obtain ⟨ad5, rfl⟩ := hDn
            go_loop [13, 14] (fun x i => ∃ k : Nat, k ≤ 4 ∧ i = .int .i64 ((k : Int) - 1) ∧ x = .int .u32 (le (D.drop (n + k)))) (fun _ i => ((intOf i) + 1).toNat)
            case atStart => exact ⟨4, Nat.le_refl _, rfl, by rw [List.drop_of_length_le (by rw [H5.out]; omega)]; rfl⟩
            case round =>
              obtain ⟨k, hk, rfl, rfl⟩ := hrel
              rcases k with _ | k
              · simp only [Nat.add_zero] at *
                have hn5 : n ≤ c5 := by have := HN2.out; omega
                have hcn : (n : Int) ≤ c5 := by omega
                go_wp2_with fail
                refine (K.sum (some ad5) n c5 (D.take n) w5 (B5.take n) (by rw [List.length_take, H5.out]; omega) (by omega) (by omega)).mono ?_
                rintro e w6 ⟨rfl, k6⟩
                have hne : (((extC 0 (D.take n) : Nat) : Int) != (le (D.drop n) : Int)) = true := bne_iff_ne.2 (fun e => HX.out (by omega))
                generalize extC 0 (D.take n) = p at *
                generalize le (D.drop n) = q at *
                go_wp2_with fail
                refine (works_crc K _).mono ?_
                rintro e w7 ⟨rfl, k7⟩
                go_wp2_with fail
                go_ret
                exact ⟨rfl, keeps_trans hkp (keeps_trans k6 k7)⟩
              · have hlt : n + k < D.length := by rw [H5.out]; omega
                have hst : le (D.drop (n + k)) = (D.getD (n + k) 0).toNat + 256 * le (D.drop (n + (k + 1))) := by
                  rw [List.drop_eq_getElem_cons hlt, getD_lt D hlt]
                  rfl
                have hX : le (D.drop (n + (k + 1))) < 16777216 := by
                  have h1 := le_lt (D.drop (n + (k + 1)))
                  have h2 : (D.drop (n + (k + 1))).length ≤ 3 := by rw [List.length_drop, H5.out]; omega
                  have h3 : 256 ^ (D.drop (n + (k + 1))).length ≤ 256 ^ 3 := Nat.pow_le_pow_right (by decide) h2
                  omega
                obtain ⟨ad', e', hcell⟩ := B5.at_ hlt
                obtain rfl := Option.some.inj e'
                have hbyte := (D.getD (n + k) 0).toNat_lt
                have HSt := Lib.hid hst
                have hidx2 : (n : Int) + k < (l.length : Int) + ((nb 4 s).length : Int) := by rw [nb_length, HN2.out]; omega
                have hidx : (n : Int) + k < (l.length : Int) + 4 := by rw [HN2.out]; omega
                clear hst e' hlt
                generalize le (D.drop (n + (k + 1))) = X at *
                generalize (D.getD (n + k) 0).toNat = y at *
                rw [show (((k + 1 : Nat) : Int) - 1) = (k : Int) by omega]
                go_wp2
                go_round
                case rel =>
                  refine ⟨k, by omega, rfl, ?_⟩
                  rw [HSt.out]
                  exact congrArg (Value.int .u32) (join_byte X y hX (by omega))
                case measure => simp [intOf]
end Go.Proofs.Yteojfhlddblmgaa
