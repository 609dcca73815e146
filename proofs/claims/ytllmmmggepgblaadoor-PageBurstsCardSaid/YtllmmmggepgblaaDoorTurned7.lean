/- What milepostlaw07.Turned answers. -/
import Derived.Test.YtllmmmggepgblaaDoorTurned
import Derived.Test.YtllmmmggepgblaaDoorRefA
namespace Go.Proofs.YtllmmmggepgblaaDoor
open Go.RowKit
set_option linter.unusedSimpArgs false
set_option linter.unusedVariables false
set_option maxRecDepth 100000

set_option maxHeartbeats 800000 in
theorem turned7_any (A : Option Addr) (n c : Nat) (l : List UInt8) (a m : Nat) (ha : a ≤ 1000000000) (hm : m < 4294967296) (w : World) (hB : Bs w A l) (hn : n = l.length) (hlen : n ≤ 1000000000) :
    Calls Tryd.prog 21 #[.slice A n c, .int .i64 a, .int .u32 m] w (New w (turnC l a m 32)) := by
  have C := Lib.hid (copyBytes_any A n c l w hB hn (by unfold maxLen; omega))
  subst hn
  clear hB
  go_enter Tryd.func21, Tryd.ntmps21
  go_wp2_with fail
  refine C.out.mono ?_
  rintro e w1 ⟨v1, rfl, o1, k1⟩
  obtain ⟨A1, c1, rfl, hc1, hm1, hA1, -⟩ := o1.form
  clear C
  go_wp2_with fail
  go_loopw [8] (fun i wr => ∃ k : Nat, k ≤ 32 ∧ i = .int .i64 k ∧ Own wr w.heap.size 5 1 (.slice A1 l.length c1) l.length (cel (turnC l a m k)) ∧ Keeps w wr) (fun i _ => 32 - (intOf i).toNat)
  case atStart => exact ⟨0, Nat.zero_le _, rfl, o1, k1⟩
  case round =>
    obtain ⟨k, hk, rfl, ho, hkp⟩ := hrel
    by_cases hlt : k < 32
    · have hand := mask_bit m k hm
      cases hb : m.testBit k with
      | false =>
        have hx : ¬ bits .and .u32 ((m : Int) / 2 ^ k) 1 = 1 := by rw [hand, hb]; decide
        have ht : turnC l a m (k + 1) = turnC l a m k := by rw [turnC, if_neg (by rw [hb]; simp)]
        have HO := Lib.hid ho
        have HT := Lib.hid ht
        clear ho o1 hand ht
        go_wp2_with fail
        go_roundw
        case rel => exact ⟨k + 1, by omega, by go_num, by rw [HT.out]; exact HO.out, hkp⟩
        case measure => simp [intOf]; omega
      | true =>
        have hx : bits .and .u32 ((m : Int) / 2 ^ k) 1 = 1 := by rw [hand, hb]; rfl
        by_cases hin : a + k < 8 * l.length
        · have hq : ((a : Int) + k) / 8 = (((a + k) / 8 : Nat) : Int) := by omega
          have hq2 : ((a : Int) + k) % 8 = (((a + k) % 8 : Nat) : Int) := by omega
          have hjl : (a + k) / 8 < l.length := by omega
          have hcl : (cel (turnC l a m k)).length = l.length := by rw [cel_length, turnC_length]
          obtain ⟨g, rfl, hc, hf, hgb⟩ := ho.cell (j := (a + k) / 8) (by rw [hcl]; exact hjl)
          rw [cel_get _ (by rw [turnC_length]; exact hjl)] at hc
          have ht : turnC l a m (k + 1) = (turnC l a m k).set ((a + k) / 8) ((turnC l a m k).getD ((a + k) / 8) 0 ^^^ UInt8.ofNat (2 ^ ((a + k) % 8))) := by rw [turnC, if_pos ⟨hb, hin⟩]
          have hr8 : (a + k) % 8 < 8 := Nat.mod_lt _ (by decide)
          have HO := Lib.hid ho
          have HT := Lib.hid ht
          have hin1 : (a : Int) + k < 8 * (l.length : Int) := by omega
          have hin0 : (0 : Int) ≤ (a : Int) + k := by omega
          clear ho o1 hand ht hin
          generalize (a + k) / 8 = q at *
          generalize (a + k) % 8 = r at *
          have hyb := ((turnC l a m k).getD q 0).toNat_lt
          go_wp2_with fail
          go_roundw
          case rel =>
            have hp : (2 : Nat) ^ r < 256 := Nat.pow_lt_pow_right (by omega) hr8
            have e2 : (UInt8.ofNat (2 ^ r)).toNat = 2 ^ r := by
              rw [UInt8.toNat_ofNat']
              exact Nat.mod_eq_of_lt hp
            have ec : ((2 : Int) ^ r % 256) = ((2 ^ r : Nat) : Int) := by
              have : ((2 : Int) ^ r) = ((2 ^ r : Nat) : Int) := by simp
              omega
            have hx8 := u8_xor_nat ((turnC l a m k).getD q 0).toNat (2 ^ r) hyb hp
            rw [← ec, ← e2, ← UInt8.toNat_xor] at hx8
            have hu : bits .xor .u8 (((turnC l a m k)[q]?.getD 0).toNat : Int) ((2 : Int) ^ r % 256) = (((turnC l a m k).getD q 0 ^^^ UInt8.ofNat (2 ^ r)).toNat : Int) := hx8
            rw [hu]
            refine ⟨k + 1, by omega, by go_num, ?_, Below.trans hkp ⟨rfl, rfl, rfl, by simp [World.setCell], fun j hj => Below.heap_setCell _ _ _ _ (by simp only; omega)⟩⟩
            rw [HT.out, cel_set]
            exact HO.out.store (by rw [hcl]; exact hjl) _
          case measure => simp [intOf]; omega
        · have hin' : 8 * (l.length : Int) ≤ (a : Int) + k := by omega
          have ht : turnC l a m (k + 1) = turnC l a m k := by rw [turnC, if_neg (fun e => hin e.2)]
          have HO := Lib.hid ho
          have HT := Lib.hid ht
          clear ho o1 hand ht
          go_wp2_with fail
          go_roundw
          case rel => exact ⟨k + 1, by omega, by go_num, by rw [HT.out]; exact HO.out, hkp⟩
          case measure => simp [intOf]; omega
    · have HO := Lib.hid ho
      clear ho o1
      go_wp2_with fail
      go_ret
      obtain rfl : k = 32 := by omega
      refine ⟨_, rfl, ?_, hkp⟩
      rw [turnC_length]
      exact HO.out
end Go.Proofs.YtllmmmggepgblaaDoor
