/- The contracts of package milepostref02: CRC-32C bit by bit. -/
import Derived.Test.YtiohijkelagloaaDoorProg
import Derived.Test.YtiohijkelagloaaDoorQCrcMath
import Derived.Laws.BitsAllLaws
namespace Go.Proofs.YtiohijkelagloaaDoor
open Go.RowKit
set_option linter.unusedSimpArgs false
set_option linter.unusedVariables false
set_option maxRecDepth 100000

theorem st_odd {x : Nat} (h : x % 2 = 1) : st x = (x / 2) ^^^ 2197175160 := by unfold st; rw [if_pos h]; rfl
theorem st_evn {x : Nat} (h : ¬ x % 2 = 1) : st x = x / 2 := by unfold st; rw [if_neg h, Nat.xor_zero]

set_option maxHeartbeats 400000 in
theorem refExtend_any (s : Nat) (hs : s < 4294967296) (A : Option Addr) (n c : Nat) (l : List UInt8) (w : World) (hB : Bs w A l) (hn : n = l.length) (hlen : n ≤ 9223372036854775000) :
    Calls Tryd.prog 70 #[.int .u32 s, .slice A n c] w fun e w' => e = .returned (.int .u32 (extC s l)) ∧ w = w' := by
  subst hn
  have HB := Lib.hid hB
  clear hB
  go_enter Tryd.func70, Tryd.ntmps70
  go_wp2
  go_loop [5, 6] (fun x i => ∃ k : Nat, k ≤ l.length ∧ i = .int .i64 k ∧ x = .int .u32 (runC (s ^^^ 4294967295) (l.take k))) (fun _ i => l.length - (intOf i).toNat)
  case atStart => exact ⟨0, Nat.zero_le _, rfl, congrArg (Value.int .u32) (u32_xor_nat s 4294967295 hs (by decide))⟩
  case round =>
    obtain ⟨k, hk, rfl, rfl⟩ := hrel
    have hR := runC_lt (not_lt hs) (l.take k)
    by_cases hlt : k < l.length
    · obtain ⟨ad, rfl, hc⟩ := HB.out.at_ hlt
      have hstep : runC (s ^^^ 4294967295) (l.take (k + 1)) = sts 8 (runC (s ^^^ 4294967295) (l.take k) ^^^ (l.getD k 0).toNat) := by
        rw [List.take_succ_eq_append_getElem hlt, runC_append, getD_lt l hlt]
        rfl
      have hY : runC (s ^^^ 4294967295) (l.take k) ^^^ (l.getD k 0).toNat < 4294967296 := Nat.xor_lt_two_pow (n := 32) hR (byte_lt _)
      have HS := Lib.hid hstep
      have hb := (l.getD k 0).toNat_lt
      clear hstep
      generalize runC (s ^^^ 4294967295) (l.take k) = X at *
      generalize (l.getD k 0).toNat = y at *
      have hxy := u32_xor_nat X y hR (by omega)
      go_wp2
      go_loop [5, 7] (fun x i => ∃ j : Nat, j ≤ 8 ∧ i = .int .i64 j ∧ x = .int .u32 (sts j (X ^^^ y))) (fun _ i => 8 - (intOf i).toNat)
      case atStart => exact ⟨0, by omega, rfl, rfl⟩
      case round =>
        obtain ⟨j, hj, rfl, rfl⟩ := hrel
        have hZ := sts_lt j hY
        have hZs := sts_succ j (X ^^^ y)
        have hZ8 : j = 8 → sts j (X ^^^ y) = sts 8 (X ^^^ y) := fun e => by rw [e]
        have H8 := Lib.hid hZ8
        have HZ := Lib.hid hZs
        clear hZ8 hZs
        generalize sts j (X ^^^ y) = Z at *
        by_cases hj8 : j < 8
        · by_cases ho : Z % 2 = 1
          · have ho' : (Z : Int) % 2 = 1 := by omega
            have hx2 := u32_xor_nat (Z / 2) 2197175160 (by omega) (by omega)
            rw [st_odd ho] at HZ
            clear ho
            go_wp2
            go_round
            case rel =>
              refine ⟨j + 1, by omega, by go_num, ?_⟩
              rw [HZ.out]
              exact congrArg (Value.int .u32) hx2
            case measure => simp [intOf]; omega
          · have ho' : (Z : Int) % 2 = 0 := by omega
            rw [st_evn ho] at HZ
            clear ho
            go_wp2
            go_round
            case rel =>
              refine ⟨j + 1, by omega, by go_num, ?_⟩
              rw [HZ.out]
              rfl
            case measure => simp [intOf]; omega
        · go_wp2
          go_round
          case rel =>
            obtain rfl : j = 8 := by omega
            exact ⟨k + 1, by omega, by go_num, by rw [HS.out, ← H8.out rfl]⟩
          case measure => simp [intOf]; omega
    · go_wp2
      go_ret
      have e := u32_xor_nat _ 4294967295 hR (by decide)
      refine ⟨?_, rfl⟩
      obtain rfl : k = l.length := by omega
      rw [List.take_length] at e
      simp only [List.take_length]
      exact congrArg (fun z => Ending.returned (Value.int .u32 z)) e

theorem refSum_any (A : Option Addr) (n c : Nat) (l : List UInt8) (w : World) (hB : Bs w A l) (hn : n = l.length) (hlen : n ≤ 9223372036854775000) :
    Calls Tryd.prog 60 #[.slice A n c] w fun e w' => e = .returned (.int .u32 (extC 0 l)) ∧ w = w' := by
  have E := Lib.hid (refExtend_any 0 (by decide) A n c l w hB hn hlen)
  clear hB hn
  go_enter Tryd.func60, Tryd.ntmps60
  go_wp2_with (go_at_call 70; refine E.out.mono ?_; rintro e w' ⟨rfl, rfl⟩)
  go_ret
  exact ⟨rfl, rfl⟩
end Go.Proofs.YtiohijkelagloaaDoor
