/- Package disk: names, and files by their names. -/
import Derived.Test.YtpbkkbkpodcgnaaDk1
namespace Go.Proofs.Ytpbkkbkpodcgnaa
open Go.RowKit
set_option linter.unusedSimpArgs false
set_option linter.unusedVariables false
set_option maxRecDepth 100000

theorem nameC_true {c : UInt8} (h : nameC c = true) : (97 ≤ (c.toNat : Int) ∧ (c.toNat : Int) ≤ 122) ∨ ((c.toNat : Int) < 97 ∧ 48 ≤ (c.toNat : Int) ∧ (c.toNat : Int) ≤ 57) ∨ ((c.toNat : Int) < 97 ∧ (c.toNat : Int) < 48 ∧ ((c.toNat : Int) == 46) = true) ∨ ((c.toNat : Int) < 97 ∧ (c.toNat : Int) < 48 ∧ ((c.toNat : Int) == 46) = false ∧ ((c.toNat : Int) == 45) = true) := by
  unfold nameC at h
  have h := of_decide_eq_true h
  simp only [beq_iff_eq, beq_eq_false_iff_ne]
  omega
theorem nameC_false {c : UInt8} (h : nameC c = false) : ((c.toNat : Int) < 97 ∧ (c.toNat : Int) < 48 ∧ ((c.toNat : Int) == 46) = false ∧ ((c.toNat : Int) == 45) = false) ∨ ((c.toNat : Int) < 97 ∧ 48 ≤ (c.toNat : Int) ∧ decide ((c.toNat : Int) ≤ 57) = false ∧ ((c.toNat : Int) == 46) = false ∧ ((c.toNat : Int) == 45) = false) ∨ (97 ≤ (c.toNat : Int) ∧ decide ((c.toNat : Int) ≤ 122) = false ∧ 48 ≤ (c.toNat : Int) ∧ decide ((c.toNat : Int) ≤ 57) = false ∧ ((c.toNat : Int) == 46) = false ∧ ((c.toNat : Int) == 45) = false) := by
  unfold nameC at h
  have h := of_decide_eq_false h
  simp only [beq_iff_eq, beq_eq_false_iff_ne, decide_eq_false_iff_not]
  omega
set_option maxHeartbeats 4000000 in
theorem isName_any (l : List UInt8) (hmax : l.length ≤ 9223372036854775807) (w : World) : Calls Try.prog 58 #[.string (str l)] w fun e w' => e = .returned (.bool (nameOk l)) ∧ w = w' := by
  obtain ⟨RR, hRR⟩ : ∃ RR, nameOk l = RR := ⟨_, rfl⟩
  rw [hRR]
  have HRR := Lib.hid hRR
  obtain ⟨n, hn⟩ : ∃ n, n = l.length := ⟨_, rfl⟩
  have HN := Lib.hid hn
  have hsz : (str l).size = n := by rw [str_size, hn]
  have IX := Lib.hid (fun (j : Nat) (h : j < l.length) (h2 : j < (str l).size) => show ((str l)[j]'h2) = l.getD j 0 by simp [str, ByteArray.getElem_eq_getElem_data, List.getD, h])
  rw [← hn] at hmax
  clear hn hRR
  generalize str l = s at *
  go_enter Try.func58, Try.ntmps58
  go_wp2_with fail
  go_loopw [7] (fun i wr => ∃ j : Nat, j ≤ n ∧ i = .int .i64 j ∧ (l.take j).all nameC = true ∧ w = wr) (fun i _ => n - (intOf i).toNat)
  case atStart => exact ⟨0, Nat.zero_le _, rfl, rfl, rfl⟩
  case round =>
    obtain ⟨j, hj, rfl, hpre, rfl⟩ := hrel
    have HP := Lib.hid hpre
    clear hpre
    by_cases hlt : j < n
    · have hl1 : j < l.length := by have := HN.out; omega
      have hjs : j < s.size := by rw [hsz]; exact hlt
      have hjn : (j : Int) < (n : Int) := by omega
      have hx : s[j]'hjs = l.getD j 0 := IX.out j hl1 hjs
      have G := Lib.hid (show l[j]? = some (l.getD j 0) by simp [List.getD, hl1])
      generalize l.getD j 0 = c at *
      cases hc : nameC c with
      | true =>
        have PN := Lib.hid (show (l.take (j + 1)).all nameC = true by
          rw [List.take_add_one, List.all_append, HP.out, G.out]
          simp [hc])
        rcases nameC_true hc with ⟨h1, h2⟩ | ⟨h1, h2, h3⟩ | ⟨h1, h2, h3⟩ | ⟨h1, h2, h3, h4⟩
        all_goals
          clear hl1 hc
          go_wp2_with fail
        all_goals
          exact ⟨⟨j + 1, by omega, by go_num, PN.out, trivial⟩, by simp [intOf]; omega⟩
      | false =>
        have NO := Lib.hid (show RR = false by
          rw [← HRR.out]
          unfold nameOk
          rw [Bool.and_eq_false_iff]
          right
          rw [List.all_eq_false]
          exact ⟨c, List.mem_of_getElem? G.out, by rw [hc]; simp⟩)
        rcases nameC_false hc with ⟨h1, h2, h3, h4⟩ | ⟨h1, h2, h3, h4, h5⟩ | ⟨h1, h2, h3, h4, h5, h6⟩
        all_goals
          clear hl1 hc
          go_wp2_with fail
          go_ret
          exact ⟨by rw [NO.out]; rfl, rfl⟩
    · obtain rfl : j = n := by omega
      have HA : l.all nameC = true := by
        have := HP.out
        rwa [HN.out, List.take_length] at this
      have YES := Lib.hid (show RR = decide (1 ≤ l.length ∧ l.length ≤ 24) by
        rw [← HRR.out]
        unfold nameOk
        rw [HA, Bool.and_true])
      by_cases h1 : 1 ≤ j
      · by_cases h2 : j ≤ 24
        · have Y2 := Lib.hid (show RR = true by rw [YES.out]; exact decide_eq_true (by rw [← HN.out]; exact ⟨h1, h2⟩))
          have q1 : (1 : Int) ≤ (j : Int) := by omega
          have q2 : (j : Int) ≤ 24 := by omega
          clear hlt hj HA h1 h2
          go_wp2_with fail
          go_ret
          exact ⟨by rw [Y2.out]; rfl, rfl⟩
        · have Y2 := Lib.hid (show RR = false by rw [YES.out]; exact decide_eq_false (by rw [← HN.out]; exact fun h => h2 h.2))
          have q1 : (1 : Int) ≤ (j : Int) := by omega
          have q2 : decide ((j : Int) ≤ 24) = false := decide_eq_false (by omega)
          clear hlt hj HA h1 h2
          go_wp2_with fail
          go_ret
          exact ⟨by rw [Y2.out]; simp [q2], rfl⟩
      · have Y2 := Lib.hid (show RR = false by rw [YES.out]; exact decide_eq_false (by rw [← HN.out]; exact fun h => h1 h.1))
        obtain rfl : j = 0 := by omega
        clear hlt hj HA h1
        go_wp2_with fail
        go_ret
        exact ⟨by rw [Y2.out]; rfl, rfl⟩
end Go.Proofs.Ytpbkkbkpodcgnaa
