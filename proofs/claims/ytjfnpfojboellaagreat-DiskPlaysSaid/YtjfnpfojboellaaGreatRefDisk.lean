/- milepostref06: the small functions (for DiskPlays). -/
import Derived.Test.YtjfnpfojboellaaGreatDkA
import Derived.Test.YtjfnpfojboellaaGreatLawDisk3
namespace Go.Proofs.YtjfnpfojboellaaGreat
open Go.RowKit
set_option linter.unusedSimpArgs false
set_option linter.unusedVariables false
set_option maxRecDepth 100000

theorem contains_takeR (l : List Int) (x : Int) (j : Nat) (h : (l.take j).contains x = false) (y : Int) (hy : l[j]? = some y) : (l.take (j + 1)).contains x = decide (y = x) := by
  rw [List.take_add_one, hy]
  simp only [Option.toList_some]
  rw [List.contains_append, h]
  simp
  constructor
  · intro e; exact e.symm
  · intro e; exact e.symm
theorem refSectors_any (n : Nat) (hn : n ≤ 1000000000) (w : World) : Calls Tryz.prog 70 #[.int .i64 (n : Int)] w fun e w' => e = .returned (.int .i64 (sect n : Int)) ∧ w = w' := by
  have e : (sect n : Int) = ((n : Int) + 64 - 1) / 64 := by unfold sect; omega
  have hq : Int.tdiv ((n : Int) + 64 - 1) 64 = ((n : Int) + 64 - 1) / 64 := Int.tdiv_eq_ediv_of_nonneg (by omega)
  rw [e]
  clear e
  go_enter Tryz.func70, Tryz.ntmps70
  go_wp2_with fail
  go_ret
  exact ⟨by first | rfl | (simp only [hq]) | (congr 2; rw [hq]) | (congr 2; unfold wrap64; omega), rfl⟩
set_option maxHeartbeats 4000000 in
theorem refName_any (l : List UInt8) (hmax : l.length ≤ 9223372036854775807) (w : World) : Calls Tryz.prog 66 #[.string (str l)] w fun e w' => e = .returned (.bool (nameOk l)) ∧ w = w' := by
  obtain ⟨RR, hRR⟩ : ∃ RR, nameOk l = RR := ⟨_, rfl⟩
  rw [hRR]
  have HRR := Lib.hid hRR
  obtain ⟨n, hn⟩ : ∃ n, n = l.length := ⟨_, rfl⟩
  have HN := Lib.hid hn
  have hsz : (str l).size = n := by rw [str_size, hn]
  have IX := Lib.hid (fun (j : Nat) (h : j < l.length) (h2 : j < (str l).size) => show ((str l)[j]'h2) = l.getD j 0 by simp [str, ByteArray.getElem_eq_getElem_data, List.getD, h])
  rw [← hn] at hmax
  clear hn hRR
  generalize str l = s at *
  go_enter Tryz.func66, Tryz.ntmps66
  go_wp2_with fail
  go_loopw [3] (fun i wr => ∃ j : Nat, j ≤ n ∧ i = .int .i64 j ∧ (l.take j).all nameC = true ∧ w = wr) (fun i _ => n - (intOf i).toNat)
  case atStart => exact ⟨0, Nat.zero_le _, rfl, rfl, rfl⟩
  case round =>
    obtain ⟨j, hj, rfl, hpre, rfl⟩ := hrel
    have HP := Lib.hid hpre
    clear hpre
    by_cases hlt : j < n
    · have hl1 : j < l.length := by have := HN.out; omega
      have hjs : j < s.size := by rw [hsz]; exact hlt
      have hjn : (j : Int) < (n : Int) := by omega
      have hx : s[j]'hjs = l.getD j 0 := IX.out j hl1 hjs
      have G := Lib.hid (show l[j]? = some (l.getD j 0) by simp [List.getD, hl1])
      generalize l.getD j 0 = c at *
      cases hc : nameC c with
      | true =>
        have PN := Lib.hid (show (l.take (j + 1)).all nameC = true by
          rw [List.take_add_one, List.all_append, HP.out, G.out]
          simp [hc])
        rcases nameC_true hc with ⟨h1, h2⟩ | ⟨h1, h2, h3⟩ | ⟨h1, h2, h3⟩ | ⟨h1, h2, h3, h4⟩
        all_goals
          clear hl1 hc
          go_wp2_with fail
        all_goals
          exact ⟨⟨j + 1, by omega, by go_num, PN.out, trivial⟩, by simp [intOf]; omega⟩
      | false =>
        have NO := Lib.hid (show RR = false by
          rw [← HRR.out]
          unfold nameOk
          rw [Bool.and_eq_false_iff]
          right
          rw [List.all_eq_false]
          exact ⟨c, List.mem_of_getElem? G.out, by rw [hc]; simp⟩)
        rcases nameC_false hc with ⟨h1, h2, h3, h4⟩ | ⟨h1, h2, h3, h4, h5⟩ | ⟨h1, h2, h3, h4, h5, h6⟩
        all_goals
          clear hl1 hc
          go_wp2_with fail
          go_ret
          exact ⟨by rw [NO.out]; rfl, rfl⟩
    · obtain rfl : j = n := by omega
      have HA : l.all nameC = true := by
        have := HP.out
        rwa [HN.out, List.take_length] at this
      have YES := Lib.hid (show RR = decide (1 ≤ l.length ∧ l.length ≤ 24) by
        rw [← HRR.out]
        unfold nameOk
        rw [HA, Bool.and_true])
      by_cases h1 : 1 ≤ j
      · by_cases h2 : j ≤ 24
        · have Y2 := Lib.hid (show RR = true by rw [YES.out]; exact decide_eq_true (by rw [← HN.out]; exact ⟨h1, h2⟩))
          have q1 : (1 : Int) ≤ (j : Int) := by omega
          have q2 : (j : Int) ≤ 24 := by omega
          clear hlt hj HA h1 h2
          go_wp2_with fail
          go_ret
          exact ⟨by rw [Y2.out]; rfl, rfl⟩
        · have Y2 := Lib.hid (show RR = false by rw [YES.out]; exact decide_eq_false (by rw [← HN.out]; exact fun h => h2 h.2))
          have q1 : (1 : Int) ≤ (j : Int) := by omega
          have q2 : decide ((j : Int) ≤ 24) = false := decide_eq_false (by omega)
          clear hlt hj HA h1 h2
          go_wp2_with fail
          go_ret
          exact ⟨by rw [Y2.out]; simp [q2], rfl⟩
      · have Y2 := Lib.hid (show RR = false by rw [YES.out]; exact decide_eq_false (by rw [← HN.out]; exact fun h => h1 h.1))
        obtain rfl : j = 0 := by omega
        clear hlt hj HA h1
        go_wp2_with fail
        go_ret
        exact ⟨by rw [Y2.out]; rfl, rfl⟩
end Go.Proofs.YtjfnpfojboellaaGreat
/- Package disk: its two maps. -/
namespace Go.Proofs.YtjfnpfojboellaaGreat
open Go.RowKit
set_option maxHeartbeats 8000000 in
theorem refHas_any (A : Option Addr) (n c : Nat) (l : List Int) (x : Int) (w : World) (hB : At w w.heap.size A (intC l)) (hn : n = l.length) (hmax : n ≤ 9223372036854775000) :
    Calls Tryz.prog 71 #[.slice A n c, .int .i64 x] w fun e w' => e = .returned (.bool (l.contains x)) ∧ w = w' := by
  have HN := Lib.hid hn
  have HB := Lib.hid hB
  obtain ⟨RR, hRR⟩ : ∃ RR, l.contains x = RR := ⟨_, rfl⟩
  rw [hRR]
  have HRR := Lib.hid hRR
  clear hn hB hRR
  go_enter Tryz.func71, Tryz.ntmps71
  go_wp2_with fail
  go_loopw [5] (fun i wr => ∃ j : Nat, j ≤ n ∧ i = .int .i64 j ∧ (l.take j).contains x = false ∧ w = wr) (fun i _ => n - (intOf i).toNat)
  case atStart => exact ⟨0, Nat.zero_le _, rfl, rfl, rfl⟩
  case round =>
    obtain ⟨j, hj, rfl, hpre, rfl⟩ := hrel
    have HP := Lib.hid hpre
    clear hpre
    by_cases hlt : j < n
    · obtain ⟨y, hy⟩ : ∃ y, l[j]? = some y := ⟨_, List.getElem?_eq_getElem (by have := HN.out; omega)⟩
      obtain ⟨ad, rfl, -, hc⟩ := At.get HB.out (k := j) (by rw [intC_length]; have := HN.out; omega)
      have hc' : w.cell? (ad.add j) = some (.int .i64 y) := by
        rw [hc]
        simp only [intC, List.getElem?_map, hy, Option.map_some]
      have hjn : (j : Int) < (n : Int) := by omega
      have CT := Lib.hid (contains_takeR l x j HP.out y hy)
      have HY := Lib.hid hy
      clear hc hy
      by_cases hv : y = x
      · have hb : (y == x) = true := beq_iff_eq.2 hv
        have YES := Lib.hid (show RR = true by
          rw [← HRR.out, List.contains_iff_mem, ← hv]
          exact List.mem_of_getElem? HY.out)
        clear hv
        go_wp2_with fail
        go_ret
        exact ⟨by rw [YES.out]; rfl, rfl⟩
      · have hb : (y == x) = false := by rw [beq_eq_false_iff_ne]; exact hv
        have NX := Lib.hid (show (l.take (j + 1)).contains x = false by rw [CT.out]; exact decide_eq_false hv)
        clear hv
        go_wp2_with fail
        go_roundw
        case rel => exact ⟨j + 1, by omega, by go_num, NX.out, trivial⟩
        case measure => simp [intOf]; omega
    · obtain rfl : j = n := by omega
      have NO := Lib.hid (show RR = false by
        rw [← HRR.out]
        have h1 := HP.out
        have h2 : l.take j = l := by rw [HN.out, List.take_length]
        rwa [h2] at h1)
      clear hlt hj
      go_wp2_with fail
      go_ret
      exact ⟨by rw [NO.out]; rfl, rfl⟩

end Go.Proofs.YtjfnpfojboellaaGreat
