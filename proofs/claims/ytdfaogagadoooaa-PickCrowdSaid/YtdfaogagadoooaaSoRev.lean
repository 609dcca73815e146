/- slices.Sort at []uint32: reverseRangeOrdered. -/
import Derived.Test.YtdfaogagadoooaaSoA
import Derived.Test.YtdfaogagadoooaaBox
namespace Go.Proofs.Ytdfaogagadoooaa
open Go.RowKit Go.Sort
set_option linter.unusedSimpArgs false
set_option linter.unusedVariables false
set_option maxRecDepth 100000

theorem rev_in {i j : Nat} {d : Array Nat} (h : i < j) : reverseLoop i j d = reverseLoop (i + 1) (j - 1) (Sort.swp d i j) := by rw [reverseLoop, if_pos h]
theorem rev_out {i j : Nat} {d : Array Nat} (h : ¬ i < j) : reverseLoop i j d = d := by rw [reverseLoop, if_neg h]
set_option maxHeartbeats 8000000 in
theorem rev_u32 {w : World} {base g n cap a b : Nat} {d : Array Nat} (h : Own w base 30 1 (.slice (some ⟨g, 0, none⟩) n cap) n (celU d.toList)) (hb : b ≤ n) (hn : n ≤ 1000000) (hab : a < b) :
    Calls Try.prog 33 #[.slice (some ⟨g, 0, none⟩) n cap, .int .i64 (a : Int), .int .i64 (b : Int)] w fun e w' => e = .returned (.tuple #[]) ∧ SoR w w' base g n cap (reverseRange d a b) := by
  have H := Lib.hid (SoR.start h)
  obtain ⟨R, hR⟩ : ∃ R, reverseRange d a b = R := ⟨_, rfl⟩
  rw [hR]
  obtain ⟨bm, hbm⟩ : ∃ z, z = b - 1 := ⟨_, rfl⟩
  have HR := Lib.hid (show reverseLoop a bm d = R by rw [hbm]; exact hR)
  have w1 : IntKind.i64.wrap ((b : Int) - 1) = (bm : Int) := by rw [IntKind.wrap_i64]; omega
  have nI : (n : Int) ≤ 1000000 := by omega
  have F0 := Lib.hid (And.intro hb (And.intro hab hbm))
  clear h hR hb hn hab hbm
  go_enter Try.func33, Try.ntmps33
  go_wp2_with fail
  go_loopw [6, 7] (fun u v wr => ∃ (i j : Nat) (d2 : Array Nat), u = .int .i64 i ∧ v = .int .i64 j ∧ j < n ∧ i ≤ n ∧ SoR w wr base g n cap d2 ∧ reverseLoop i j d2 = R) (fun u _ _ => n - (intOf u).toNat)
  case atStart => exact ⟨a, bm, d, rfl, rfl, by have := F0.out; omega, by have := F0.out; omega, H.out, HR.out⟩
  case round =>
    obtain ⟨i, j, d2, rfl, rfl, hj, hi, hS, hE⟩ := hrel
    have S1 := Lib.hid hS
    have E1 := Lib.hid hE
    clear hS hE
    by_cases hij : i < j
    · have g1 : (i : Int) < (j : Int) := by omega
      have g2 : decide (i < j) = true := decide_eq_true hij
      have i0 : (0 : Int) ≤ (i : Int) := by omega
      have i1 : (i : Int) < (n : Int) := by omega
      have j0 : (0 : Int) ≤ (j : Int) := by omega
      have j1 : (j : Int) < (n : Int) := by omega
      obtain ⟨jm, hjm⟩ : ∃ z, z = j - 1 := ⟨_, rfl⟩
      have w2 : IntKind.i64.wrap ((j : Int) - 1) = (jm : Int) := by rw [IntKind.wrap_i64]; omega
      obtain ⟨x, hx⟩ : ∃ z, d2[i]! = z := ⟨_, rfl⟩
      obtain ⟨y, hy⟩ : ∃ z, d2[j]! = z := ⟨_, rfl⟩
      have iN : i < n := by omega
      have SW := Lib.hid (S1.out.swpx iN hj hx hy)
      have ci := S1.out.at iN hx
      have cj := S1.out.at hj hy
      have fi := S1.out.fz iN
      have fj := S1.out.fz hj
      have n1 : i ≠ j := by omega
      have n2 : j ≠ i := by omega
      have E2 := Lib.hid (show reverseLoop (i + 1) jm (Sort.swp d2 i j) = R by rw [← E1.out, rev_in hij, hjm])
      have F1 := Lib.hid (And.intro hij (And.intro hj hjm))
      clear hij hj hi hx hy iN hjm
      go_wp2_with fail
      go_region
      all_goals
        go_wp2_with fail
        go_roundw
        case rel => exact ⟨i + 1, jm, Sort.swp d2 i j, by go_num, rfl, by have := F1.out; omega, by have := F1.out; omega, SW.out.keep (keeps_drew _), E2.out⟩
        case measure => have := F1.out; simp [intOf]; omega
    · have g1 : decide ((i : Int) < (j : Int)) = false := decide_eq_false (by omega)
      have g2 : decide (i < j) = false := decide_eq_false hij
      have E2 := Lib.hid (show d2 = R by rw [← E1.out, rev_out hij])
      clear hij hj hi
      go_wp2_with fail
      go_returns
      exact ⟨rfl, E2.out ▸ S1.out⟩
end Go.Proofs.Ytdfaogagadoooaa
