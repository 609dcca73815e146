/- slices.Sort at []uint32: insertionSortOrdered. -/
import Derived.Test.YtdfaogagadoooaaSoA
namespace Go.Proofs.Ytdfaogagadoooaa
open Go.RowKit Go.Sort
set_option linter.unusedSimpArgs false
set_option linter.unusedVariables false
set_option maxRecDepth 100000

theorem insInner_stop {a j : Nat} {d : Array Nat} (h : ¬ a < j) : insInner ltN a j d = d := by
  cases j with
  | zero => rfl
  | succ j => rw [insInner, if_neg]; simp only [gt_iff_lt, Bool.and_eq_true, decide_eq_true_eq]; omega
theorem insInner_no {a j : Nat} {d : Array Nat} (h : ltN d[j]! d[j - 1]! = false) : insInner ltN a j d = d := by
  cases j with
  | zero => rfl
  | succ j => rw [insInner, if_neg]; simp only [Nat.add_sub_cancel] at h; simp [h]
theorem insInner_yes {a j : Nat} {d : Array Nat} (h0 : a < j) (h : ltN d[j]! d[j - 1]! = true) : insInner ltN a j d = insInner ltN a (j - 1) (swp d j (j - 1)) := by
  cases j with
  | zero => omega
  | succ j =>
    simp only [Nat.add_sub_cancel] at h ⊢
    rw [insInner, if_pos (by simp [h]; omega)]
theorem insOuter_in {a b i : Nat} {d : Array Nat} (h : i < b) : insOuter ltN a b i d = insOuter ltN a b (i + 1) (insInner ltN a i d) := by rw [insOuter, if_pos h]
theorem insOuter_out {a b i : Nat} {d : Array Nat} (h : ¬ i < b) : insOuter ltN a b i d = d := by rw [insOuter, if_neg h]

set_option maxHeartbeats 8000000 in
theorem ins_u32 {w : World} {base g n cap a b : Nat} {d : Array Nat} (h : Own w base 30 1 (.slice (some ⟨g, 0, none⟩) n cap) n (celU d.toList)) (hb : b ≤ n) (hn : n ≤ 1000000) (ha : a ≤ b) :
    Calls Try.prog 29 #[.slice (some ⟨g, 0, none⟩) n cap, .int .i64 (a : Int), .int .i64 (b : Int)] w fun e w' => e = .returned (.tuple #[]) ∧ SoR w w' base g n cap (insertionSort ltN d a b) := by
  have H := Lib.hid (SoR.start h)
  obtain ⟨R, hR⟩ : ∃ R, insertionSort ltN d a b = R := ⟨_, rfl⟩
  rw [hR]
  have HR := Lib.hid (show insOuter ltN a b (a + 1) d = R from hR)
  have bI : (b : Int) ≤ (n : Int) := by omega
  have nI : (n : Int) ≤ 1000000 := by omega
  have aI : (a : Int) ≤ (b : Int) := by omega
  have a0 : (0 : Int) ≤ (a : Int) := by omega
  clear h hR hb hn ha
  go_enter Try.func29, Try.ntmps29
  go_wp2_with fail
  go_loopw [6] (fun i wr => ∃ (k : Nat) (d1 : Array Nat), i = .int .i64 k ∧ k ≤ b + 1 ∧ a < k ∧ SoR w wr base g n cap d1 ∧ insOuter ltN a b k d1 = R) (fun i _ => b + 1 - (intOf i).toNat)
  case atStart => exact ⟨a + 1, d, by go_num, by omega, by omega, H.out, HR.out⟩
  case round =>
    obtain ⟨k, d1, rfl, hk, hak, hS, hE⟩ := hrel
    have S1 := Lib.hid hS
    have E1 := Lib.hid hE
    clear hS hE
    by_cases hlt : k < b
    · have kI : (k : Int) < (b : Int) := by omega
      have E2 := Lib.hid (show insOuter ltN a b (k + 1) (insInner ltN a k d1) = R by rw [← E1.out, insOuter_in hlt])
      have K := Lib.hid (And.intro hlt hak)
      obtain ⟨wo, hwo⟩ : ∃ wo, wo = wr := ⟨_, rfl⟩
      subst hwo
      clear hlt hk hak
      go_wp2_with fail
      go_loopw [7] (fun j wr => ∃ (m : Nat) (d2 : Array Nat), j = .int .i64 m ∧ m ≤ k ∧ SoR w wr base g n cap d2 ∧ insOuter ltN a b (k + 1) (insInner ltN a m d2) = R) (fun j _ => (intOf j).toNat)
      case atStart => exact ⟨k, d1, rfl, Nat.le_refl _, S1.out, E2.out⟩
      case round =>
        obtain ⟨m, d2, rfl, hm, hS, hE⟩ := hrel
        have S2 := Lib.hid hS
        have E3 := Lib.hid hE
        clear hS hE
        by_cases ham : a < m
        · have g1 : (a : Int) < (m : Int) := by omega
          have g2 : decide (a < m) = true := decide_eq_true ham
          have mI : (m : Int) ≤ (k : Int) := by omega
          have kB := K.out.1
          have kI2 : (k : Int) < (b : Int) := by omega
          obtain ⟨q, hq⟩ : ∃ q, m = q + 1 := ⟨m - 1, by omega⟩
          have c0 := (S2.out.cell (i := m) (by omega)).1
          have c1 := (S2.out.cell (i := q) (by omega)).1
          have f0 := (S2.out.cell (i := m) (by omega)).2
          have f1 := (S2.out.cell (i := q) (by omega)).2
          have w1 : IntKind.i64.wrap ((m : Int) - 1) = (q : Int) := by rw [IntKind.wrap_i64]; omega
          have i0 : (0 : Int) ≤ (m : Int) := by omega
          have i1 : (m : Int) < (n : Int) := by omega
          have i2 : (0 : Int) ≤ (q : Int) := by omega
          have i3 : (q : Int) < (n : Int) := by omega
          obtain ⟨x, hx⟩ : ∃ x, d2[m]! = x := ⟨_, rfl⟩
          obtain ⟨y, hy⟩ : ∃ y, d2[q]! = y := ⟨_, rfl⟩
          rw [hx] at c0
          rw [hy] at c1
          have X := Lib.hid hx
          have Y := Lib.hid hy
          have LS := Lib.hid (less_u32 x y)
          have HM := Lib.hid hm
          have HQ := Lib.hid hq
          clear ham hm hq hx hy
          go_wp2_with fail
          go_quiet (exact Calls.quiet_of_same (LS.out _))
          have k9 := keeps_drewN wr nq
          generalize wr.drewN nq = wq at *
          have SK := Lib.hid (S2.out.keep k9)
          cases hb : ltN x y
          · have E4 := Lib.hid (show insOuter ltN a b (k + 1) d2 = R by rw [← E3.out, insInner_no (by rw [show m - 1 = q by have := HQ.out; omega, X.out, Y.out]; exact hb)])
            clear c0 c1 f0 f1 k9
            go_wp2_with fail
            go_roundw
            case rel => exact ⟨k + 1, d2, by go_num, by have := K.out; omega, by have := K.out; omega, SK.out, E4.out⟩
            case measure => have := K.out; simp [intOf]; omega
          · have E4 := Lib.hid (show insOuter ltN a b (k + 1) (insInner ltN a q (Sort.swp d2 m q)) = R by rw [← E3.out, insInner_yes (a := a) (j := m) (d := d2) (by have := HQ.out; omega) (by rw [show m - 1 = q by have := HQ.out; omega, X.out, Y.out]; exact hb), show m - 1 = q by have := HQ.out; omega])
            have SW := Lib.hid (SK.out.swp (i := m) (j := q) (by omega) (by omega))
            rw [X.out, Y.out] at SW
            have c0 := k9.cellOf c0
            have c1 := k9.cellOf c1
            have f0 := (SK.out.cell (i := m) (by omega)).2
            have f1 := (SK.out.cell (i := q) (by omega)).2
            have n1 : m ≠ q := by have := HQ.out; omega
            have n2 : q ≠ m := by omega
            clear k9
            go_wp2_with fail
            go_region
            all_goals
              go_wp2_with fail
              go_roundw
              case rel => exact ⟨q, Sort.swp d2 m q, rfl, by have := HQ.out; have := HM.out; omega, SW.out.keep (keeps_drew _), E4.out⟩
              case measure => have := HQ.out; simp [intOf]; omega
        · have g1 : decide ((a : Int) < (m : Int)) = false := decide_eq_false (by omega)
          have g2 : decide (a < m) = false := decide_eq_false (by omega)
          have E4 := Lib.hid (show insOuter ltN a b (k + 1) d2 = R by rw [← E3.out, insInner_stop ham])
          clear ham
          go_wp2_with fail
          go_quiet (fail)
          have k9 := keeps_drewN wr nq
          generalize wr.drewN nq = wq at *
          have SK := Lib.hid (S2.out.keep k9)
          clear k9
          go_wp2_with fail
          go_roundw
          case rel => exact ⟨k + 1, d2, by go_num, by have := K.out; omega, by have := K.out; omega, SK.out, E4.out⟩
          case measure => have := K.out; simp [intOf]; omega
    · have kI : decide ((k : Int) < (b : Int)) = false := decide_eq_false (by omega)
      have kN : decide (k < b) = false := decide_eq_false (by omega)
      have E2 := Lib.hid (show d1 = R by rw [← E1.out, insOuter_out hlt])
      clear hlt hk
      go_wp2_with fail
      go_returns
      exact ⟨rfl, E2.out ▸ S1.out⟩
end Go.Proofs.Ytdfaogagadoooaa
