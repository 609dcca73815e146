/- slices.Sort at []uint32: partitionEqualOrdered. -/
import Derived.Test.YtdfaogagadoooaaSoA
namespace Go.Proofs.Ytdfaogagadoooaa
open Go.RowKit Go.Sort
set_option linter.unusedSimpArgs false
set_option linter.unusedVariables false
set_option maxRecDepth 100000

theorem scans_ne (p q : Nat → Bool) (hq : ∀ x, q x = !p x) (d : Array Nat) (i j I J : Nat) (h1 : scanUp p d j i = I) (h2 : scanDown q d I j = J) (hI : 1 ≤ I) (h : ¬ J < I) : I < J := by
  obtain ⟨u1, u2, u3, u4⟩ := scanUp_spec p d j _ i rfl
  obtain ⟨v1, v2, v3, v4⟩ := scanDown_spec q d I j
  rw [h1] at u1 u2 u3 u4
  rw [h2] at v1 v2 v3 v4
  have f1 := u4 (by omega)
  have f2 := v4 (by omega) (by omega)
  rcases Nat.lt_or_ge I J with h' | h'
  · exact h'
  · obtain rfl : I = J := by omega
    rw [hq, f1] at f2
    cases f2
theorem up_on {p : Nat → Bool} {d : Array Nat} {j i : Nat} (h : i ≤ j) (k : p d[i]! = true) : scanUp p d j i = scanUp p d j (i + 1) := by rw [scanUp, if_pos (by simp [h, k])]
theorem up_at {p : Nat → Bool} {d : Array Nat} {j i : Nat} (k : p d[i]! = false) : scanUp p d j i = i := by rw [scanUp, if_neg (by simp [k])]
theorem up_over {p : Nat → Bool} {d : Array Nat} {j i : Nat} (h : ¬ i ≤ j) : scanUp p d j i = i := by rw [scanUp, if_neg (by simp [h])]
theorem dn_on {p : Nat → Bool} {d : Array Nat} {i j : Nat} (h0 : 1 ≤ j) (h : i ≤ j) (k : p d[j]! = true) : scanDown p d i j = scanDown p d i (j - 1) := by
  cases j with
  | zero => omega
  | succ j => rw [scanDown, if_pos (by simp [h, k])]; rfl
theorem dn_at {p : Nat → Bool} {d : Array Nat} {i j : Nat} (k : p d[j]! = false) : scanDown p d i j = j := by
  cases j with
  | zero => rfl
  | succ j => rw [scanDown, if_neg (by simp [k])]
theorem dn_over {p : Nat → Bool} {d : Array Nat} {i j : Nat} (h : ¬ i ≤ j) : scanDown p d i j = j := by
  cases j with
  | zero => rfl
  | succ j => rw [scanDown, if_neg (by simp [h])]
set_option maxHeartbeats 16000000 in
theorem peq_u32 {w : World} {base g n cap a b pivot : Nat} {d : Array Nat} (h : Own w base 30 1 (.slice (some ⟨g, 0, none⟩) n cap) n (celU d.toList)) (hap : a ≤ pivot) (hpb : pivot < b) (hb : b ≤ n) (hn : n ≤ 1000000) :
    Calls Try.prog 36 #[.slice (some ⟨g, 0, none⟩) n cap, .int .i64 (a : Int), .int .i64 (b : Int), .int .i64 (pivot : Int)] w fun e w' => e = .returned (.int .i64 ((partitionEqual ltN d a b pivot).1 : Int)) ∧ SoR w w' base g n cap (partitionEqual ltN d a b pivot).2 := by
  have S0 := Lib.hid (SoR.start h)
  obtain ⟨R, hR⟩ : ∃ R, partitionEqual ltN d a b pivot = R := ⟨_, rfl⟩
  rw [hR]
  obtain ⟨ri, R⟩ := R
  obtain ⟨bm, hbm⟩ : ∃ z, z = b - 1 := ⟨_, rfl⟩
  have HR := Lib.hid (show partEqLoop ltN a (a + 1) bm (Sort.swp d a pivot) = (ri, R) by rw [hbm]; exact hR)
  have wb : IntKind.i64.wrap ((b : Int) - 1) = (bm : Int) := by rw [IntKind.wrap_i64]; omega
  have nI : (n : Int) ≤ 1000000 := by omega
  have aI : (a : Int) < (n : Int) := by omega
  have a0 : (0 : Int) ≤ (a : Int) := by omega
  have F := Lib.hid (And.intro hap (And.intro hpb (And.intro hb hbm)))
  clear h hR hap hpb hb hn hbm
  go_enter Try.func36, Try.ntmps36
  have pN : a < n := by have := F.out; omega
  have qN : pivot < n := by have := F.out; omega
  have p0I : (0 : Int) ≤ (a : Int) := by omega
  have p1I : (a : Int) < (n : Int) := by omega
  have q0I : (0 : Int) ≤ (pivot : Int) := by omega
  have q1I : (pivot : Int) < (n : Int) := by omega
  obtain ⟨xs, hx⟩ : ∃ z, d[a]! = z := ⟨_, rfl⟩
  obtain ⟨ys, hy⟩ : ∃ z, d[pivot]! = z := ⟨_, rfl⟩
  have SW := Lib.hid (S0.out.swpx pN qN hx hy)
  have ci := S0.out.at pN hx
  have cp := S0.out.at qN hy
  have fi := S0.out.fz pN
  have fp := S0.out.fz qN
  obtain ⟨d1, hd1⟩ : ∃ z, Sort.swp d a pivot = z := ⟨_, rfl⟩
  have HNd1 := Lib.hid hd1
  rw [hd1] at SW
  clear hd1
  by_cases hpq : a = pivot
  · obtain rfl : a = pivot := hpq
    obtain rfl : xs = ys := by rw [← hx, ← hy]
    clear pN qN hx hy
    go_wp2_with fail
    go_region
    all_goals
      have SN := Lib.hid (SW.out.keep (keeps_drew _))
      generalize World.drew _ = wdd1 at *
      clear ci cp fi fp
      have E0 := Lib.hid (show partEqLoop ltN a (a + 1) bm d1 = (ri, R) by rw [← HNd1.out]; exact HR.out)
      go_wp2_with fail
      go_loopw [9, 10] (fun u v wr => ∃ (i j : Nat) (d2 : Array Nat), u = .int .i64 i ∧ v = .int .i64 j ∧ a < i ∧ i ≤ j + 1 ∧ j < b ∧ SoR w wr base g n cap d2 ∧ partEqLoop ltN a i j d2 = (ri, R)) (fun u v _ => (intOf v).toNat + 1 - (intOf u).toNat)
      case atStart => exact ⟨a + 1, bm, d1, by go_num, rfl, by omega, by have := F.out; omega, by have := F.out; omega, SN.out, E0.out⟩
      case round =>
        obtain ⟨i, j, d2, rfl, rfl, hai, hij, hjb, hS, hE⟩ := hrel
        have S1 := Lib.hid hS
        obtain ⟨v, hv⟩ : ∃ z, d2[a]! = z := ⟨_, rfl⟩
        have V := Lib.hid hv
        obtain ⟨I, hI⟩ : ∃ I, scanUp (fun x => !ltN d2[a]! x) d2 j i = I := ⟨_, rfl⟩
        obtain ⟨J, hJ⟩ : ∃ J, scanDown (fun x => ltN d2[a]! x) d2 I j = J := ⟨_, rfl⟩
        have PE := Lib.hid (show (J < I → (I, d2) = (ri, R)) ∧ (¬ J < I → partEqLoop ltN a (I + 1) (J - 1) (Sort.swp d2 I J) = (ri, R)) by
          rw [partEqLoop_eq, hI, hJ] at hE
          exact ⟨fun h => by rw [if_pos h] at hE; exact hE, fun h => by rw [if_neg h] at hE; exact hE⟩)
        have QI := Lib.hid hI
        have QJ := Lib.hid hJ
        have G := Lib.hid (And.intro hai (And.intro hij hjb))
        clear hS hE hv hI hJ hai hij hjb
        go_wp2_with fail
        go_loopw [9] (fun u wr => ∃ (k1 : Nat), u = .int .i64 k1 ∧ i ≤ k1 ∧ k1 ≤ j + 1 ∧ SoR w wr base g n cap d2 ∧ scanUp (fun x => !ltN d2[a]! x) d2 j k1 = I) (fun u _ => j + 1 - (intOf u).toNat)
        case atStart => exact ⟨i, rfl, Nat.le_refl _, by have := F.out; have := G.out; omega, S1.out, QI.out⟩
        case round =>
          obtain ⟨k1, rfl, hk1, hk2, hS, hE⟩ := hrel
          have S1 := Lib.hid hS
          have E1 := Lib.hid hE
          have qF := F.out
          have qG := G.out
          clear hS hE
          by_cases hle : k1 ≤ j
          · have g11 : (k1 : Int) ≤ (j : Int) := by omega
            have g21 : decide (k1 ≤ j) = true := decide_eq_true hle
            have kN : k1 < n := by omega
            have aN : a < n := by omega
            have k0I1 : (0 : Int) ≤ (k1 : Int) := by omega
            have k1I1 : (k1 : Int) < (n : Int) := by omega
            obtain ⟨x1, hx⟩ : ∃ z, d2[k1]! = z := ⟨_, rfl⟩
            have c0 := S1.out.at kN hx
            have c1 := S1.out.at aN V.out
            have LL := Lib.hid (less_u32 v x1)
            have X1 := Lib.hid hx
            have K1 := Lib.hid (And.intro hle (And.intro hk1 (And.intro hk2 trivial)))
            clear hle hk1 hk2 kN aN hx qF qG
            go_wp2_with fail
            go_quiet (exact Calls.quiet_of_same (LL.out _))
            have k9 := keeps_drewN wr nq
            generalize wr.drewN nq = w1 at *
            have T1 := Lib.hid (S1.out.keep k9)
            clear k9 c0 c1
            cases hb1 : ltN v x1
            · have E2 := Lib.hid (show scanUp (fun x => !ltN d2[a]! x) d2 j (k1 + 1) = I by rw [← E1.out, up_on (p := (fun x => !ltN d2[a]! x)) (d := d2) K1.out.1 (by show (!ltN d2[a]! d2[k1]!) = true; rw [V.out, X1.out, hb1]; rfl)])
              go_wp2_with fail
              go_roundw
              case rel => exact ⟨k1 + 1, by go_num, by have := K1.out; omega, by have := F.out; have := G.out; have := K1.out; omega, T1.out, E2.out⟩
              case measure => have := F.out; have := G.out; have := K1.out; simp [intOf]; omega
            · obtain rfl : k1 = I := by rw [← E1.out, up_at (p := (fun x => !ltN d2[a]! x)) (d := d2) (j := j) (by show (!ltN d2[a]! d2[k1]!) = false; rw [V.out, X1.out, hb1]; rfl)]
              have M1 := Lib.hid (show i ≤ k1 ∧ k1 ≤ j + 1 from ⟨K1.out.2.1, K1.out.2.2.1⟩)
              go_wp2_with fail
              go_loopw [10] (fun u wr => ∃ (k2 : Nat), u = .int .i64 k2 ∧ k2 ≤ j ∧ k1 ≤ k2 + 1 ∧ SoR w wr base g n cap d2 ∧ scanDown (fun x => ltN d2[a]! x) d2 k1 k2 = J) (fun u _ => (intOf u).toNat)
              case atStart => exact ⟨j, rfl, Nat.le_refl _, by have := F.out; have := G.out; have := M1.out; omega, T1.out, QJ.out⟩
              case round =>
                obtain ⟨k2, rfl, hk1, hk2, hS, hE⟩ := hrel
                have S2 := Lib.hid hS
                have E2 := Lib.hid hE
                have qF := F.out
                have qG := G.out
                have qM1 := M1.out
                clear hS hE
                by_cases hle : k1 ≤ k2
                · have g12 : (k1 : Int) ≤ (k2 : Int) := by omega
                  have g22 : decide (k1 ≤ k2) = true := decide_eq_true hle
                  obtain ⟨k2m, hkm⟩ : ∃ z, z = k2 - 1 := ⟨_, rfl⟩
                  have wk2 : IntKind.i64.wrap ((k2 : Int) - 1) = (k2m : Int) := by rw [IntKind.wrap_i64]; omega
                  have kN : k2 < n := by omega
                  have aN : a < n := by omega
                  have k0I2 : (0 : Int) ≤ (k2 : Int) := by omega
                  have k1I2 : (k2 : Int) < (n : Int) := by omega
                  obtain ⟨x2, hx⟩ : ∃ z, d2[k2]! = z := ⟨_, rfl⟩
                  have c0 := S2.out.at kN hx
                  have c1 := S2.out.at aN V.out
                  have LL := Lib.hid (less_u32 v x2)
                  have X2 := Lib.hid hx
                  have K2 := Lib.hid (And.intro hle (And.intro hk1 (And.intro hk2 hkm)))
                  clear hle hk1 hk2 kN aN hx qF qG qM1 hkm
                  go_wp2_with fail
                  go_quiet (exact Calls.quiet_of_same (LL.out _))
                  have k9 := keeps_drewN wr nq
                  generalize wr.drewN nq = w2 at *
                  have T2 := Lib.hid (S2.out.keep k9)
                  clear k9 c0 c1
                  cases hb2 : ltN v x2
                  · obtain rfl : k2 = J := by rw [← E2.out, dn_at (p := (fun x => ltN d2[a]! x)) (d := d2) (i := k1) (by show ltN d2[a]! d2[k2]! = false; rw [V.out, X2.out]; exact hb2)]
                    clear wk2
                    have M2 := Lib.hid (show k2 ≤ j ∧ k1 ≤ k2 + 1 from ⟨K2.out.2.1, K2.out.2.2.1⟩)
                    by_cases hIJ : k2 < k1
                    · have gI : (k2 : Int) < (k1 : Int) := by omega
                      have gJ : decide (k2 < k1) = true := decide_eq_true hIJ
                      have E4 := Lib.hid (PE.out.1 hIJ)
                      clear hIJ
                      go_wp2_with fail
                      go_ret
                      have h1 := E4.out
                      injection h1 with h1 h2
                      exact ⟨by rw [← h1]; simp, h2 ▸ T2.out⟩
                    · have gI : decide ((k2 : Int) < (k1 : Int)) = false := decide_eq_false (by omega)
                      have gJ : decide (k2 < k1) = false := decide_eq_false hIJ
                      obtain ⟨jm, hjm⟩ : ∃ z, z = k2 - 1 := ⟨_, rfl⟩
                      have HJM := Lib.hid hjm
                      have wj : IntKind.i64.wrap ((k2 : Int) - 1) = (jm : Int) := by rw [IntKind.wrap_i64]; have := M1.out; have := M2.out; have := G.out; have := F.out; omega
                      have HIJ := Lib.hid hIJ
                      have HLT := Lib.hid (scans_ne _ _ (fun x => by simp) d2 i j k1 k2 QI.out QJ.out (by have := M1.out; have := G.out; omega) hIJ)
                      have NE : k1 ≠ k2 := Nat.ne_of_lt HLT.out
                      clear hjm hIJ
                      have pN : k1 < n := by have := M1.out; have := M2.out; have := G.out; have := F.out; have := HLT.out; omega
                      have qN : k2 < n := by have := M1.out; have := M2.out; have := G.out; have := F.out; have := HLT.out; omega
                      have p0I : (0 : Int) ≤ (k1 : Int) := by omega
                      have p1I : (k1 : Int) < (n : Int) := by omega
                      have q0I : (0 : Int) ≤ (k2 : Int) := by omega
                      have q1I : (k2 : Int) < (n : Int) := by omega
                      obtain ⟨xs, hx⟩ : ∃ z, d2[k1]! = z := ⟨_, rfl⟩
                      obtain ⟨ys, hy⟩ : ∃ z, d2[k2]! = z := ⟨_, rfl⟩
                      have SW := Lib.hid (T2.out.swpx pN qN hx hy)
                      have ci := T2.out.at pN hx
                      have cp := T2.out.at qN hy
                      have fi := T2.out.fz pN
                      have fp := T2.out.fz qN
                      obtain ⟨d3, hd3⟩ : ∃ z, Sort.swp d2 k1 k2 = z := ⟨_, rfl⟩
                      have HNd3 := Lib.hid hd3
                      rw [hd3] at SW
                      clear hd3
                      have n1 : k1 ≠ k2 := NE
                      have n2 : k2 ≠ k1 := Ne.symm n1
                      clear pN qN hx hy
                      go_wp2_with fail
                      go_region
                      all_goals
                        have SN := Lib.hid (SW.out.keep (keeps_drew _))
                        generalize World.drew _ = wdd3 at *
                        clear ci cp fi fp
                        have E5 := Lib.hid (show partEqLoop ltN a (k1 + 1) jm d3 = (ri, R) by
                          rw [← HNd3.out, HJM.out]
                          exact PE.out.2 HIJ.out)
                        go_wp2_with fail
                        go_roundw
                        case rel => exact ⟨k1 + 1, jm, d3, by go_num, rfl, by have := M1.out; have := G.out; omega, by have := HJM.out; have := HLT.out; omega, by have := HJM.out; have := M2.out; have := G.out; omega, SN.out, E5.out⟩
                        case measure => have := M1.out; have := M2.out; have := HJM.out; have := HLT.out; have := G.out; simp [intOf]; omega
                  · have E2 := Lib.hid (show scanDown (fun x => ltN d2[a]! x) d2 k1 (k2m) = J by rw [← E2.out, dn_on (p := (fun x => ltN d2[a]! x)) (d := d2) (by have := F.out; have := G.out; have := M1.out; have := K2.out; omega) K2.out.1 (by show ltN d2[a]! d2[k2]! = true; rw [V.out, X2.out]; exact hb2), ← K2.out.2.2.2])
                    go_wp2_with fail
                    go_roundw
                    case rel => exact ⟨k2m, rfl, by have := K2.out; omega, by have := F.out; have := G.out; have := M1.out; have := K2.out; omega, T2.out, E2.out⟩
                    case measure => have := F.out; have := G.out; have := M1.out; have := K2.out; simp [intOf]; omega
                · have g12 : decide ((k1 : Int) ≤ (k2 : Int)) = false := decide_eq_false (by omega)
                  have g22 : decide (k1 ≤ k2) = false := decide_eq_false hle
                  obtain rfl : k2 = J := by rw [← E2.out, dn_over (p := (fun x => ltN d2[a]! x)) (d := d2) hle]
                  have M2 := Lib.hid (show k2 ≤ j ∧ k1 ≤ k2 + 1 from ⟨hk1, hk2⟩)
                  clear hle hk1 hk2 qF qG qM1
                  go_wp2_with fail
                  go_quiet (fail)
                  have k9 := keeps_drewN wr nq
                  generalize wr.drewN nq = w2 at *
                  have T2 := Lib.hid (S2.out.keep k9)
                  clear k9
                  by_cases hIJ : k2 < k1
                  · have gI : (k2 : Int) < (k1 : Int) := by omega
                    have gJ : decide (k2 < k1) = true := decide_eq_true hIJ
                    have E4 := Lib.hid (PE.out.1 hIJ)
                    clear hIJ
                    go_wp2_with fail
                    go_ret
                    have h1 := E4.out
                    injection h1 with h1 h2
                    exact ⟨by rw [← h1]; simp, h2 ▸ T2.out⟩
                  · have gI : decide ((k2 : Int) < (k1 : Int)) = false := decide_eq_false (by omega)
                    have gJ : decide (k2 < k1) = false := decide_eq_false hIJ
                    obtain ⟨jm, hjm⟩ : ∃ z, z = k2 - 1 := ⟨_, rfl⟩
                    have HJM := Lib.hid hjm
                    have wj : IntKind.i64.wrap ((k2 : Int) - 1) = (jm : Int) := by rw [IntKind.wrap_i64]; have := M1.out; have := M2.out; have := G.out; have := F.out; omega
                    have HIJ := Lib.hid hIJ
                    have HLT := Lib.hid (scans_ne _ _ (fun x => by simp) d2 i j k1 k2 QI.out QJ.out (by have := M1.out; have := G.out; omega) hIJ)
                    have NE : k1 ≠ k2 := Nat.ne_of_lt HLT.out
                    clear hjm hIJ
                    have pN : k1 < n := by have := M1.out; have := M2.out; have := G.out; have := F.out; have := HLT.out; omega
                    have qN : k2 < n := by have := M1.out; have := M2.out; have := G.out; have := F.out; have := HLT.out; omega
                    have p0I : (0 : Int) ≤ (k1 : Int) := by omega
                    have p1I : (k1 : Int) < (n : Int) := by omega
                    have q0I : (0 : Int) ≤ (k2 : Int) := by omega
                    have q1I : (k2 : Int) < (n : Int) := by omega
                    obtain ⟨xs, hx⟩ : ∃ z, d2[k1]! = z := ⟨_, rfl⟩
                    obtain ⟨ys, hy⟩ : ∃ z, d2[k2]! = z := ⟨_, rfl⟩
                    have SW := Lib.hid (T2.out.swpx pN qN hx hy)
                    have ci := T2.out.at pN hx
                    have cp := T2.out.at qN hy
                    have fi := T2.out.fz pN
                    have fp := T2.out.fz qN
                    obtain ⟨d3, hd3⟩ : ∃ z, Sort.swp d2 k1 k2 = z := ⟨_, rfl⟩
                    have HNd3 := Lib.hid hd3
                    rw [hd3] at SW
                    clear hd3
                    have n1 : k1 ≠ k2 := NE
                    have n2 : k2 ≠ k1 := Ne.symm n1
                    clear pN qN hx hy
                    go_wp2_with fail
                    go_region
                    all_goals
                      have SN := Lib.hid (SW.out.keep (keeps_drew _))
                      generalize World.drew _ = wdd3 at *
                      clear ci cp fi fp
                      have E5 := Lib.hid (show partEqLoop ltN a (k1 + 1) jm d3 = (ri, R) by
                        rw [← HNd3.out, HJM.out]
                        exact PE.out.2 HIJ.out)
                      go_wp2_with fail
                      go_roundw
                      case rel => exact ⟨k1 + 1, jm, d3, by go_num, rfl, by have := M1.out; have := G.out; omega, by have := HJM.out; have := HLT.out; omega, by have := HJM.out; have := M2.out; have := G.out; omega, SN.out, E5.out⟩
                      case measure => have := M1.out; have := M2.out; have := HJM.out; have := HLT.out; have := G.out; simp [intOf]; omega
          · have g11 : decide ((k1 : Int) ≤ (j : Int)) = false := decide_eq_false (by omega)
            have g21 : decide (k1 ≤ j) = false := decide_eq_false hle
            obtain rfl : k1 = I := by rw [← E1.out, up_over (p := (fun x => !ltN d2[a]! x)) (d := d2) hle]
            have M1 := Lib.hid (show i ≤ k1 ∧ k1 ≤ j + 1 from ⟨hk1, hk2⟩)
            clear hle hk1 hk2 qF qG
            go_wp2_with fail
            go_quiet (fail)
            have k9 := keeps_drewN wr nq
            generalize wr.drewN nq = w1 at *
            have T1 := Lib.hid (S1.out.keep k9)
            clear k9
            go_wp2_with fail
            go_loopw [10] (fun u wr => ∃ (k2 : Nat), u = .int .i64 k2 ∧ k2 ≤ j ∧ k1 ≤ k2 + 1 ∧ SoR w wr base g n cap d2 ∧ scanDown (fun x => ltN d2[a]! x) d2 k1 k2 = J) (fun u _ => (intOf u).toNat)
            case atStart => exact ⟨j, rfl, Nat.le_refl _, by have := F.out; have := G.out; have := M1.out; omega, T1.out, QJ.out⟩
            case round =>
              obtain ⟨k2, rfl, hk1, hk2, hS, hE⟩ := hrel
              have S2 := Lib.hid hS
              have E2 := Lib.hid hE
              have qF := F.out
              have qG := G.out
              have qM1 := M1.out
              clear hS hE
              by_cases hle : k1 ≤ k2
              · have g12 : (k1 : Int) ≤ (k2 : Int) := by omega
                have g22 : decide (k1 ≤ k2) = true := decide_eq_true hle
                obtain ⟨k2m, hkm⟩ : ∃ z, z = k2 - 1 := ⟨_, rfl⟩
                have wk2 : IntKind.i64.wrap ((k2 : Int) - 1) = (k2m : Int) := by rw [IntKind.wrap_i64]; omega
                have kN : k2 < n := by omega
                have aN : a < n := by omega
                have k0I2 : (0 : Int) ≤ (k2 : Int) := by omega
                have k1I2 : (k2 : Int) < (n : Int) := by omega
                obtain ⟨x2, hx⟩ : ∃ z, d2[k2]! = z := ⟨_, rfl⟩
                have c0 := S2.out.at kN hx
                have c1 := S2.out.at aN V.out
                have LL := Lib.hid (less_u32 v x2)
                have X2 := Lib.hid hx
                have K2 := Lib.hid (And.intro hle (And.intro hk1 (And.intro hk2 hkm)))
                clear hle hk1 hk2 kN aN hx qF qG qM1 hkm
                go_wp2_with fail
                go_quiet (exact Calls.quiet_of_same (LL.out _))
                have k9 := keeps_drewN wr nq
                generalize wr.drewN nq = w2 at *
                have T2 := Lib.hid (S2.out.keep k9)
                clear k9 c0 c1
                cases hb2 : ltN v x2
                · obtain rfl : k2 = J := by rw [← E2.out, dn_at (p := (fun x => ltN d2[a]! x)) (d := d2) (i := k1) (by show ltN d2[a]! d2[k2]! = false; rw [V.out, X2.out]; exact hb2)]
                  clear wk2
                  have M2 := Lib.hid (show k2 ≤ j ∧ k1 ≤ k2 + 1 from ⟨K2.out.2.1, K2.out.2.2.1⟩)
                  by_cases hIJ : k2 < k1
                  · have gI : (k2 : Int) < (k1 : Int) := by omega
                    have gJ : decide (k2 < k1) = true := decide_eq_true hIJ
                    have E4 := Lib.hid (PE.out.1 hIJ)
                    clear hIJ
                    go_wp2_with fail
                    go_ret
                    have h1 := E4.out
                    injection h1 with h1 h2
                    exact ⟨by rw [← h1]; simp, h2 ▸ T2.out⟩
                  · have gI : decide ((k2 : Int) < (k1 : Int)) = false := decide_eq_false (by omega)
                    have gJ : decide (k2 < k1) = false := decide_eq_false hIJ
                    obtain ⟨jm, hjm⟩ : ∃ z, z = k2 - 1 := ⟨_, rfl⟩
                    have HJM := Lib.hid hjm
                    have wj : IntKind.i64.wrap ((k2 : Int) - 1) = (jm : Int) := by rw [IntKind.wrap_i64]; have := M1.out; have := M2.out; have := G.out; have := F.out; omega
                    have HIJ := Lib.hid hIJ
                    have HLT := Lib.hid (scans_ne _ _ (fun x => by simp) d2 i j k1 k2 QI.out QJ.out (by have := M1.out; have := G.out; omega) hIJ)
                    have NE : k1 ≠ k2 := Nat.ne_of_lt HLT.out
                    clear hjm hIJ
                    have pN : k1 < n := by have := M1.out; have := M2.out; have := G.out; have := F.out; have := HLT.out; omega
                    have qN : k2 < n := by have := M1.out; have := M2.out; have := G.out; have := F.out; have := HLT.out; omega
                    have p0I : (0 : Int) ≤ (k1 : Int) := by omega
                    have p1I : (k1 : Int) < (n : Int) := by omega
                    have q0I : (0 : Int) ≤ (k2 : Int) := by omega
                    have q1I : (k2 : Int) < (n : Int) := by omega
                    obtain ⟨xs, hx⟩ : ∃ z, d2[k1]! = z := ⟨_, rfl⟩
                    obtain ⟨ys, hy⟩ : ∃ z, d2[k2]! = z := ⟨_, rfl⟩
                    have SW := Lib.hid (T2.out.swpx pN qN hx hy)
                    have ci := T2.out.at pN hx
                    have cp := T2.out.at qN hy
                    have fi := T2.out.fz pN
                    have fp := T2.out.fz qN
                    obtain ⟨d3, hd3⟩ : ∃ z, Sort.swp d2 k1 k2 = z := ⟨_, rfl⟩
                    have HNd3 := Lib.hid hd3
                    rw [hd3] at SW
                    clear hd3
                    have n1 : k1 ≠ k2 := NE
                    have n2 : k2 ≠ k1 := Ne.symm n1
                    clear pN qN hx hy
                    go_wp2_with fail
                    go_region
                    all_goals
                      have SN := Lib.hid (SW.out.keep (keeps_drew _))
                      generalize World.drew _ = wdd3 at *
                      clear ci cp fi fp
                      have E5 := Lib.hid (show partEqLoop ltN a (k1 + 1) jm d3 = (ri, R) by
                        rw [← HNd3.out, HJM.out]
                        exact PE.out.2 HIJ.out)
                      go_wp2_with fail
                      go_roundw
                      case rel => exact ⟨k1 + 1, jm, d3, by go_num, rfl, by have := M1.out; have := G.out; omega, by have := HJM.out; have := HLT.out; omega, by have := HJM.out; have := M2.out; have := G.out; omega, SN.out, E5.out⟩
                      case measure => have := M1.out; have := M2.out; have := HJM.out; have := HLT.out; have := G.out; simp [intOf]; omega
                · have E2 := Lib.hid (show scanDown (fun x => ltN d2[a]! x) d2 k1 (k2m) = J by rw [← E2.out, dn_on (p := (fun x => ltN d2[a]! x)) (d := d2) (by have := F.out; have := G.out; have := M1.out; have := K2.out; omega) K2.out.1 (by show ltN d2[a]! d2[k2]! = true; rw [V.out, X2.out]; exact hb2), ← K2.out.2.2.2])
                  go_wp2_with fail
                  go_roundw
                  case rel => exact ⟨k2m, rfl, by have := K2.out; omega, by have := F.out; have := G.out; have := M1.out; have := K2.out; omega, T2.out, E2.out⟩
                  case measure => have := F.out; have := G.out; have := M1.out; have := K2.out; simp [intOf]; omega
              · have g12 : decide ((k1 : Int) ≤ (k2 : Int)) = false := decide_eq_false (by omega)
                have g22 : decide (k1 ≤ k2) = false := decide_eq_false hle
                obtain rfl : k2 = J := by rw [← E2.out, dn_over (p := (fun x => ltN d2[a]! x)) (d := d2) hle]
                have M2 := Lib.hid (show k2 ≤ j ∧ k1 ≤ k2 + 1 from ⟨hk1, hk2⟩)
                clear hle hk1 hk2 qF qG qM1
                go_wp2_with fail
                go_quiet (fail)
                have k9 := keeps_drewN wr nq
                generalize wr.drewN nq = w2 at *
                have T2 := Lib.hid (S2.out.keep k9)
                clear k9
                by_cases hIJ : k2 < k1
                · have gI : (k2 : Int) < (k1 : Int) := by omega
                  have gJ : decide (k2 < k1) = true := decide_eq_true hIJ
                  have E4 := Lib.hid (PE.out.1 hIJ)
                  clear hIJ
                  go_wp2_with fail
                  go_ret
                  have h1 := E4.out
                  injection h1 with h1 h2
                  exact ⟨by rw [← h1]; simp, h2 ▸ T2.out⟩
                · have gI : decide ((k2 : Int) < (k1 : Int)) = false := decide_eq_false (by omega)
                  have gJ : decide (k2 < k1) = false := decide_eq_false hIJ
                  obtain ⟨jm, hjm⟩ : ∃ z, z = k2 - 1 := ⟨_, rfl⟩
                  have HJM := Lib.hid hjm
                  have wj : IntKind.i64.wrap ((k2 : Int) - 1) = (jm : Int) := by rw [IntKind.wrap_i64]; have := M1.out; have := M2.out; have := G.out; have := F.out; omega
                  have HIJ := Lib.hid hIJ
                  have HLT := Lib.hid (scans_ne _ _ (fun x => by simp) d2 i j k1 k2 QI.out QJ.out (by have := M1.out; have := G.out; omega) hIJ)
                  have NE : k1 ≠ k2 := Nat.ne_of_lt HLT.out
                  clear hjm hIJ
                  have pN : k1 < n := by have := M1.out; have := M2.out; have := G.out; have := F.out; have := HLT.out; omega
                  have qN : k2 < n := by have := M1.out; have := M2.out; have := G.out; have := F.out; have := HLT.out; omega
                  have p0I : (0 : Int) ≤ (k1 : Int) := by omega
                  have p1I : (k1 : Int) < (n : Int) := by omega
                  have q0I : (0 : Int) ≤ (k2 : Int) := by omega
                  have q1I : (k2 : Int) < (n : Int) := by omega
                  obtain ⟨xs, hx⟩ : ∃ z, d2[k1]! = z := ⟨_, rfl⟩
                  obtain ⟨ys, hy⟩ : ∃ z, d2[k2]! = z := ⟨_, rfl⟩
                  have SW := Lib.hid (T2.out.swpx pN qN hx hy)
                  have ci := T2.out.at pN hx
                  have cp := T2.out.at qN hy
                  have fi := T2.out.fz pN
                  have fp := T2.out.fz qN
                  obtain ⟨d3, hd3⟩ : ∃ z, Sort.swp d2 k1 k2 = z := ⟨_, rfl⟩
                  have HNd3 := Lib.hid hd3
                  rw [hd3] at SW
                  clear hd3
                  have n1 : k1 ≠ k2 := NE
                  have n2 : k2 ≠ k1 := Ne.symm n1
                  clear pN qN hx hy
                  go_wp2_with fail
                  go_region
                  all_goals
                    have SN := Lib.hid (SW.out.keep (keeps_drew _))
                    generalize World.drew _ = wdd3 at *
                    clear ci cp fi fp
                    have E5 := Lib.hid (show partEqLoop ltN a (k1 + 1) jm d3 = (ri, R) by
                      rw [← HNd3.out, HJM.out]
                      exact PE.out.2 HIJ.out)
                    go_wp2_with fail
                    go_roundw
                    case rel => exact ⟨k1 + 1, jm, d3, by go_num, rfl, by have := M1.out; have := G.out; omega, by have := HJM.out; have := HLT.out; omega, by have := HJM.out; have := M2.out; have := G.out; omega, SN.out, E5.out⟩
                    case measure => have := M1.out; have := M2.out; have := HJM.out; have := HLT.out; have := G.out; simp [intOf]; omega
  · have n1 : a ≠ pivot := hpq
    have n2 : pivot ≠ a := Ne.symm hpq
    clear pN qN hx hy hpq
    go_wp2_with fail
    go_region
    all_goals
      have SN := Lib.hid (SW.out.keep (keeps_drew _))
      generalize World.drew _ = wdd1 at *
      clear ci cp fi fp
      have E0 := Lib.hid (show partEqLoop ltN a (a + 1) bm d1 = (ri, R) by rw [← HNd1.out]; exact HR.out)
      go_wp2_with fail
      go_loopw [9, 10] (fun u v wr => ∃ (i j : Nat) (d2 : Array Nat), u = .int .i64 i ∧ v = .int .i64 j ∧ a < i ∧ i ≤ j + 1 ∧ j < b ∧ SoR w wr base g n cap d2 ∧ partEqLoop ltN a i j d2 = (ri, R)) (fun u v _ => (intOf v).toNat + 1 - (intOf u).toNat)
      case atStart => exact ⟨a + 1, bm, d1, by go_num, rfl, by omega, by have := F.out; omega, by have := F.out; omega, SN.out, E0.out⟩
      case round =>
        obtain ⟨i, j, d2, rfl, rfl, hai, hij, hjb, hS, hE⟩ := hrel
        have S1 := Lib.hid hS
        obtain ⟨v, hv⟩ : ∃ z, d2[a]! = z := ⟨_, rfl⟩
        have V := Lib.hid hv
        obtain ⟨I, hI⟩ : ∃ I, scanUp (fun x => !ltN d2[a]! x) d2 j i = I := ⟨_, rfl⟩
        obtain ⟨J, hJ⟩ : ∃ J, scanDown (fun x => ltN d2[a]! x) d2 I j = J := ⟨_, rfl⟩
        have PE := Lib.hid (show (J < I → (I, d2) = (ri, R)) ∧ (¬ J < I → partEqLoop ltN a (I + 1) (J - 1) (Sort.swp d2 I J) = (ri, R)) by
          rw [partEqLoop_eq, hI, hJ] at hE
          exact ⟨fun h => by rw [if_pos h] at hE; exact hE, fun h => by rw [if_neg h] at hE; exact hE⟩)
        have QI := Lib.hid hI
        have QJ := Lib.hid hJ
        have G := Lib.hid (And.intro hai (And.intro hij hjb))
        clear hS hE hv hI hJ hai hij hjb
        go_wp2_with fail
        go_loopw [9] (fun u wr => ∃ (k1 : Nat), u = .int .i64 k1 ∧ i ≤ k1 ∧ k1 ≤ j + 1 ∧ SoR w wr base g n cap d2 ∧ scanUp (fun x => !ltN d2[a]! x) d2 j k1 = I) (fun u _ => j + 1 - (intOf u).toNat)
        case atStart => exact ⟨i, rfl, Nat.le_refl _, by have := F.out; have := G.out; omega, S1.out, QI.out⟩
        case round =>
          obtain ⟨k1, rfl, hk1, hk2, hS, hE⟩ := hrel
          have S1 := Lib.hid hS
          have E1 := Lib.hid hE
          have qF := F.out
          have qG := G.out
          clear hS hE
          by_cases hle : k1 ≤ j
          · have g11 : (k1 : Int) ≤ (j : Int) := by omega
            have g21 : decide (k1 ≤ j) = true := decide_eq_true hle
            have kN : k1 < n := by omega
            have aN : a < n := by omega
            have k0I1 : (0 : Int) ≤ (k1 : Int) := by omega
            have k1I1 : (k1 : Int) < (n : Int) := by omega
            obtain ⟨x1, hx⟩ : ∃ z, d2[k1]! = z := ⟨_, rfl⟩
            have c0 := S1.out.at kN hx
            have c1 := S1.out.at aN V.out
            have LL := Lib.hid (less_u32 v x1)
            have X1 := Lib.hid hx
            have K1 := Lib.hid (And.intro hle (And.intro hk1 (And.intro hk2 trivial)))
            clear hle hk1 hk2 kN aN hx qF qG
            go_wp2_with fail
            go_quiet (exact Calls.quiet_of_same (LL.out _))
            have k9 := keeps_drewN wr nq
            generalize wr.drewN nq = w1 at *
            have T1 := Lib.hid (S1.out.keep k9)
            clear k9 c0 c1
            cases hb1 : ltN v x1
            · have E2 := Lib.hid (show scanUp (fun x => !ltN d2[a]! x) d2 j (k1 + 1) = I by rw [← E1.out, up_on (p := (fun x => !ltN d2[a]! x)) (d := d2) K1.out.1 (by show (!ltN d2[a]! d2[k1]!) = true; rw [V.out, X1.out, hb1]; rfl)])
              go_wp2_with fail
              go_roundw
              case rel => exact ⟨k1 + 1, by go_num, by have := K1.out; omega, by have := F.out; have := G.out; have := K1.out; omega, T1.out, E2.out⟩
              case measure => have := F.out; have := G.out; have := K1.out; simp [intOf]; omega
            · obtain rfl : k1 = I := by rw [← E1.out, up_at (p := (fun x => !ltN d2[a]! x)) (d := d2) (j := j) (by show (!ltN d2[a]! d2[k1]!) = false; rw [V.out, X1.out, hb1]; rfl)]
              have M1 := Lib.hid (show i ≤ k1 ∧ k1 ≤ j + 1 from ⟨K1.out.2.1, K1.out.2.2.1⟩)
              go_wp2_with fail
              go_loopw [10] (fun u wr => ∃ (k2 : Nat), u = .int .i64 k2 ∧ k2 ≤ j ∧ k1 ≤ k2 + 1 ∧ SoR w wr base g n cap d2 ∧ scanDown (fun x => ltN d2[a]! x) d2 k1 k2 = J) (fun u _ => (intOf u).toNat)
              case atStart => exact ⟨j, rfl, Nat.le_refl _, by have := F.out; have := G.out; have := M1.out; omega, T1.out, QJ.out⟩
              case round =>
                obtain ⟨k2, rfl, hk1, hk2, hS, hE⟩ := hrel
                have S2 := Lib.hid hS
                have E2 := Lib.hid hE
                have qF := F.out
                have qG := G.out
                have qM1 := M1.out
                clear hS hE
                by_cases hle : k1 ≤ k2
                · have g12 : (k1 : Int) ≤ (k2 : Int) := by omega
                  have g22 : decide (k1 ≤ k2) = true := decide_eq_true hle
                  obtain ⟨k2m, hkm⟩ : ∃ z, z = k2 - 1 := ⟨_, rfl⟩
                  have wk2 : IntKind.i64.wrap ((k2 : Int) - 1) = (k2m : Int) := by rw [IntKind.wrap_i64]; omega
                  have kN : k2 < n := by omega
                  have aN : a < n := by omega
                  have k0I2 : (0 : Int) ≤ (k2 : Int) := by omega
                  have k1I2 : (k2 : Int) < (n : Int) := by omega
                  obtain ⟨x2, hx⟩ : ∃ z, d2[k2]! = z := ⟨_, rfl⟩
                  have c0 := S2.out.at kN hx
                  have c1 := S2.out.at aN V.out
                  have LL := Lib.hid (less_u32 v x2)
                  have X2 := Lib.hid hx
                  have K2 := Lib.hid (And.intro hle (And.intro hk1 (And.intro hk2 hkm)))
                  clear hle hk1 hk2 kN aN hx qF qG qM1 hkm
                  go_wp2_with fail
                  go_quiet (exact Calls.quiet_of_same (LL.out _))
                  have k9 := keeps_drewN wr nq
                  generalize wr.drewN nq = w2 at *
                  have T2 := Lib.hid (S2.out.keep k9)
                  clear k9 c0 c1
                  cases hb2 : ltN v x2
                  · obtain rfl : k2 = J := by rw [← E2.out, dn_at (p := (fun x => ltN d2[a]! x)) (d := d2) (i := k1) (by show ltN d2[a]! d2[k2]! = false; rw [V.out, X2.out]; exact hb2)]
                    clear wk2
                    have M2 := Lib.hid (show k2 ≤ j ∧ k1 ≤ k2 + 1 from ⟨K2.out.2.1, K2.out.2.2.1⟩)
                    by_cases hIJ : k2 < k1
                    · have gI : (k2 : Int) < (k1 : Int) := by omega
                      have gJ : decide (k2 < k1) = true := decide_eq_true hIJ
                      have E4 := Lib.hid (PE.out.1 hIJ)
                      clear hIJ
                      go_wp2_with fail
                      go_ret
                      have h1 := E4.out
                      injection h1 with h1 h2
                      exact ⟨by rw [← h1]; simp, h2 ▸ T2.out⟩
                    · have gI : decide ((k2 : Int) < (k1 : Int)) = false := decide_eq_false (by omega)
                      have gJ : decide (k2 < k1) = false := decide_eq_false hIJ
                      obtain ⟨jm, hjm⟩ : ∃ z, z = k2 - 1 := ⟨_, rfl⟩
                      have HJM := Lib.hid hjm
                      have wj : IntKind.i64.wrap ((k2 : Int) - 1) = (jm : Int) := by rw [IntKind.wrap_i64]; have := M1.out; have := M2.out; have := G.out; have := F.out; omega
                      have HIJ := Lib.hid hIJ
                      have HLT := Lib.hid (scans_ne _ _ (fun x => by simp) d2 i j k1 k2 QI.out QJ.out (by have := M1.out; have := G.out; omega) hIJ)
                      have NE : k1 ≠ k2 := Nat.ne_of_lt HLT.out
                      clear hjm hIJ
                      have pN : k1 < n := by have := M1.out; have := M2.out; have := G.out; have := F.out; have := HLT.out; omega
                      have qN : k2 < n := by have := M1.out; have := M2.out; have := G.out; have := F.out; have := HLT.out; omega
                      have p0I : (0 : Int) ≤ (k1 : Int) := by omega
                      have p1I : (k1 : Int) < (n : Int) := by omega
                      have q0I : (0 : Int) ≤ (k2 : Int) := by omega
                      have q1I : (k2 : Int) < (n : Int) := by omega
                      obtain ⟨xs, hx⟩ : ∃ z, d2[k1]! = z := ⟨_, rfl⟩
                      obtain ⟨ys, hy⟩ : ∃ z, d2[k2]! = z := ⟨_, rfl⟩
                      have SW := Lib.hid (T2.out.swpx pN qN hx hy)
                      have ci := T2.out.at pN hx
                      have cp := T2.out.at qN hy
                      have fi := T2.out.fz pN
                      have fp := T2.out.fz qN
                      obtain ⟨d3, hd3⟩ : ∃ z, Sort.swp d2 k1 k2 = z := ⟨_, rfl⟩
                      have HNd3 := Lib.hid hd3
                      rw [hd3] at SW
                      clear hd3
                      have n1 : k1 ≠ k2 := NE
                      have n2 : k2 ≠ k1 := Ne.symm n1
                      clear pN qN hx hy
                      go_wp2_with fail
                      go_region
                      all_goals
                        have SN := Lib.hid (SW.out.keep (keeps_drew _))
                        generalize World.drew _ = wdd3 at *
                        clear ci cp fi fp
                        have E5 := Lib.hid (show partEqLoop ltN a (k1 + 1) jm d3 = (ri, R) by
                          rw [← HNd3.out, HJM.out]
                          exact PE.out.2 HIJ.out)
                        go_wp2_with fail
                        go_roundw
                        case rel => exact ⟨k1 + 1, jm, d3, by go_num, rfl, by have := M1.out; have := G.out; omega, by have := HJM.out; have := HLT.out; omega, by have := HJM.out; have := M2.out; have := G.out; omega, SN.out, E5.out⟩
                        case measure => have := M1.out; have := M2.out; have := HJM.out; have := HLT.out; have := G.out; simp [intOf]; omega
                  · have E2 := Lib.hid (show scanDown (fun x => ltN d2[a]! x) d2 k1 (k2m) = J by rw [← E2.out, dn_on (p := (fun x => ltN d2[a]! x)) (d := d2) (by have := F.out; have := G.out; have := M1.out; have := K2.out; omega) K2.out.1 (by show ltN d2[a]! d2[k2]! = true; rw [V.out, X2.out]; exact hb2), ← K2.out.2.2.2])
                    go_wp2_with fail
                    go_roundw
                    case rel => exact ⟨k2m, rfl, by have := K2.out; omega, by have := F.out; have := G.out; have := M1.out; have := K2.out; omega, T2.out, E2.out⟩
                    case measure => have := F.out; have := G.out; have := M1.out; have := K2.out; simp [intOf]; omega
                · have g12 : decide ((k1 : Int) ≤ (k2 : Int)) = false := decide_eq_false (by omega)
                  have g22 : decide (k1 ≤ k2) = false := decide_eq_false hle
                  obtain rfl : k2 = J := by rw [← E2.out, dn_over (p := (fun x => ltN d2[a]! x)) (d := d2) hle]
                  have M2 := Lib.hid (show k2 ≤ j ∧ k1 ≤ k2 + 1 from ⟨hk1, hk2⟩)
                  clear hle hk1 hk2 qF qG qM1
                  go_wp2_with fail
                  go_quiet (fail)
                  have k9 := keeps_drewN wr nq
                  generalize wr.drewN nq = w2 at *
                  have T2 := Lib.hid (S2.out.keep k9)
                  clear k9
                  by_cases hIJ : k2 < k1
                  · have gI : (k2 : Int) < (k1 : Int) := by omega
                    have gJ : decide (k2 < k1) = true := decide_eq_true hIJ
                    have E4 := Lib.hid (PE.out.1 hIJ)
                    clear hIJ
                    go_wp2_with fail
                    go_ret
                    have h1 := E4.out
                    injection h1 with h1 h2
                    exact ⟨by rw [← h1]; simp, h2 ▸ T2.out⟩
                  · have gI : decide ((k2 : Int) < (k1 : Int)) = false := decide_eq_false (by omega)
                    have gJ : decide (k2 < k1) = false := decide_eq_false hIJ
                    obtain ⟨jm, hjm⟩ : ∃ z, z = k2 - 1 := ⟨_, rfl⟩
                    have HJM := Lib.hid hjm
                    have wj : IntKind.i64.wrap ((k2 : Int) - 1) = (jm : Int) := by rw [IntKind.wrap_i64]; have := M1.out; have := M2.out; have := G.out; have := F.out; omega
                    have HIJ := Lib.hid hIJ
                    have HLT := Lib.hid (scans_ne _ _ (fun x => by simp) d2 i j k1 k2 QI.out QJ.out (by have := M1.out; have := G.out; omega) hIJ)
                    have NE : k1 ≠ k2 := Nat.ne_of_lt HLT.out
                    clear hjm hIJ
                    have pN : k1 < n := by have := M1.out; have := M2.out; have := G.out; have := F.out; have := HLT.out; omega
                    have qN : k2 < n := by have := M1.out; have := M2.out; have := G.out; have := F.out; have := HLT.out; omega
                    have p0I : (0 : Int) ≤ (k1 : Int) := by omega
                    have p1I : (k1 : Int) < (n : Int) := by omega
                    have q0I : (0 : Int) ≤ (k2 : Int) := by omega
                    have q1I : (k2 : Int) < (n : Int) := by omega
                    obtain ⟨xs, hx⟩ : ∃ z, d2[k1]! = z := ⟨_, rfl⟩
                    obtain ⟨ys, hy⟩ : ∃ z, d2[k2]! = z := ⟨_, rfl⟩
                    have SW := Lib.hid (T2.out.swpx pN qN hx hy)
                    have ci := T2.out.at pN hx
                    have cp := T2.out.at qN hy
                    have fi := T2.out.fz pN
                    have fp := T2.out.fz qN
                    obtain ⟨d3, hd3⟩ : ∃ z, Sort.swp d2 k1 k2 = z := ⟨_, rfl⟩
                    have HNd3 := Lib.hid hd3
                    rw [hd3] at SW
                    clear hd3
                    have n1 : k1 ≠ k2 := NE
                    have n2 : k2 ≠ k1 := Ne.symm n1
                    clear pN qN hx hy
                    go_wp2_with fail
                    go_region
                    all_goals
                      have SN := Lib.hid (SW.out.keep (keeps_drew _))
                      generalize World.drew _ = wdd3 at *
                      clear ci cp fi fp
                      have E5 := Lib.hid (show partEqLoop ltN a (k1 + 1) jm d3 = (ri, R) by
                        rw [← HNd3.out, HJM.out]
                        exact PE.out.2 HIJ.out)
                      go_wp2_with fail
                      go_roundw
                      case rel => exact ⟨k1 + 1, jm, d3, by go_num, rfl, by have := M1.out; have := G.out; omega, by have := HJM.out; have := HLT.out; omega, by have := HJM.out; have := M2.out; have := G.out; omega, SN.out, E5.out⟩
                      case measure => have := M1.out; have := M2.out; have := HJM.out; have := HLT.out; have := G.out; simp [intOf]; omega
          · have g11 : decide ((k1 : Int) ≤ (j : Int)) = false := decide_eq_false (by omega)
            have g21 : decide (k1 ≤ j) = false := decide_eq_false hle
            obtain rfl : k1 = I := by rw [← E1.out, up_over (p := (fun x => !ltN d2[a]! x)) (d := d2) hle]
            have M1 := Lib.hid (show i ≤ k1 ∧ k1 ≤ j + 1 from ⟨hk1, hk2⟩)
            clear hle hk1 hk2 qF qG
            go_wp2_with fail
            go_quiet (fail)
            have k9 := keeps_drewN wr nq
            generalize wr.drewN nq = w1 at *
            have T1 := Lib.hid (S1.out.keep k9)
            clear k9
            go_wp2_with fail
            go_loopw [10] (fun u wr => ∃ (k2 : Nat), u = .int .i64 k2 ∧ k2 ≤ j ∧ k1 ≤ k2 + 1 ∧ SoR w wr base g n cap d2 ∧ scanDown (fun x => ltN d2[a]! x) d2 k1 k2 = J) (fun u _ => (intOf u).toNat)
            case atStart => exact ⟨j, rfl, Nat.le_refl _, by have := F.out; have := G.out; have := M1.out; omega, T1.out, QJ.out⟩
            case round =>
              obtain ⟨k2, rfl, hk1, hk2, hS, hE⟩ := hrel
              have S2 := Lib.hid hS
              have E2 := Lib.hid hE
              have qF := F.out
              have qG := G.out
              have qM1 := M1.out
              clear hS hE
              by_cases hle : k1 ≤ k2
              · have g12 : (k1 : Int) ≤ (k2 : Int) := by omega
                have g22 : decide (k1 ≤ k2) = true := decide_eq_true hle
                obtain ⟨k2m, hkm⟩ : ∃ z, z = k2 - 1 := ⟨_, rfl⟩
                have wk2 : IntKind.i64.wrap ((k2 : Int) - 1) = (k2m : Int) := by rw [IntKind.wrap_i64]; omega
                have kN : k2 < n := by omega
                have aN : a < n := by omega
                have k0I2 : (0 : Int) ≤ (k2 : Int) := by omega
                have k1I2 : (k2 : Int) < (n : Int) := by omega
                obtain ⟨x2, hx⟩ : ∃ z, d2[k2]! = z := ⟨_, rfl⟩
                have c0 := S2.out.at kN hx
                have c1 := S2.out.at aN V.out
                have LL := Lib.hid (less_u32 v x2)
                have X2 := Lib.hid hx
                have K2 := Lib.hid (And.intro hle (And.intro hk1 (And.intro hk2 hkm)))
                clear hle hk1 hk2 kN aN hx qF qG qM1 hkm
                go_wp2_with fail
                go_quiet (exact Calls.quiet_of_same (LL.out _))
                have k9 := keeps_drewN wr nq
                generalize wr.drewN nq = w2 at *
                have T2 := Lib.hid (S2.out.keep k9)
                clear k9 c0 c1
                cases hb2 : ltN v x2
                · obtain rfl : k2 = J := by rw [← E2.out, dn_at (p := (fun x => ltN d2[a]! x)) (d := d2) (i := k1) (by show ltN d2[a]! d2[k2]! = false; rw [V.out, X2.out]; exact hb2)]
                  clear wk2
                  have M2 := Lib.hid (show k2 ≤ j ∧ k1 ≤ k2 + 1 from ⟨K2.out.2.1, K2.out.2.2.1⟩)
                  by_cases hIJ : k2 < k1
                  · have gI : (k2 : Int) < (k1 : Int) := by omega
                    have gJ : decide (k2 < k1) = true := decide_eq_true hIJ
                    have E4 := Lib.hid (PE.out.1 hIJ)
                    clear hIJ
                    go_wp2_with fail
                    go_ret
                    have h1 := E4.out
                    injection h1 with h1 h2
                    exact ⟨by rw [← h1]; simp, h2 ▸ T2.out⟩
                  · have gI : decide ((k2 : Int) < (k1 : Int)) = false := decide_eq_false (by omega)
                    have gJ : decide (k2 < k1) = false := decide_eq_false hIJ
                    obtain ⟨jm, hjm⟩ : ∃ z, z = k2 - 1 := ⟨_, rfl⟩
                    have HJM := Lib.hid hjm
                    have wj : IntKind.i64.wrap ((k2 : Int) - 1) = (jm : Int) := by rw [IntKind.wrap_i64]; have := M1.out; have := M2.out; have := G.out; have := F.out; omega
                    have HIJ := Lib.hid hIJ
                    have HLT := Lib.hid (scans_ne _ _ (fun x => by simp) d2 i j k1 k2 QI.out QJ.out (by have := M1.out; have := G.out; omega) hIJ)
                    have NE : k1 ≠ k2 := Nat.ne_of_lt HLT.out
                    clear hjm hIJ
                    have pN : k1 < n := by have := M1.out; have := M2.out; have := G.out; have := F.out; have := HLT.out; omega
                    have qN : k2 < n := by have := M1.out; have := M2.out; have := G.out; have := F.out; have := HLT.out; omega
                    have p0I : (0 : Int) ≤ (k1 : Int) := by omega
                    have p1I : (k1 : Int) < (n : Int) := by omega
                    have q0I : (0 : Int) ≤ (k2 : Int) := by omega
                    have q1I : (k2 : Int) < (n : Int) := by omega
                    obtain ⟨xs, hx⟩ : ∃ z, d2[k1]! = z := ⟨_, rfl⟩
                    obtain ⟨ys, hy⟩ : ∃ z, d2[k2]! = z := ⟨_, rfl⟩
                    have SW := Lib.hid (T2.out.swpx pN qN hx hy)
                    have ci := T2.out.at pN hx
                    have cp := T2.out.at qN hy
                    have fi := T2.out.fz pN
                    have fp := T2.out.fz qN
                    obtain ⟨d3, hd3⟩ : ∃ z, Sort.swp d2 k1 k2 = z := ⟨_, rfl⟩
                    have HNd3 := Lib.hid hd3
                    rw [hd3] at SW
                    clear hd3
                    have n1 : k1 ≠ k2 := NE
                    have n2 : k2 ≠ k1 := Ne.symm n1
                    clear pN qN hx hy
                    go_wp2_with fail
                    go_region
                    all_goals
                      have SN := Lib.hid (SW.out.keep (keeps_drew _))
                      generalize World.drew _ = wdd3 at *
                      clear ci cp fi fp
                      have E5 := Lib.hid (show partEqLoop ltN a (k1 + 1) jm d3 = (ri, R) by
                        rw [← HNd3.out, HJM.out]
                        exact PE.out.2 HIJ.out)
                      go_wp2_with fail
                      go_roundw
                      case rel => exact ⟨k1 + 1, jm, d3, by go_num, rfl, by have := M1.out; have := G.out; omega, by have := HJM.out; have := HLT.out; omega, by have := HJM.out; have := M2.out; have := G.out; omega, SN.out, E5.out⟩
                      case measure => have := M1.out; have := M2.out; have := HJM.out; have := HLT.out; have := G.out; simp [intOf]; omega
                · have E2 := Lib.hid (show scanDown (fun x => ltN d2[a]! x) d2 k1 (k2m) = J by rw [← E2.out, dn_on (p := (fun x => ltN d2[a]! x)) (d := d2) (by have := F.out; have := G.out; have := M1.out; have := K2.out; omega) K2.out.1 (by show ltN d2[a]! d2[k2]! = true; rw [V.out, X2.out]; exact hb2), ← K2.out.2.2.2])
                  go_wp2_with fail
                  go_roundw
                  case rel => exact ⟨k2m, rfl, by have := K2.out; omega, by have := F.out; have := G.out; have := M1.out; have := K2.out; omega, T2.out, E2.out⟩
                  case measure => have := F.out; have := G.out; have := M1.out; have := K2.out; simp [intOf]; omega
              · have g12 : decide ((k1 : Int) ≤ (k2 : Int)) = false := decide_eq_false (by omega)
                have g22 : decide (k1 ≤ k2) = false := decide_eq_false hle
                obtain rfl : k2 = J := by rw [← E2.out, dn_over (p := (fun x => ltN d2[a]! x)) (d := d2) hle]
                have M2 := Lib.hid (show k2 ≤ j ∧ k1 ≤ k2 + 1 from ⟨hk1, hk2⟩)
                clear hle hk1 hk2 qF qG qM1
                go_wp2_with fail
                go_quiet (fail)
                have k9 := keeps_drewN wr nq
                generalize wr.drewN nq = w2 at *
                have T2 := Lib.hid (S2.out.keep k9)
                clear k9
                by_cases hIJ : k2 < k1
                · have gI : (k2 : Int) < (k1 : Int) := by omega
                  have gJ : decide (k2 < k1) = true := decide_eq_true hIJ
                  have E4 := Lib.hid (PE.out.1 hIJ)
                  clear hIJ
                  go_wp2_with fail
                  go_ret
                  have h1 := E4.out
                  injection h1 with h1 h2
                  exact ⟨by rw [← h1]; simp, h2 ▸ T2.out⟩
                · have gI : decide ((k2 : Int) < (k1 : Int)) = false := decide_eq_false (by omega)
                  have gJ : decide (k2 < k1) = false := decide_eq_false hIJ
                  obtain ⟨jm, hjm⟩ : ∃ z, z = k2 - 1 := ⟨_, rfl⟩
                  have HJM := Lib.hid hjm
                  have wj : IntKind.i64.wrap ((k2 : Int) - 1) = (jm : Int) := by rw [IntKind.wrap_i64]; have := M1.out; have := M2.out; have := G.out; have := F.out; omega
                  have HIJ := Lib.hid hIJ
                  have HLT := Lib.hid (scans_ne _ _ (fun x => by simp) d2 i j k1 k2 QI.out QJ.out (by have := M1.out; have := G.out; omega) hIJ)
                  have NE : k1 ≠ k2 := Nat.ne_of_lt HLT.out
                  clear hjm hIJ
                  have pN : k1 < n := by have := M1.out; have := M2.out; have := G.out; have := F.out; have := HLT.out; omega
                  have qN : k2 < n := by have := M1.out; have := M2.out; have := G.out; have := F.out; have := HLT.out; omega
                  have p0I : (0 : Int) ≤ (k1 : Int) := by omega
                  have p1I : (k1 : Int) < (n : Int) := by omega
                  have q0I : (0 : Int) ≤ (k2 : Int) := by omega
                  have q1I : (k2 : Int) < (n : Int) := by omega
                  obtain ⟨xs, hx⟩ : ∃ z, d2[k1]! = z := ⟨_, rfl⟩
                  obtain ⟨ys, hy⟩ : ∃ z, d2[k2]! = z := ⟨_, rfl⟩
                  have SW := Lib.hid (T2.out.swpx pN qN hx hy)
                  have ci := T2.out.at pN hx
                  have cp := T2.out.at qN hy
                  have fi := T2.out.fz pN
                  have fp := T2.out.fz qN
                  obtain ⟨d3, hd3⟩ : ∃ z, Sort.swp d2 k1 k2 = z := ⟨_, rfl⟩
                  have HNd3 := Lib.hid hd3
                  rw [hd3] at SW
                  clear hd3
                  have n1 : k1 ≠ k2 := NE
                  have n2 : k2 ≠ k1 := Ne.symm n1
                  clear pN qN hx hy
                  go_wp2_with fail
                  go_region
                  all_goals
                    have SN := Lib.hid (SW.out.keep (keeps_drew _))
                    generalize World.drew _ = wdd3 at *
                    clear ci cp fi fp
                    have E5 := Lib.hid (show partEqLoop ltN a (k1 + 1) jm d3 = (ri, R) by
                      rw [← HNd3.out, HJM.out]
                      exact PE.out.2 HIJ.out)
                    go_wp2_with fail
                    go_roundw
                    case rel => exact ⟨k1 + 1, jm, d3, by go_num, rfl, by have := M1.out; have := G.out; omega, by have := HJM.out; have := HLT.out; omega, by have := HJM.out; have := M2.out; have := G.out; omega, SN.out, E5.out⟩
                    case measure => have := M1.out; have := M2.out; have := HJM.out; have := HLT.out; have := G.out; simp [intOf]; omega
end Go.Proofs.Ytdfaogagadoooaa
