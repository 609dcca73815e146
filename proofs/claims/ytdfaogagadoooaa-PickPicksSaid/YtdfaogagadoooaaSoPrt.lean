/- slices.Sort at []uint32: partitionOrdered. -/
import Derived.Deep.Cut
import Derived.Deep.CutRange
import Derived.Deep.CutBlock
import Derived.Test.YtdfaogagadoooaaSoPeq
namespace Go.Proofs.Ytdfaogagadoooaa
open Go.RowKit Go.Sort
set_option linter.unusedSimpArgs false
set_option linter.unusedVariables false
set_option maxRecDepth 100000

theorem part_unfold (d : Array Nat) (a b pivot : Nat) (d1 : Array Nat) (h1 : Sort.swp d a pivot = d1) (I J : Nat) (hI : scanUp (fun x => ltN x d1[a]!) d1 (b - 1) (a + 1) = I) (hJ : scanDown (fun x => !ltN x d1[a]!) d1 I (b - 1) = J) :
    (J < I → partition ltN d a b pivot = (J, true, Sort.swp d1 J a)) ∧ (¬ J < I → ∀ r, partLoop ltN a (I + 1) (J - 1) (Sort.swp d1 I J) = r → partition ltN d a b pivot = (r.1, false, Sort.swp r.2 r.1 a)) := by
  unfold partition
  simp only [h1, hI, hJ]
  exact ⟨fun h => by rw [if_pos h], fun h r hr => by rw [if_neg h, hr]⟩
set_option maxHeartbeats 16000000 in
theorem prt_u32 {w : World} {base g n cap a b pivot : Nat} {d : Array Nat} (h : Own w base 30 1 (.slice (some ⟨g, 0, none⟩) n cap) n (celU d.toList)) (hap : a ≤ pivot) (hpb : pivot < b) (hb : b ≤ n) (hn : n ≤ 1000000) :
    Calls Try.prog 37 #[.slice (some ⟨g, 0, none⟩) n cap, .int .i64 (a : Int), .int .i64 (b : Int), .int .i64 (pivot : Int)] w fun e w' => e = .returned (.tuple #[.int .i64 ((partition ltN d a b pivot).1 : Int), .bool (partition ltN d a b pivot).2.1]) ∧ SoR w w' base g n cap (partition ltN d a b pivot).2.2 := by
  have S0 := Lib.hid (SoR.start h)
  obtain ⟨R, hR⟩ : ∃ R, partition ltN d a b pivot = R := ⟨_, rfl⟩
  rw [hR]
  obtain ⟨ri, rb, R⟩ := R
  obtain ⟨bm, hbm⟩ : ∃ z, z = b - 1 := ⟨_, rfl⟩
  have HR := Lib.hid (fun (d1 : Array Nat) (h1 : Sort.swp d a pivot = d1) (I J : Nat) (hI : scanUp (fun x => ltN x d1[a]!) d1 bm (a + 1) = I) (hJ : scanDown (fun x => !ltN x d1[a]!) d1 I bm = J) => show (J < I → (J, true, Sort.swp d1 J a) = (ri, rb, R)) ∧ (¬ J < I → ∀ r, partLoop ltN a (I + 1) (J - 1) (Sort.swp d1 I J) = r → (r.1, false, Sort.swp r.2 r.1 a) = (ri, rb, R)) by
    subst hbm
    have := part_unfold d a b pivot d1 h1 I J hI hJ
    rw [← hR]
    exact ⟨fun h => (this.1 h).symm, fun h r hr => (this.2 h r hr).symm⟩)
  have wb : IntKind.i64.wrap ((b : Int) - 1) = (bm : Int) := by rw [IntKind.wrap_i64]; omega
  have nI : (n : Int) ≤ 1000000 := by omega
  have aI : (a : Int) < (n : Int) := by omega
  have a0 : (0 : Int) ≤ (a : Int) := by omega
  have F := Lib.hid (And.intro hap (And.intro hpb (And.intro hb hbm)))
  obtain ⟨s, hs⟩ : ∃ z, z = a + 1 := ⟨_, rfl⟩
  have ws : IntKind.i64.wrap ((a : Int) + 1) = (s : Int) := by rw [IntKind.wrap_i64]; omega
  have HSS := Lib.hid hs
  clear h hR hap hpb hb hn hbm hs
  go_enter Try.func37, Try.ntmps37
  have pN : a < n := by have := F.out; omega
  have qN : pivot < n := by have := F.out; omega
  have p0I : (0 : Int) ≤ (a : Int) := by omega
  have p1I : (a : Int) < (n : Int) := by omega
  have q0I : (0 : Int) ≤ (pivot : Int) := by omega
  have q1I : (pivot : Int) < (n : Int) := by omega
  obtain ⟨xs, hx⟩ : ∃ z, d[a]! = z := ⟨_, rfl⟩
  obtain ⟨ys, hy⟩ : ∃ z, d[pivot]! = z := ⟨_, rfl⟩
  have SW := Lib.hid (S0.out.swpx pN qN hx hy)
  have ci := S0.out.at pN hx
  have cp := S0.out.at qN hy
  have fi := S0.out.fz pN
  have fp := S0.out.fz qN
  obtain ⟨d1, hd1⟩ : ∃ z, Sort.swp d a pivot = z := ⟨_, rfl⟩
  have HNd1 := Lib.hid hd1
  rw [hd1] at SW
  clear hd1
  by_cases hpq : a = pivot
  · obtain rfl : a = pivot := hpq
    obtain rfl : xs = ys := by rw [← hx, ← hy]
    clear pN qN hx hy
    go_wp2_with fail
    go_region
    all_goals
      have SN := Lib.hid (SW.out.keep (keeps_drew _))
      generalize World.drew _ = wdd1 at *
      clear ci cp fi fp
      obtain ⟨v, hv⟩ : ∃ z, d1[a]! = z := ⟨_, rfl⟩
      have V := Lib.hid hv
      obtain ⟨I, hI⟩ : ∃ I, scanUp (fun x => ltN x d1[a]!) d1 bm s = I := ⟨_, rfl⟩
      obtain ⟨J, hJ⟩ : ∃ J, scanDown (fun x => !ltN x d1[a]!) d1 I bm = J := ⟨_, rfl⟩
      have PE := Lib.hid (HR.out d1 HNd1.out I J (by rw [← HSS.out]; exact hI) hJ)
      have QI := Lib.hid hI
      have QJ := Lib.hid hJ
      clear hv hI hJ
      go_upto_block 0 with fail
      go_cut [10] from 30 to 45 (fun u wx => SoR w wx base g n cap d1 ∧ u = .int .i64 (I : Int) ∧ s ≤ I ∧ I ≤ bm + 1)
      case first =>
        go_wp2_with fail
        go_loopw [10] (fun u wr => ∃ (k1 : Nat), u = .int .i64 k1 ∧ s ≤ k1 ∧ k1 ≤ bm + 1 ∧ SoR w wr base g n cap d1 ∧ scanUp (fun x => ltN x d1[a]!) d1 bm k1 = I) (fun u _ => bm + 1 - (intOf u).toNat)
        case atStart => exact ⟨s, rfl, Nat.le_refl _, by have := F.out; have := HSS.out; omega, SN.out, QI.out⟩
        case round =>
          obtain ⟨k1, rfl, hk1, hk2, hS, hE⟩ := hrel
          have S1 := Lib.hid hS
          have E1 := Lib.hid hE
          have qF := F.out
          have qHSS := HSS.out
          clear hS hE
          by_cases hle : k1 ≤ bm
          · have g11 : (k1 : Int) ≤ (bm : Int) := by omega
            have g21 : decide (k1 ≤ bm) = true := decide_eq_true hle
            have kN : k1 < n := by omega
            have aN : a < n := by omega
            have k0I1 : (0 : Int) ≤ (k1 : Int) := by omega
            have k1I1 : (k1 : Int) < (n : Int) := by omega
            obtain ⟨x1, hx⟩ : ∃ z, d1[k1]! = z := ⟨_, rfl⟩
            have c0 := S1.out.at kN hx
            have c1 := S1.out.at aN V.out
            have LL := Lib.hid (less_u32 x1 v)
            have X1 := Lib.hid hx
            have K1 := Lib.hid (And.intro hle (And.intro hk1 (And.intro hk2 trivial)))
            clear hle hk1 hk2 kN aN hx qF qHSS
            go_wp2_with fail
            go_quiet (exact Calls.quiet_of_same (LL.out _))
            have k9 := keeps_drewN wr nq
            generalize wr.drewN nq = w1 at *
            have T1 := Lib.hid (S1.out.keep k9)
            clear k9 c0 c1
            cases hb1 : ltN x1 v
            · have eR := Lib.hid (show k1 = I by rw [← E1.out, up_at (p := (fun x => ltN x d1[a]!)) (d := d1) (j := bm) (by show ltN d1[k1]! d1[a]! = false; rw [V.out, X1.out]; exact hb1)])
              have M1 := Lib.hid (show s ≤ k1 ∧ k1 ≤ bm + 1 from ⟨K1.out.2.1, K1.out.2.2.1⟩)
              go_wp2_with fail
              go_meet
              case rel => exact ⟨T1.out, by rw [eR.out], by rw [← eR.out]; exact M1.out⟩
            · have E2 := Lib.hid (show scanUp (fun x => ltN x d1[a]!) d1 bm (k1 + 1) = I by rw [← E1.out, up_on (p := (fun x => ltN x d1[a]!)) (d := d1) K1.out.1 (by show ltN d1[k1]! d1[a]! = true; rw [V.out, X1.out]; exact hb1)])
              go_wp2_with fail
              go_roundw
              case rel => exact ⟨k1 + 1, by go_num, by have := K1.out; omega, by have := F.out; have := HSS.out; have := K1.out; omega, T1.out, E2.out⟩
              case measure => have := F.out; have := HSS.out; have := K1.out; simp [intOf]; omega
          · have g11 : decide ((k1 : Int) ≤ (bm : Int)) = false := decide_eq_false (by omega)
            have g21 : decide (k1 ≤ bm) = false := decide_eq_false hle
            have eR := Lib.hid (show k1 = I by rw [← E1.out, up_over (p := (fun x => ltN x d1[a]!)) (d := d1) hle])
            have M1 := Lib.hid (show s ≤ k1 ∧ k1 ≤ bm + 1 from ⟨hk1, hk2⟩)
            clear hle hk1 hk2 qF qHSS
            go_wp2_with fail
            go_quiet (fail)
            have k9 := keeps_drewN wr nq
            generalize wr.drewN nq = w1 at *
            have T1 := Lib.hid (S1.out.keep k9)
            clear k9
            go_wp2_with fail
            go_meet
            case rel => exact ⟨T1.out, by rw [eR.out], by rw [← eR.out]; exact M1.out⟩
      case rest =>
        obtain ⟨hS, rfl, hM⟩ := hcut
        have S1c := Lib.hid hS
        have M1 := Lib.hid hM
        clear hS hM
        go_upto_block 2 with fail
        go_cut [11] from 46 to 62 (fun u wx => SoR w wx base g n cap d1 ∧ u = .int .i64 (J : Int) ∧ J ≤ bm ∧ I ≤ J + 1)
        case first =>
          go_wp2_with fail
          go_loopw [11] (fun u wr => ∃ (k2 : Nat), u = .int .i64 k2 ∧ k2 ≤ bm ∧ I ≤ k2 + 1 ∧ SoR w wr base g n cap d1 ∧ scanDown (fun x => !ltN x d1[a]!) d1 I k2 = J) (fun u _ => (intOf u).toNat)
          case atStart => exact ⟨bm, rfl, Nat.le_refl _, by have := F.out; have := HSS.out; have := M1.out; omega, S1c.out, QJ.out⟩
          case round =>
            obtain ⟨k2, rfl, hk1, hk2, hS, hE⟩ := hrel
            have S2 := Lib.hid hS
            have E2 := Lib.hid hE
            have qF := F.out
            have qHSS := HSS.out
            have qM1 := M1.out
            clear hS hE
            by_cases hle : I ≤ k2
            · have g12 : (I : Int) ≤ (k2 : Int) := by omega
              have g22 : decide (I ≤ k2) = true := decide_eq_true hle
              obtain ⟨k2m, hkm⟩ : ∃ z, z = k2 - 1 := ⟨_, rfl⟩
              have wk2 : IntKind.i64.wrap ((k2 : Int) - 1) = (k2m : Int) := by rw [IntKind.wrap_i64]; omega
              have kN : k2 < n := by omega
              have aN : a < n := by omega
              have k0I2 : (0 : Int) ≤ (k2 : Int) := by omega
              have k1I2 : (k2 : Int) < (n : Int) := by omega
              obtain ⟨x2, hx⟩ : ∃ z, d1[k2]! = z := ⟨_, rfl⟩
              have c0 := S2.out.at kN hx
              have c1 := S2.out.at aN V.out
              have LL := Lib.hid (less_u32 x2 v)
              have X2 := Lib.hid hx
              have K2 := Lib.hid (And.intro hle (And.intro hk1 (And.intro hk2 hkm)))
              clear hle hk1 hk2 kN aN hx qF qHSS qM1 hkm
              go_wp2_with fail
              go_quiet (exact Calls.quiet_of_same (LL.out _))
              have k9 := keeps_drewN wr nq
              generalize wr.drewN nq = w2 at *
              have T2 := Lib.hid (S2.out.keep k9)
              clear k9 c0 c1
              cases hb2 : ltN x2 v
              · have E2 := Lib.hid (show scanDown (fun x => !ltN x d1[a]!) d1 I (k2m) = J by rw [← E2.out, dn_on (p := (fun x => !ltN x d1[a]!)) (d := d1) (by have := F.out; have := HSS.out; have := M1.out; have := K2.out; omega) K2.out.1 (by show (!ltN d1[k2]! d1[a]!) = true; rw [V.out, X2.out, hb2]; rfl), ← K2.out.2.2.2])
                go_wp2_with fail
                go_roundw
                case rel => exact ⟨k2m, rfl, by have := K2.out; omega, by have := F.out; have := HSS.out; have := M1.out; have := K2.out; omega, T2.out, E2.out⟩
                case measure => have := F.out; have := HSS.out; have := M1.out; have := K2.out; simp [intOf]; omega
              · have eR := Lib.hid (show k2 = J by rw [← E2.out, dn_at (p := (fun x => !ltN x d1[a]!)) (d := d1) (i := I) (by show (!ltN d1[k2]! d1[a]!) = false; rw [V.out, X2.out, hb2]; rfl)])
                clear wk2
                have M2 := Lib.hid (show k2 ≤ bm ∧ I ≤ k2 + 1 from ⟨K2.out.2.1, K2.out.2.2.1⟩)
                go_wp2_with fail
                go_meet
                case rel => exact ⟨T2.out, by rw [eR.out], by rw [← eR.out]; exact M2.out⟩
            · have g12 : decide ((I : Int) ≤ (k2 : Int)) = false := decide_eq_false (by omega)
              have g22 : decide (I ≤ k2) = false := decide_eq_false hle
              have eR := Lib.hid (show k2 = J by rw [← E2.out, dn_over (p := (fun x => !ltN x d1[a]!)) (d := d1) hle])
              have M2 := Lib.hid (show k2 ≤ bm ∧ I ≤ k2 + 1 from ⟨hk1, hk2⟩)
              clear hle hk1 hk2 qF qHSS qM1
              go_wp2_with fail
              go_quiet (fail)
              have k9 := keeps_drewN wr nq
              generalize wr.drewN nq = w2 at *
              have T2 := Lib.hid (S2.out.keep k9)
              clear k9
              go_wp2_with fail
              go_meet
              case rel => exact ⟨T2.out, by rw [eR.out], by rw [← eR.out]; exact M2.out⟩
        case rest =>
          obtain ⟨hS, rfl, hM⟩ := hcut
          have S2c := Lib.hid hS
          have M2 := Lib.hid hM
          clear hS hM
          by_cases hIJ : J < I
          · have gI : (J : Int) < (I : Int) := by omega
            have gJ : decide (J < I) = true := decide_eq_true hIJ
            have E4 := Lib.hid (PE.out.1 hIJ)
            have M5 := Lib.hid (show a ≤ J ∧ J < b by have := M1.out; have := M2.out; have := F.out; have := HSS.out; omega)
            clear hIJ
            have pN : J < n := by have := M5.out; have := F.out; omega
            have qN : a < n := by have := M5.out; have := F.out; omega
            have p0I : (0 : Int) ≤ (J : Int) := by omega
            have p1I : (J : Int) < (n : Int) := by omega
            have q0I : (0 : Int) ≤ (a : Int) := by omega
            have q1I : (a : Int) < (n : Int) := by omega
            obtain ⟨xs, hx⟩ : ∃ z, d1[J]! = z := ⟨_, rfl⟩
            obtain ⟨ys, hy⟩ : ∃ z, d1[a]! = z := ⟨_, rfl⟩
            have SW := Lib.hid (S2c.out.swpx pN qN hx hy)
            have ci := S2c.out.at pN hx
            have cp := S2c.out.at qN hy
            have fi := S2c.out.fz pN
            have fp := S2c.out.fz qN
            obtain ⟨d5, hd5⟩ : ∃ z, Sort.swp d1 J a = z := ⟨_, rfl⟩
            have HNd5 := Lib.hid hd5
            rw [hd5] at SW
            clear hd5
            by_cases hpq : J = a
            · obtain rfl : J = a := hpq
              obtain rfl : xs = ys := by rw [← hx, ← hy]
              clear pN qN hx hy
              go_wp2_with fail
              go_region
              all_goals
                have SN := Lib.hid (SW.out.keep (keeps_drew _))
                generalize World.drew _ = wdd5 at *
                clear ci cp fi fp
                have h1 := E4.out
                rw [HNd5.out] at h1
                injection h1 with h1 h2
                injection h2 with h2 h3
                go_wp2_with fail
                go_returns
                exact ⟨by rw [← h1, ← h2]; rfl, h3 ▸ SN.out⟩
            · have n1 : J ≠ a := hpq
              have n2 : a ≠ J := Ne.symm hpq
              clear pN qN hx hy hpq
              go_wp2_with fail
              go_region
              all_goals
                have SN := Lib.hid (SW.out.keep (keeps_drew _))
                generalize World.drew _ = wdd5 at *
                clear ci cp fi fp
                have h1 := E4.out
                rw [HNd5.out] at h1
                injection h1 with h1 h2
                injection h2 with h2 h3
                go_wp2_with fail
                go_returns
                exact ⟨by rw [← h1, ← h2]; rfl, h3 ▸ SN.out⟩
          · have gI : decide ((J : Int) < (I : Int)) = false := decide_eq_false (by omega)
            have gJ : decide (J < I) = false := decide_eq_false hIJ
            obtain ⟨jm, hjm⟩ : ∃ z, z = J - 1 := ⟨_, rfl⟩
            have HJM := Lib.hid hjm
            have wj : IntKind.i64.wrap ((J : Int) - 1) = (jm : Int) := by rw [IntKind.wrap_i64]; have := M1.out; have := M2.out; have := HSS.out; have := F.out; omega
            have HIJ := Lib.hid hIJ
            have HLT := Lib.hid (scans_ne _ _ (fun x => by simp) d1 s bm I J QI.out QJ.out (by have := M1.out; have := HSS.out; omega) hIJ)
            have NE : I ≠ J := Nat.ne_of_lt HLT.out
            clear hjm hIJ
            have pN : I < n := by have := M1.out; have := M2.out; have := F.out; have := HSS.out; have := HLT.out; omega
            have qN : J < n := by have := M1.out; have := M2.out; have := F.out; have := HSS.out; have := HLT.out; omega
            have p0I : (0 : Int) ≤ (I : Int) := by omega
            have p1I : (I : Int) < (n : Int) := by omega
            have q0I : (0 : Int) ≤ (J : Int) := by omega
            have q1I : (J : Int) < (n : Int) := by omega
            obtain ⟨xs, hx⟩ : ∃ z, d1[I]! = z := ⟨_, rfl⟩
            obtain ⟨ys, hy⟩ : ∃ z, d1[J]! = z := ⟨_, rfl⟩
            have SW := Lib.hid (S2c.out.swpx pN qN hx hy)
            have ci := S2c.out.at pN hx
            have cp := S2c.out.at qN hy
            have fi := S2c.out.fz pN
            have fp := S2c.out.fz qN
            obtain ⟨d2, hd2⟩ : ∃ z, Sort.swp d1 I J = z := ⟨_, rfl⟩
            have HNd2 := Lib.hid hd2
            rw [hd2] at SW
            clear hd2
            have n1 : I ≠ J := NE
            have n2 : J ≠ I := Ne.symm n1
            clear pN qN hx hy
            go_wp2_with fail
            go_region
            all_goals
              have SN := Lib.hid (SW.out.keep (keeps_drew _))
              generalize World.drew _ = wdd2 at *
              clear ci cp fi fp
              obtain ⟨r, hr⟩ : ∃ r, partLoop ltN a (I + 1) jm d2 = r := ⟨_, rfl⟩
              obtain ⟨rj, D⟩ := r
              have E3 := Lib.hid hr
              have FINE := Lib.hid (show (rj, false, Sort.swp D rj a) = (ri, rb, R) from PE.out.2 HIJ.out (rj, D) (by rw [HNd2.out, ← HJM.out]; exact hr))
              clear hr
              go_wp2_with fail
              go_loopw [10, 11] (fun u v wr => ∃ (i j : Nat) (d3 : Array Nat), u = .int .i64 i ∧ v = .int .i64 j ∧ a < i ∧ i ≤ j + 1 ∧ j < b ∧ SoR w wr base g n cap d3 ∧ partLoop ltN a i j d3 = (rj, D)) (fun u v _ => (intOf v).toNat + 1 - (intOf u).toNat)
              case atStart => exact ⟨I + 1, jm, d2, by go_num, rfl, by have := M1.out; have := HSS.out; omega, by have := HJM.out; have := HLT.out; omega, by have := HJM.out; have := M2.out; have := F.out; omega, SN.out, E3.out⟩
              case round =>
                obtain ⟨i, j, d3, rfl, rfl, hai, hij, hjb, hS, hE⟩ := hrel
                have S3 := Lib.hid hS
                obtain ⟨v, hv⟩ : ∃ z, d3[a]! = z := ⟨_, rfl⟩
                have V := Lib.hid hv
                obtain ⟨I2, hI⟩ : ∃ I, scanUp (fun x => ltN x d3[a]!) d3 j i = I := ⟨_, rfl⟩
                obtain ⟨J2, hJ⟩ : ∃ J, scanDown (fun x => !ltN x d3[a]!) d3 I2 j = J := ⟨_, rfl⟩
                have PL := Lib.hid (show (J2 < I2 → (J2, d3) = (rj, D)) ∧ (¬ J2 < I2 → partLoop ltN a (I2 + 1) (J2 - 1) (Sort.swp d3 I2 J2) = (rj, D)) by
                  rw [partLoop_eq, hI, hJ] at hE
                  exact ⟨fun h => by rw [if_pos h] at hE; exact hE, fun h => by rw [if_neg h] at hE; exact hE⟩)
                have QI2 := Lib.hid hI
                have QJ2 := Lib.hid hJ
                have G2 := Lib.hid (And.intro hai (And.intro hij hjb))
                clear hS hE hv hI hJ hai hij hjb
                go_upto_block 6 with fail
                go_cut [10] from 99 to 114 (fun u wx => SoR w wx base g n cap d3 ∧ u = .int .i64 (I2 : Int) ∧ i ≤ I2 ∧ I2 ≤ j + 1)
                case first =>
                  go_wp2_with fail
                  go_loopw [10] (fun u wr => ∃ (k3 : Nat), u = .int .i64 k3 ∧ i ≤ k3 ∧ k3 ≤ j + 1 ∧ SoR w wr base g n cap d3 ∧ scanUp (fun x => ltN x d3[a]!) d3 j k3 = I2) (fun u _ => j + 1 - (intOf u).toNat)
                  case atStart => exact ⟨i, rfl, Nat.le_refl _, by have := F.out; have := G2.out; omega, S3.out, QI2.out⟩
                  case round =>
                    obtain ⟨k3, rfl, hk1, hk2, hS, hE⟩ := hrel
                    have S3 := Lib.hid hS
                    have E3 := Lib.hid hE
                    have qF := F.out
                    have qG2 := G2.out
                    clear hS hE
                    by_cases hle : k3 ≤ j
                    · have g13 : (k3 : Int) ≤ (j : Int) := by omega
                      have g23 : decide (k3 ≤ j) = true := decide_eq_true hle
                      have kN : k3 < n := by omega
                      have aN : a < n := by omega
                      have k0I3 : (0 : Int) ≤ (k3 : Int) := by omega
                      have k1I3 : (k3 : Int) < (n : Int) := by omega
                      obtain ⟨x3, hx⟩ : ∃ z, d3[k3]! = z := ⟨_, rfl⟩
                      have c0 := S3.out.at kN hx
                      have c1 := S3.out.at aN V.out
                      have LL := Lib.hid (less_u32 x3 v)
                      have X3 := Lib.hid hx
                      have K3 := Lib.hid (And.intro hle (And.intro hk1 (And.intro hk2 trivial)))
                      clear hle hk1 hk2 kN aN hx qF qG2
                      go_wp2_with fail
                      go_quiet (exact Calls.quiet_of_same (LL.out _))
                      have k9 := keeps_drewN wr nq
                      generalize wr.drewN nq = w3 at *
                      have T3 := Lib.hid (S3.out.keep k9)
                      clear k9 c0 c1
                      cases hb3 : ltN x3 v
                      · have eR := Lib.hid (show k3 = I2 by rw [← E3.out, up_at (p := (fun x => ltN x d3[a]!)) (d := d3) (j := j) (by show ltN d3[k3]! d3[a]! = false; rw [V.out, X3.out]; exact hb3)])
                        have M3 := Lib.hid (show i ≤ k3 ∧ k3 ≤ j + 1 from ⟨K3.out.2.1, K3.out.2.2.1⟩)
                        go_wp2_with fail
                        go_meet
                        case rel => exact ⟨T3.out, by rw [eR.out], by rw [← eR.out]; exact M3.out⟩
                      · have E2 := Lib.hid (show scanUp (fun x => ltN x d3[a]!) d3 j (k3 + 1) = I2 by rw [← E3.out, up_on (p := (fun x => ltN x d3[a]!)) (d := d3) K3.out.1 (by show ltN d3[k3]! d3[a]! = true; rw [V.out, X3.out]; exact hb3)])
                        go_wp2_with fail
                        go_roundw
                        case rel => exact ⟨k3 + 1, by go_num, by have := K3.out; omega, by have := F.out; have := G2.out; have := K3.out; omega, T3.out, E2.out⟩
                        case measure => have := F.out; have := G2.out; have := K3.out; simp [intOf]; omega
                    · have g13 : decide ((k3 : Int) ≤ (j : Int)) = false := decide_eq_false (by omega)
                      have g23 : decide (k3 ≤ j) = false := decide_eq_false hle
                      have eR := Lib.hid (show k3 = I2 by rw [← E3.out, up_over (p := (fun x => ltN x d3[a]!)) (d := d3) hle])
                      have M3 := Lib.hid (show i ≤ k3 ∧ k3 ≤ j + 1 from ⟨hk1, hk2⟩)
                      clear hle hk1 hk2 qF qG2
                      go_wp2_with fail
                      go_quiet (fail)
                      have k9 := keeps_drewN wr nq
                      generalize wr.drewN nq = w3 at *
                      have T3 := Lib.hid (S3.out.keep k9)
                      clear k9
                      go_wp2_with fail
                      go_meet
                      case rel => exact ⟨T3.out, by rw [eR.out], by rw [← eR.out]; exact M3.out⟩
                case rest =>
                  obtain ⟨hS, rfl, hM⟩ := hcut
                  have S3c := Lib.hid hS
                  have M3 := Lib.hid hM
                  clear hS hM
                  go_upto_block 8 with fail
                  go_cut [11] from 115 to 131 (fun u wx => SoR w wx base g n cap d3 ∧ u = .int .i64 (J2 : Int) ∧ J2 ≤ j ∧ I2 ≤ J2 + 1)
                  case first =>
                    go_wp2_with fail
                    go_loopw [11] (fun u wr => ∃ (k4 : Nat), u = .int .i64 k4 ∧ k4 ≤ j ∧ I2 ≤ k4 + 1 ∧ SoR w wr base g n cap d3 ∧ scanDown (fun x => !ltN x d3[a]!) d3 I2 k4 = J2) (fun u _ => (intOf u).toNat)
                    case atStart => exact ⟨j, rfl, Nat.le_refl _, by have := F.out; have := G2.out; have := M3.out; omega, S3c.out, QJ2.out⟩
                    case round =>
                      obtain ⟨k4, rfl, hk1, hk2, hS, hE⟩ := hrel
                      have S4 := Lib.hid hS
                      have E4 := Lib.hid hE
                      have qF := F.out
                      have qG2 := G2.out
                      have qM3 := M3.out
                      clear hS hE
                      by_cases hle : I2 ≤ k4
                      · have g14 : (I2 : Int) ≤ (k4 : Int) := by omega
                        have g24 : decide (I2 ≤ k4) = true := decide_eq_true hle
                        obtain ⟨k4m, hkm⟩ : ∃ z, z = k4 - 1 := ⟨_, rfl⟩
                        have wk4 : IntKind.i64.wrap ((k4 : Int) - 1) = (k4m : Int) := by rw [IntKind.wrap_i64]; omega
                        have kN : k4 < n := by omega
                        have aN : a < n := by omega
                        have k0I4 : (0 : Int) ≤ (k4 : Int) := by omega
                        have k1I4 : (k4 : Int) < (n : Int) := by omega
                        obtain ⟨x4, hx⟩ : ∃ z, d3[k4]! = z := ⟨_, rfl⟩
                        have c0 := S4.out.at kN hx
                        have c1 := S4.out.at aN V.out
                        have LL := Lib.hid (less_u32 x4 v)
                        have X4 := Lib.hid hx
                        have K4 := Lib.hid (And.intro hle (And.intro hk1 (And.intro hk2 hkm)))
                        clear hle hk1 hk2 kN aN hx qF qG2 qM3 hkm
                        go_wp2_with fail
                        go_quiet (exact Calls.quiet_of_same (LL.out _))
                        have k9 := keeps_drewN wr nq
                        generalize wr.drewN nq = w4 at *
                        have T4 := Lib.hid (S4.out.keep k9)
                        clear k9 c0 c1
                        cases hb4 : ltN x4 v
                        · have E2 := Lib.hid (show scanDown (fun x => !ltN x d3[a]!) d3 I2 (k4m) = J2 by rw [← E4.out, dn_on (p := (fun x => !ltN x d3[a]!)) (d := d3) (by have := F.out; have := G2.out; have := M3.out; have := K4.out; omega) K4.out.1 (by show (!ltN d3[k4]! d3[a]!) = true; rw [V.out, X4.out, hb4]; rfl), ← K4.out.2.2.2])
                          go_wp2_with fail
                          go_roundw
                          case rel => exact ⟨k4m, rfl, by have := K4.out; omega, by have := F.out; have := G2.out; have := M3.out; have := K4.out; omega, T4.out, E2.out⟩
                          case measure => have := F.out; have := G2.out; have := M3.out; have := K4.out; simp [intOf]; omega
                        · have eR := Lib.hid (show k4 = J2 by rw [← E4.out, dn_at (p := (fun x => !ltN x d3[a]!)) (d := d3) (i := I2) (by show (!ltN d3[k4]! d3[a]!) = false; rw [V.out, X4.out, hb4]; rfl)])
                          clear wk4
                          have M4 := Lib.hid (show k4 ≤ j ∧ I2 ≤ k4 + 1 from ⟨K4.out.2.1, K4.out.2.2.1⟩)
                          go_wp2_with fail
                          go_meet
                          case rel => exact ⟨T4.out, by rw [eR.out], by rw [← eR.out]; exact M4.out⟩
                      · have g14 : decide ((I2 : Int) ≤ (k4 : Int)) = false := decide_eq_false (by omega)
                        have g24 : decide (I2 ≤ k4) = false := decide_eq_false hle
                        have eR := Lib.hid (show k4 = J2 by rw [← E4.out, dn_over (p := (fun x => !ltN x d3[a]!)) (d := d3) hle])
                        have M4 := Lib.hid (show k4 ≤ j ∧ I2 ≤ k4 + 1 from ⟨hk1, hk2⟩)
                        clear hle hk1 hk2 qF qG2 qM3
                        go_wp2_with fail
                        go_quiet (fail)
                        have k9 := keeps_drewN wr nq
                        generalize wr.drewN nq = w4 at *
                        have T4 := Lib.hid (S4.out.keep k9)
                        clear k9
                        go_wp2_with fail
                        go_meet
                        case rel => exact ⟨T4.out, by rw [eR.out], by rw [← eR.out]; exact M4.out⟩
                  case rest =>
                    obtain ⟨hS, rfl, hM⟩ := hcut
                    have S4c := Lib.hid hS
                    have M4 := Lib.hid hM
                    clear hS hM
                    by_cases hIJ2 : J2 < I2
                    · have gI2 : (J2 : Int) < (I2 : Int) := by omega
                      have gJ2 : decide (J2 < I2) = true := decide_eq_true hIJ2
                      have E4 := Lib.hid (show (J2, false, Sort.swp d3 J2 a) = (ri, rb, R) by
                        have h1 := PL.out.1 hIJ2
                        rw [show J2 = rj from congrArg Prod.fst h1, show d3 = D from congrArg Prod.snd h1]
                        exact FINE.out)
                      have M5 := Lib.hid (show a ≤ J2 ∧ J2 < b by have := M3.out; have := M4.out; have := G2.out; omega)
                      clear hIJ2
                      have pN : J2 < n := by have := M5.out; have := F.out; omega
                      have qN : a < n := by have := M5.out; have := F.out; omega
                      have p0I : (0 : Int) ≤ (J2 : Int) := by omega
                      have p1I : (J2 : Int) < (n : Int) := by omega
                      have q0I : (0 : Int) ≤ (a : Int) := by omega
                      have q1I : (a : Int) < (n : Int) := by omega
                      obtain ⟨xs, hx⟩ : ∃ z, d3[J2]! = z := ⟨_, rfl⟩
                      obtain ⟨ys, hy⟩ : ∃ z, d3[a]! = z := ⟨_, rfl⟩
                      have SW := Lib.hid (S4c.out.swpx pN qN hx hy)
                      have ci := S4c.out.at pN hx
                      have cp := S4c.out.at qN hy
                      have fi := S4c.out.fz pN
                      have fp := S4c.out.fz qN
                      obtain ⟨d5, hd5⟩ : ∃ z, Sort.swp d3 J2 a = z := ⟨_, rfl⟩
                      have HNd5 := Lib.hid hd5
                      rw [hd5] at SW
                      clear hd5
                      by_cases hpq : J2 = a
                      · obtain rfl : J2 = a := hpq
                        obtain rfl : xs = ys := by rw [← hx, ← hy]
                        clear pN qN hx hy
                        go_wp2_with fail
                        go_region
                        all_goals
                          have SN := Lib.hid (SW.out.keep (keeps_drew _))
                          generalize World.drew _ = wdd5 at *
                          clear ci cp fi fp
                          have h1 := E4.out
                          rw [HNd5.out] at h1
                          injection h1 with h1 h2
                          injection h2 with h2 h3
                          go_wp2_with fail
                          go_returns
                          exact ⟨by rw [← h1, ← h2]; rfl, h3 ▸ SN.out⟩
                      · have n1 : J2 ≠ a := hpq
                        have n2 : a ≠ J2 := Ne.symm hpq
                        clear pN qN hx hy hpq
                        go_wp2_with fail
                        go_region
                        all_goals
                          have SN := Lib.hid (SW.out.keep (keeps_drew _))
                          generalize World.drew _ = wdd5 at *
                          clear ci cp fi fp
                          have h1 := E4.out
                          rw [HNd5.out] at h1
                          injection h1 with h1 h2
                          injection h2 with h2 h3
                          go_wp2_with fail
                          go_returns
                          exact ⟨by rw [← h1, ← h2]; rfl, h3 ▸ SN.out⟩
                    · have gI2 : decide ((J2 : Int) < (I2 : Int)) = false := decide_eq_false (by omega)
                      have gJ2 : decide (J2 < I2) = false := decide_eq_false hIJ2
                      obtain ⟨jm2, hjm2⟩ : ∃ z, z = J2 - 1 := ⟨_, rfl⟩
                      have HJM2 := Lib.hid hjm2
                      have wj2 : IntKind.i64.wrap ((J2 : Int) - 1) = (jm2 : Int) := by rw [IntKind.wrap_i64]; have := M3.out; have := M4.out; have := G2.out; have := F.out; omega
                      have HIJ2 := Lib.hid hIJ2
                      have HLT2 := Lib.hid (scans_ne _ _ (fun x => by simp) d3 i j I2 J2 QI2.out QJ2.out (by have := M3.out; have := G2.out; omega) hIJ2)
                      have NE2 : I2 ≠ J2 := Nat.ne_of_lt HLT2.out
                      clear hjm2 hIJ2
                      have pN : I2 < n := by have := M3.out; have := M4.out; have := G2.out; have := F.out; have := HLT2.out; omega
                      have qN : J2 < n := by have := M3.out; have := M4.out; have := G2.out; have := F.out; have := HLT2.out; omega
                      have p0I : (0 : Int) ≤ (I2 : Int) := by omega
                      have p1I : (I2 : Int) < (n : Int) := by omega
                      have q0I : (0 : Int) ≤ (J2 : Int) := by omega
                      have q1I : (J2 : Int) < (n : Int) := by omega
                      obtain ⟨xs, hx⟩ : ∃ z, d3[I2]! = z := ⟨_, rfl⟩
                      obtain ⟨ys, hy⟩ : ∃ z, d3[J2]! = z := ⟨_, rfl⟩
                      have SW := Lib.hid (S4c.out.swpx pN qN hx hy)
                      have ci := S4c.out.at pN hx
                      have cp := S4c.out.at qN hy
                      have fi := S4c.out.fz pN
                      have fp := S4c.out.fz qN
                      obtain ⟨d4, hd4⟩ : ∃ z, Sort.swp d3 I2 J2 = z := ⟨_, rfl⟩
                      have HNd4 := Lib.hid hd4
                      rw [hd4] at SW
                      clear hd4
                      have n1 : I2 ≠ J2 := NE2
                      have n2 : J2 ≠ I2 := Ne.symm n1
                      clear pN qN hx hy
                      go_wp2_with fail
                      go_region
                      all_goals
                        have SN := Lib.hid (SW.out.keep (keeps_drew _))
                        generalize World.drew _ = wdd4 at *
                        clear ci cp fi fp
                        have E5 := Lib.hid (show partLoop ltN a (I2 + 1) jm2 d4 = (rj, D) by
                          rw [← HNd4.out, HJM2.out]
                          exact PL.out.2 HIJ2.out)
                        go_wp2_with fail
                        go_roundw
                        case rel => exact ⟨I2 + 1, jm2, d4, by go_num, rfl, by have := M3.out; have := G2.out; omega, by have := HJM2.out; have := HLT2.out; omega, by have := HJM2.out; have := M4.out; have := G2.out; omega, SN.out, E5.out⟩
                        case measure => have := M3.out; have := M4.out; have := HJM2.out; have := HLT2.out; have := G2.out; simp [intOf]; omega
  · have n1 : a ≠ pivot := hpq
    have n2 : pivot ≠ a := Ne.symm hpq
    clear pN qN hx hy hpq
    go_wp2_with fail
    go_region
    all_goals
      have SN := Lib.hid (SW.out.keep (keeps_drew _))
      generalize World.drew _ = wdd1 at *
      clear ci cp fi fp
      obtain ⟨v, hv⟩ : ∃ z, d1[a]! = z := ⟨_, rfl⟩
      have V := Lib.hid hv
      obtain ⟨I, hI⟩ : ∃ I, scanUp (fun x => ltN x d1[a]!) d1 bm s = I := ⟨_, rfl⟩
      obtain ⟨J, hJ⟩ : ∃ J, scanDown (fun x => !ltN x d1[a]!) d1 I bm = J := ⟨_, rfl⟩
      have PE := Lib.hid (HR.out d1 HNd1.out I J (by rw [← HSS.out]; exact hI) hJ)
      have QI := Lib.hid hI
      have QJ := Lib.hid hJ
      clear hv hI hJ
      go_upto_block 0 with fail
      go_cut [10] from 30 to 45 (fun u wx => SoR w wx base g n cap d1 ∧ u = .int .i64 (I : Int) ∧ s ≤ I ∧ I ≤ bm + 1)
      case first =>
        go_wp2_with fail
        go_loopw [10] (fun u wr => ∃ (k1 : Nat), u = .int .i64 k1 ∧ s ≤ k1 ∧ k1 ≤ bm + 1 ∧ SoR w wr base g n cap d1 ∧ scanUp (fun x => ltN x d1[a]!) d1 bm k1 = I) (fun u _ => bm + 1 - (intOf u).toNat)
        case atStart => exact ⟨s, rfl, Nat.le_refl _, by have := F.out; have := HSS.out; omega, SN.out, QI.out⟩
        case round =>
          obtain ⟨k1, rfl, hk1, hk2, hS, hE⟩ := hrel
          have S1 := Lib.hid hS
          have E1 := Lib.hid hE
          have qF := F.out
          have qHSS := HSS.out
          clear hS hE
          by_cases hle : k1 ≤ bm
          · have g11 : (k1 : Int) ≤ (bm : Int) := by omega
            have g21 : decide (k1 ≤ bm) = true := decide_eq_true hle
            have kN : k1 < n := by omega
            have aN : a < n := by omega
            have k0I1 : (0 : Int) ≤ (k1 : Int) := by omega
            have k1I1 : (k1 : Int) < (n : Int) := by omega
            obtain ⟨x1, hx⟩ : ∃ z, d1[k1]! = z := ⟨_, rfl⟩
            have c0 := S1.out.at kN hx
            have c1 := S1.out.at aN V.out
            have LL := Lib.hid (less_u32 x1 v)
            have X1 := Lib.hid hx
            have K1 := Lib.hid (And.intro hle (And.intro hk1 (And.intro hk2 trivial)))
            clear hle hk1 hk2 kN aN hx qF qHSS
            go_wp2_with fail
            go_quiet (exact Calls.quiet_of_same (LL.out _))
            have k9 := keeps_drewN wr nq
            generalize wr.drewN nq = w1 at *
            have T1 := Lib.hid (S1.out.keep k9)
            clear k9 c0 c1
            cases hb1 : ltN x1 v
            · have eR := Lib.hid (show k1 = I by rw [← E1.out, up_at (p := (fun x => ltN x d1[a]!)) (d := d1) (j := bm) (by show ltN d1[k1]! d1[a]! = false; rw [V.out, X1.out]; exact hb1)])
              have M1 := Lib.hid (show s ≤ k1 ∧ k1 ≤ bm + 1 from ⟨K1.out.2.1, K1.out.2.2.1⟩)
              go_wp2_with fail
              go_meet
              case rel => exact ⟨T1.out, by rw [eR.out], by rw [← eR.out]; exact M1.out⟩
            · have E2 := Lib.hid (show scanUp (fun x => ltN x d1[a]!) d1 bm (k1 + 1) = I by rw [← E1.out, up_on (p := (fun x => ltN x d1[a]!)) (d := d1) K1.out.1 (by show ltN d1[k1]! d1[a]! = true; rw [V.out, X1.out]; exact hb1)])
              go_wp2_with fail
              go_roundw
              case rel => exact ⟨k1 + 1, by go_num, by have := K1.out; omega, by have := F.out; have := HSS.out; have := K1.out; omega, T1.out, E2.out⟩
              case measure => have := F.out; have := HSS.out; have := K1.out; simp [intOf]; omega
          · have g11 : decide ((k1 : Int) ≤ (bm : Int)) = false := decide_eq_false (by omega)
            have g21 : decide (k1 ≤ bm) = false := decide_eq_false hle
            have eR := Lib.hid (show k1 = I by rw [← E1.out, up_over (p := (fun x => ltN x d1[a]!)) (d := d1) hle])
            have M1 := Lib.hid (show s ≤ k1 ∧ k1 ≤ bm + 1 from ⟨hk1, hk2⟩)
            clear hle hk1 hk2 qF qHSS
            go_wp2_with fail
            go_quiet (fail)
            have k9 := keeps_drewN wr nq
            generalize wr.drewN nq = w1 at *
            have T1 := Lib.hid (S1.out.keep k9)
            clear k9
            go_wp2_with fail
            go_meet
            case rel => exact ⟨T1.out, by rw [eR.out], by rw [← eR.out]; exact M1.out⟩
      case rest =>
        obtain ⟨hS, rfl, hM⟩ := hcut
        have S1c := Lib.hid hS
        have M1 := Lib.hid hM
        clear hS hM
        go_upto_block 2 with fail
        go_cut [11] from 46 to 62 (fun u wx => SoR w wx base g n cap d1 ∧ u = .int .i64 (J : Int) ∧ J ≤ bm ∧ I ≤ J + 1)
        case first =>
          go_wp2_with fail
          go_loopw [11] (fun u wr => ∃ (k2 : Nat), u = .int .i64 k2 ∧ k2 ≤ bm ∧ I ≤ k2 + 1 ∧ SoR w wr base g n cap d1 ∧ scanDown (fun x => !ltN x d1[a]!) d1 I k2 = J) (fun u _ => (intOf u).toNat)
          case atStart => exact ⟨bm, rfl, Nat.le_refl _, by have := F.out; have := HSS.out; have := M1.out; omega, S1c.out, QJ.out⟩
          case round =>
            obtain ⟨k2, rfl, hk1, hk2, hS, hE⟩ := hrel
            have S2 := Lib.hid hS
            have E2 := Lib.hid hE
            have qF := F.out
            have qHSS := HSS.out
            have qM1 := M1.out
            clear hS hE
            by_cases hle : I ≤ k2
            · have g12 : (I : Int) ≤ (k2 : Int) := by omega
              have g22 : decide (I ≤ k2) = true := decide_eq_true hle
              obtain ⟨k2m, hkm⟩ : ∃ z, z = k2 - 1 := ⟨_, rfl⟩
              have wk2 : IntKind.i64.wrap ((k2 : Int) - 1) = (k2m : Int) := by rw [IntKind.wrap_i64]; omega
              have kN : k2 < n := by omega
              have aN : a < n := by omega
              have k0I2 : (0 : Int) ≤ (k2 : Int) := by omega
              have k1I2 : (k2 : Int) < (n : Int) := by omega
              obtain ⟨x2, hx⟩ : ∃ z, d1[k2]! = z := ⟨_, rfl⟩
              have c0 := S2.out.at kN hx
              have c1 := S2.out.at aN V.out
              have LL := Lib.hid (less_u32 x2 v)
              have X2 := Lib.hid hx
              have K2 := Lib.hid (And.intro hle (And.intro hk1 (And.intro hk2 hkm)))
              clear hle hk1 hk2 kN aN hx qF qHSS qM1 hkm
              go_wp2_with fail
              go_quiet (exact Calls.quiet_of_same (LL.out _))
              have k9 := keeps_drewN wr nq
              generalize wr.drewN nq = w2 at *
              have T2 := Lib.hid (S2.out.keep k9)
              clear k9 c0 c1
              cases hb2 : ltN x2 v
              · have E2 := Lib.hid (show scanDown (fun x => !ltN x d1[a]!) d1 I (k2m) = J by rw [← E2.out, dn_on (p := (fun x => !ltN x d1[a]!)) (d := d1) (by have := F.out; have := HSS.out; have := M1.out; have := K2.out; omega) K2.out.1 (by show (!ltN d1[k2]! d1[a]!) = true; rw [V.out, X2.out, hb2]; rfl), ← K2.out.2.2.2])
                go_wp2_with fail
                go_roundw
                case rel => exact ⟨k2m, rfl, by have := K2.out; omega, by have := F.out; have := HSS.out; have := M1.out; have := K2.out; omega, T2.out, E2.out⟩
                case measure => have := F.out; have := HSS.out; have := M1.out; have := K2.out; simp [intOf]; omega
              · have eR := Lib.hid (show k2 = J by rw [← E2.out, dn_at (p := (fun x => !ltN x d1[a]!)) (d := d1) (i := I) (by show (!ltN d1[k2]! d1[a]!) = false; rw [V.out, X2.out, hb2]; rfl)])
                clear wk2
                have M2 := Lib.hid (show k2 ≤ bm ∧ I ≤ k2 + 1 from ⟨K2.out.2.1, K2.out.2.2.1⟩)
                go_wp2_with fail
                go_meet
                case rel => exact ⟨T2.out, by rw [eR.out], by rw [← eR.out]; exact M2.out⟩
            · have g12 : decide ((I : Int) ≤ (k2 : Int)) = false := decide_eq_false (by omega)
              have g22 : decide (I ≤ k2) = false := decide_eq_false hle
              have eR := Lib.hid (show k2 = J by rw [← E2.out, dn_over (p := (fun x => !ltN x d1[a]!)) (d := d1) hle])
              have M2 := Lib.hid (show k2 ≤ bm ∧ I ≤ k2 + 1 from ⟨hk1, hk2⟩)
              clear hle hk1 hk2 qF qHSS qM1
              go_wp2_with fail
              go_quiet (fail)
              have k9 := keeps_drewN wr nq
              generalize wr.drewN nq = w2 at *
              have T2 := Lib.hid (S2.out.keep k9)
              clear k9
              go_wp2_with fail
              go_meet
              case rel => exact ⟨T2.out, by rw [eR.out], by rw [← eR.out]; exact M2.out⟩
        case rest =>
          obtain ⟨hS, rfl, hM⟩ := hcut
          have S2c := Lib.hid hS
          have M2 := Lib.hid hM
          clear hS hM
          by_cases hIJ : J < I
          · have gI : (J : Int) < (I : Int) := by omega
            have gJ : decide (J < I) = true := decide_eq_true hIJ
            have E4 := Lib.hid (PE.out.1 hIJ)
            have M5 := Lib.hid (show a ≤ J ∧ J < b by have := M1.out; have := M2.out; have := F.out; have := HSS.out; omega)
            clear hIJ
            have pN : J < n := by have := M5.out; have := F.out; omega
            have qN : a < n := by have := M5.out; have := F.out; omega
            have p0I : (0 : Int) ≤ (J : Int) := by omega
            have p1I : (J : Int) < (n : Int) := by omega
            have q0I : (0 : Int) ≤ (a : Int) := by omega
            have q1I : (a : Int) < (n : Int) := by omega
            obtain ⟨xs, hx⟩ : ∃ z, d1[J]! = z := ⟨_, rfl⟩
            obtain ⟨ys, hy⟩ : ∃ z, d1[a]! = z := ⟨_, rfl⟩
            have SW := Lib.hid (S2c.out.swpx pN qN hx hy)
            have ci := S2c.out.at pN hx
            have cp := S2c.out.at qN hy
            have fi := S2c.out.fz pN
            have fp := S2c.out.fz qN
            obtain ⟨d5, hd5⟩ : ∃ z, Sort.swp d1 J a = z := ⟨_, rfl⟩
            have HNd5 := Lib.hid hd5
            rw [hd5] at SW
            clear hd5
            by_cases hpq : J = a
            · obtain rfl : J = a := hpq
              obtain rfl : xs = ys := by rw [← hx, ← hy]
              clear pN qN hx hy
              go_wp2_with fail
              go_region
              all_goals
                have SN := Lib.hid (SW.out.keep (keeps_drew _))
                generalize World.drew _ = wdd5 at *
                clear ci cp fi fp
                have h1 := E4.out
                rw [HNd5.out] at h1
                injection h1 with h1 h2
                injection h2 with h2 h3
                go_wp2_with fail
                go_returns
                exact ⟨by rw [← h1, ← h2]; rfl, h3 ▸ SN.out⟩
            · have n1 : J ≠ a := hpq
              have n2 : a ≠ J := Ne.symm hpq
              clear pN qN hx hy hpq
              go_wp2_with fail
              go_region
              all_goals
                have SN := Lib.hid (SW.out.keep (keeps_drew _))
                generalize World.drew _ = wdd5 at *
                clear ci cp fi fp
                have h1 := E4.out
                rw [HNd5.out] at h1
                injection h1 with h1 h2
                injection h2 with h2 h3
                go_wp2_with fail
                go_returns
                exact ⟨by rw [← h1, ← h2]; rfl, h3 ▸ SN.out⟩
          · have gI : decide ((J : Int) < (I : Int)) = false := decide_eq_false (by omega)
            have gJ : decide (J < I) = false := decide_eq_false hIJ
            obtain ⟨jm, hjm⟩ : ∃ z, z = J - 1 := ⟨_, rfl⟩
            have HJM := Lib.hid hjm
            have wj : IntKind.i64.wrap ((J : Int) - 1) = (jm : Int) := by rw [IntKind.wrap_i64]; have := M1.out; have := M2.out; have := HSS.out; have := F.out; omega
            have HIJ := Lib.hid hIJ
            have HLT := Lib.hid (scans_ne _ _ (fun x => by simp) d1 s bm I J QI.out QJ.out (by have := M1.out; have := HSS.out; omega) hIJ)
            have NE : I ≠ J := Nat.ne_of_lt HLT.out
            clear hjm hIJ
            have pN : I < n := by have := M1.out; have := M2.out; have := F.out; have := HSS.out; have := HLT.out; omega
            have qN : J < n := by have := M1.out; have := M2.out; have := F.out; have := HSS.out; have := HLT.out; omega
            have p0I : (0 : Int) ≤ (I : Int) := by omega
            have p1I : (I : Int) < (n : Int) := by omega
            have q0I : (0 : Int) ≤ (J : Int) := by omega
            have q1I : (J : Int) < (n : Int) := by omega
            obtain ⟨xs, hx⟩ : ∃ z, d1[I]! = z := ⟨_, rfl⟩
            obtain ⟨ys, hy⟩ : ∃ z, d1[J]! = z := ⟨_, rfl⟩
            have SW := Lib.hid (S2c.out.swpx pN qN hx hy)
            have ci := S2c.out.at pN hx
            have cp := S2c.out.at qN hy
            have fi := S2c.out.fz pN
            have fp := S2c.out.fz qN
            obtain ⟨d2, hd2⟩ : ∃ z, Sort.swp d1 I J = z := ⟨_, rfl⟩
            have HNd2 := Lib.hid hd2
            rw [hd2] at SW
            clear hd2
            have n1 : I ≠ J := NE
            have n2 : J ≠ I := Ne.symm n1
            clear pN qN hx hy
            go_wp2_with fail
            go_region
            all_goals
              have SN := Lib.hid (SW.out.keep (keeps_drew _))
              generalize World.drew _ = wdd2 at *
              clear ci cp fi fp
              obtain ⟨r, hr⟩ : ∃ r, partLoop ltN a (I + 1) jm d2 = r := ⟨_, rfl⟩
              obtain ⟨rj, D⟩ := r
              have E3 := Lib.hid hr
              have FINE := Lib.hid (show (rj, false, Sort.swp D rj a) = (ri, rb, R) from PE.out.2 HIJ.out (rj, D) (by rw [HNd2.out, ← HJM.out]; exact hr))
              clear hr
              go_wp2_with fail
              go_loopw [10, 11] (fun u v wr => ∃ (i j : Nat) (d3 : Array Nat), u = .int .i64 i ∧ v = .int .i64 j ∧ a < i ∧ i ≤ j + 1 ∧ j < b ∧ SoR w wr base g n cap d3 ∧ partLoop ltN a i j d3 = (rj, D)) (fun u v _ => (intOf v).toNat + 1 - (intOf u).toNat)
              case atStart => exact ⟨I + 1, jm, d2, by go_num, rfl, by have := M1.out; have := HSS.out; omega, by have := HJM.out; have := HLT.out; omega, by have := HJM.out; have := M2.out; have := F.out; omega, SN.out, E3.out⟩
              case round =>
                obtain ⟨i, j, d3, rfl, rfl, hai, hij, hjb, hS, hE⟩ := hrel
                have S3 := Lib.hid hS
                obtain ⟨v, hv⟩ : ∃ z, d3[a]! = z := ⟨_, rfl⟩
                have V := Lib.hid hv
                obtain ⟨I2, hI⟩ : ∃ I, scanUp (fun x => ltN x d3[a]!) d3 j i = I := ⟨_, rfl⟩
                obtain ⟨J2, hJ⟩ : ∃ J, scanDown (fun x => !ltN x d3[a]!) d3 I2 j = J := ⟨_, rfl⟩
                have PL := Lib.hid (show (J2 < I2 → (J2, d3) = (rj, D)) ∧ (¬ J2 < I2 → partLoop ltN a (I2 + 1) (J2 - 1) (Sort.swp d3 I2 J2) = (rj, D)) by
                  rw [partLoop_eq, hI, hJ] at hE
                  exact ⟨fun h => by rw [if_pos h] at hE; exact hE, fun h => by rw [if_neg h] at hE; exact hE⟩)
                have QI2 := Lib.hid hI
                have QJ2 := Lib.hid hJ
                have G2 := Lib.hid (And.intro hai (And.intro hij hjb))
                clear hS hE hv hI hJ hai hij hjb
                go_upto_block 6 with fail
                go_cut [10] from 99 to 114 (fun u wx => SoR w wx base g n cap d3 ∧ u = .int .i64 (I2 : Int) ∧ i ≤ I2 ∧ I2 ≤ j + 1)
                case first =>
                  go_wp2_with fail
                  go_loopw [10] (fun u wr => ∃ (k3 : Nat), u = .int .i64 k3 ∧ i ≤ k3 ∧ k3 ≤ j + 1 ∧ SoR w wr base g n cap d3 ∧ scanUp (fun x => ltN x d3[a]!) d3 j k3 = I2) (fun u _ => j + 1 - (intOf u).toNat)
                  case atStart => exact ⟨i, rfl, Nat.le_refl _, by have := F.out; have := G2.out; omega, S3.out, QI2.out⟩
                  case round =>
                    obtain ⟨k3, rfl, hk1, hk2, hS, hE⟩ := hrel
                    have S3 := Lib.hid hS
                    have E3 := Lib.hid hE
                    have qF := F.out
                    have qG2 := G2.out
                    clear hS hE
                    by_cases hle : k3 ≤ j
                    · have g13 : (k3 : Int) ≤ (j : Int) := by omega
                      have g23 : decide (k3 ≤ j) = true := decide_eq_true hle
                      have kN : k3 < n := by omega
                      have aN : a < n := by omega
                      have k0I3 : (0 : Int) ≤ (k3 : Int) := by omega
                      have k1I3 : (k3 : Int) < (n : Int) := by omega
                      obtain ⟨x3, hx⟩ : ∃ z, d3[k3]! = z := ⟨_, rfl⟩
                      have c0 := S3.out.at kN hx
                      have c1 := S3.out.at aN V.out
                      have LL := Lib.hid (less_u32 x3 v)
                      have X3 := Lib.hid hx
                      have K3 := Lib.hid (And.intro hle (And.intro hk1 (And.intro hk2 trivial)))
                      clear hle hk1 hk2 kN aN hx qF qG2
                      go_wp2_with fail
                      go_quiet (exact Calls.quiet_of_same (LL.out _))
                      have k9 := keeps_drewN wr nq
                      generalize wr.drewN nq = w3 at *
                      have T3 := Lib.hid (S3.out.keep k9)
                      clear k9 c0 c1
                      cases hb3 : ltN x3 v
                      · have eR := Lib.hid (show k3 = I2 by rw [← E3.out, up_at (p := (fun x => ltN x d3[a]!)) (d := d3) (j := j) (by show ltN d3[k3]! d3[a]! = false; rw [V.out, X3.out]; exact hb3)])
                        have M3 := Lib.hid (show i ≤ k3 ∧ k3 ≤ j + 1 from ⟨K3.out.2.1, K3.out.2.2.1⟩)
                        go_wp2_with fail
                        go_meet
                        case rel => exact ⟨T3.out, by rw [eR.out], by rw [← eR.out]; exact M3.out⟩
                      · have E2 := Lib.hid (show scanUp (fun x => ltN x d3[a]!) d3 j (k3 + 1) = I2 by rw [← E3.out, up_on (p := (fun x => ltN x d3[a]!)) (d := d3) K3.out.1 (by show ltN d3[k3]! d3[a]! = true; rw [V.out, X3.out]; exact hb3)])
                        go_wp2_with fail
                        go_roundw
                        case rel => exact ⟨k3 + 1, by go_num, by have := K3.out; omega, by have := F.out; have := G2.out; have := K3.out; omega, T3.out, E2.out⟩
                        case measure => have := F.out; have := G2.out; have := K3.out; simp [intOf]; omega
                    · have g13 : decide ((k3 : Int) ≤ (j : Int)) = false := decide_eq_false (by omega)
                      have g23 : decide (k3 ≤ j) = false := decide_eq_false hle
                      have eR := Lib.hid (show k3 = I2 by rw [← E3.out, up_over (p := (fun x => ltN x d3[a]!)) (d := d3) hle])
                      have M3 := Lib.hid (show i ≤ k3 ∧ k3 ≤ j + 1 from ⟨hk1, hk2⟩)
                      clear hle hk1 hk2 qF qG2
                      go_wp2_with fail
                      go_quiet (fail)
                      have k9 := keeps_drewN wr nq
                      generalize wr.drewN nq = w3 at *
                      have T3 := Lib.hid (S3.out.keep k9)
                      clear k9
                      go_wp2_with fail
                      go_meet
                      case rel => exact ⟨T3.out, by rw [eR.out], by rw [← eR.out]; exact M3.out⟩
                case rest =>
                  obtain ⟨hS, rfl, hM⟩ := hcut
                  have S3c := Lib.hid hS
                  have M3 := Lib.hid hM
                  clear hS hM
                  go_upto_block 8 with fail
                  go_cut [11] from 115 to 131 (fun u wx => SoR w wx base g n cap d3 ∧ u = .int .i64 (J2 : Int) ∧ J2 ≤ j ∧ I2 ≤ J2 + 1)
                  case first =>
                    go_wp2_with fail
                    go_loopw [11] (fun u wr => ∃ (k4 : Nat), u = .int .i64 k4 ∧ k4 ≤ j ∧ I2 ≤ k4 + 1 ∧ SoR w wr base g n cap d3 ∧ scanDown (fun x => !ltN x d3[a]!) d3 I2 k4 = J2) (fun u _ => (intOf u).toNat)
                    case atStart => exact ⟨j, rfl, Nat.le_refl _, by have := F.out; have := G2.out; have := M3.out; omega, S3c.out, QJ2.out⟩
                    case round =>
                      obtain ⟨k4, rfl, hk1, hk2, hS, hE⟩ := hrel
                      have S4 := Lib.hid hS
                      have E4 := Lib.hid hE
                      have qF := F.out
                      have qG2 := G2.out
                      have qM3 := M3.out
                      clear hS hE
                      by_cases hle : I2 ≤ k4
                      · have g14 : (I2 : Int) ≤ (k4 : Int) := by omega
                        have g24 : decide (I2 ≤ k4) = true := decide_eq_true hle
                        obtain ⟨k4m, hkm⟩ : ∃ z, z = k4 - 1 := ⟨_, rfl⟩
                        have wk4 : IntKind.i64.wrap ((k4 : Int) - 1) = (k4m : Int) := by rw [IntKind.wrap_i64]; omega
                        have kN : k4 < n := by omega
                        have aN : a < n := by omega
                        have k0I4 : (0 : Int) ≤ (k4 : Int) := by omega
                        have k1I4 : (k4 : Int) < (n : Int) := by omega
                        obtain ⟨x4, hx⟩ : ∃ z, d3[k4]! = z := ⟨_, rfl⟩
                        have c0 := S4.out.at kN hx
                        have c1 := S4.out.at aN V.out
                        have LL := Lib.hid (less_u32 x4 v)
                        have X4 := Lib.hid hx
                        have K4 := Lib.hid (And.intro hle (And.intro hk1 (And.intro hk2 hkm)))
                        clear hle hk1 hk2 kN aN hx qF qG2 qM3 hkm
                        go_wp2_with fail
                        go_quiet (exact Calls.quiet_of_same (LL.out _))
                        have k9 := keeps_drewN wr nq
                        generalize wr.drewN nq = w4 at *
                        have T4 := Lib.hid (S4.out.keep k9)
                        clear k9 c0 c1
                        cases hb4 : ltN x4 v
                        · have E2 := Lib.hid (show scanDown (fun x => !ltN x d3[a]!) d3 I2 (k4m) = J2 by rw [← E4.out, dn_on (p := (fun x => !ltN x d3[a]!)) (d := d3) (by have := F.out; have := G2.out; have := M3.out; have := K4.out; omega) K4.out.1 (by show (!ltN d3[k4]! d3[a]!) = true; rw [V.out, X4.out, hb4]; rfl), ← K4.out.2.2.2])
                          go_wp2_with fail
                          go_roundw
                          case rel => exact ⟨k4m, rfl, by have := K4.out; omega, by have := F.out; have := G2.out; have := M3.out; have := K4.out; omega, T4.out, E2.out⟩
                          case measure => have := F.out; have := G2.out; have := M3.out; have := K4.out; simp [intOf]; omega
                        · have eR := Lib.hid (show k4 = J2 by rw [← E4.out, dn_at (p := (fun x => !ltN x d3[a]!)) (d := d3) (i := I2) (by show (!ltN d3[k4]! d3[a]!) = false; rw [V.out, X4.out, hb4]; rfl)])
                          clear wk4
                          have M4 := Lib.hid (show k4 ≤ j ∧ I2 ≤ k4 + 1 from ⟨K4.out.2.1, K4.out.2.2.1⟩)
                          go_wp2_with fail
                          go_meet
                          case rel => exact ⟨T4.out, by rw [eR.out], by rw [← eR.out]; exact M4.out⟩
                      · have g14 : decide ((I2 : Int) ≤ (k4 : Int)) = false := decide_eq_false (by omega)
                        have g24 : decide (I2 ≤ k4) = false := decide_eq_false hle
                        have eR := Lib.hid (show k4 = J2 by rw [← E4.out, dn_over (p := (fun x => !ltN x d3[a]!)) (d := d3) hle])
                        have M4 := Lib.hid (show k4 ≤ j ∧ I2 ≤ k4 + 1 from ⟨hk1, hk2⟩)
                        clear hle hk1 hk2 qF qG2 qM3
                        go_wp2_with fail
                        go_quiet (fail)
                        have k9 := keeps_drewN wr nq
                        generalize wr.drewN nq = w4 at *
                        have T4 := Lib.hid (S4.out.keep k9)
                        clear k9
                        go_wp2_with fail
                        go_meet
                        case rel => exact ⟨T4.out, by rw [eR.out], by rw [← eR.out]; exact M4.out⟩
                  case rest =>
                    obtain ⟨hS, rfl, hM⟩ := hcut
                    have S4c := Lib.hid hS
                    have M4 := Lib.hid hM
                    clear hS hM
                    by_cases hIJ2 : J2 < I2
                    · have gI2 : (J2 : Int) < (I2 : Int) := by omega
                      have gJ2 : decide (J2 < I2) = true := decide_eq_true hIJ2
                      have E4 := Lib.hid (show (J2, false, Sort.swp d3 J2 a) = (ri, rb, R) by
                        have h1 := PL.out.1 hIJ2
                        rw [show J2 = rj from congrArg Prod.fst h1, show d3 = D from congrArg Prod.snd h1]
                        exact FINE.out)
                      have M5 := Lib.hid (show a ≤ J2 ∧ J2 < b by have := M3.out; have := M4.out; have := G2.out; omega)
                      clear hIJ2
                      have pN : J2 < n := by have := M5.out; have := F.out; omega
                      have qN : a < n := by have := M5.out; have := F.out; omega
                      have p0I : (0 : Int) ≤ (J2 : Int) := by omega
                      have p1I : (J2 : Int) < (n : Int) := by omega
                      have q0I : (0 : Int) ≤ (a : Int) := by omega
                      have q1I : (a : Int) < (n : Int) := by omega
                      obtain ⟨xs, hx⟩ : ∃ z, d3[J2]! = z := ⟨_, rfl⟩
                      obtain ⟨ys, hy⟩ : ∃ z, d3[a]! = z := ⟨_, rfl⟩
                      have SW := Lib.hid (S4c.out.swpx pN qN hx hy)
                      have ci := S4c.out.at pN hx
                      have cp := S4c.out.at qN hy
                      have fi := S4c.out.fz pN
                      have fp := S4c.out.fz qN
                      obtain ⟨d5, hd5⟩ : ∃ z, Sort.swp d3 J2 a = z := ⟨_, rfl⟩
                      have HNd5 := Lib.hid hd5
                      rw [hd5] at SW
                      clear hd5
                      by_cases hpq : J2 = a
                      · obtain rfl : J2 = a := hpq
                        obtain rfl : xs = ys := by rw [← hx, ← hy]
                        clear pN qN hx hy
                        go_wp2_with fail
                        go_region
                        all_goals
                          have SN := Lib.hid (SW.out.keep (keeps_drew _))
                          generalize World.drew _ = wdd5 at *
                          clear ci cp fi fp
                          have h1 := E4.out
                          rw [HNd5.out] at h1
                          injection h1 with h1 h2
                          injection h2 with h2 h3
                          go_wp2_with fail
                          go_returns
                          exact ⟨by rw [← h1, ← h2]; rfl, h3 ▸ SN.out⟩
                      · have n1 : J2 ≠ a := hpq
                        have n2 : a ≠ J2 := Ne.symm hpq
                        clear pN qN hx hy hpq
                        go_wp2_with fail
                        go_region
                        all_goals
                          have SN := Lib.hid (SW.out.keep (keeps_drew _))
                          generalize World.drew _ = wdd5 at *
                          clear ci cp fi fp
                          have h1 := E4.out
                          rw [HNd5.out] at h1
                          injection h1 with h1 h2
                          injection h2 with h2 h3
                          go_wp2_with fail
                          go_returns
                          exact ⟨by rw [← h1, ← h2]; rfl, h3 ▸ SN.out⟩
                    · have gI2 : decide ((J2 : Int) < (I2 : Int)) = false := decide_eq_false (by omega)
                      have gJ2 : decide (J2 < I2) = false := decide_eq_false hIJ2
                      obtain ⟨jm2, hjm2⟩ : ∃ z, z = J2 - 1 := ⟨_, rfl⟩
                      have HJM2 := Lib.hid hjm2
                      have wj2 : IntKind.i64.wrap ((J2 : Int) - 1) = (jm2 : Int) := by rw [IntKind.wrap_i64]; have := M3.out; have := M4.out; have := G2.out; have := F.out; omega
                      have HIJ2 := Lib.hid hIJ2
                      have HLT2 := Lib.hid (scans_ne _ _ (fun x => by simp) d3 i j I2 J2 QI2.out QJ2.out (by have := M3.out; have := G2.out; omega) hIJ2)
                      have NE2 : I2 ≠ J2 := Nat.ne_of_lt HLT2.out
                      clear hjm2 hIJ2
                      have pN : I2 < n := by have := M3.out; have := M4.out; have := G2.out; have := F.out; have := HLT2.out; omega
                      have qN : J2 < n := by have := M3.out; have := M4.out; have := G2.out; have := F.out; have := HLT2.out; omega
                      have p0I : (0 : Int) ≤ (I2 : Int) := by omega
                      have p1I : (I2 : Int) < (n : Int) := by omega
                      have q0I : (0 : Int) ≤ (J2 : Int) := by omega
                      have q1I : (J2 : Int) < (n : Int) := by omega
                      obtain ⟨xs, hx⟩ : ∃ z, d3[I2]! = z := ⟨_, rfl⟩
                      obtain ⟨ys, hy⟩ : ∃ z, d3[J2]! = z := ⟨_, rfl⟩
                      have SW := Lib.hid (S4c.out.swpx pN qN hx hy)
                      have ci := S4c.out.at pN hx
                      have cp := S4c.out.at qN hy
                      have fi := S4c.out.fz pN
                      have fp := S4c.out.fz qN
                      obtain ⟨d4, hd4⟩ : ∃ z, Sort.swp d3 I2 J2 = z := ⟨_, rfl⟩
                      have HNd4 := Lib.hid hd4
                      rw [hd4] at SW
                      clear hd4
                      have n1 : I2 ≠ J2 := NE2
                      have n2 : J2 ≠ I2 := Ne.symm n1
                      clear pN qN hx hy
                      go_wp2_with fail
                      go_region
                      all_goals
                        have SN := Lib.hid (SW.out.keep (keeps_drew _))
                        generalize World.drew _ = wdd4 at *
                        clear ci cp fi fp
                        have E5 := Lib.hid (show partLoop ltN a (I2 + 1) jm2 d4 = (rj, D) by
                          rw [← HNd4.out, HJM2.out]
                          exact PL.out.2 HIJ2.out)
                        go_wp2_with fail
                        go_roundw
                        case rel => exact ⟨I2 + 1, jm2, d4, by go_num, rfl, by have := M3.out; have := G2.out; omega, by have := HJM2.out; have := HLT2.out; omega, by have := HJM2.out; have := M4.out; have := G2.out; omega, SN.out, E5.out⟩
                        case measure => have := M3.out; have := M4.out; have := HJM2.out; have := HLT2.out; have := G2.out; simp [intOf]; omega
end Go.Proofs.Ytdfaogagadoooaa
