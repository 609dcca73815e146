/- Layer 14's statements: WitnessRoads. -/
import Derived.Test.YtkijfbnibfbldaaLawWit6
namespace Go.Proofs.Ytkijfbnibfbldaa
open Go.RowKit
set_option linter.unusedSimpArgs false
set_option linter.unusedVariables false
set_option maxRecDepth 100000

set_option maxHeartbeats 16000000 in
theorem roads14_walk (K : HeapOk) (w : World) (x : TripS) (hx : TripOk w x) : Calls Try.prog 8 #[.agg (tripA x)] w (Yes w) := by
  have WK := Lib.hid (works14 K)
  obtain ⟨A, c, l, to, most, bad, avoid⟩ := x
  obtain ⟨h1, h2, h3, h4, h5, h6⟩ := hx
  simp only at h1 h2 h3 h4 h5 h6
  unfold tripA
  simp only
  obtain ⟨n, hn⟩ : ∃ n, l.length = n := ⟨_, rfl⟩
  rw [hn]
  have HN := Lib.hid hn
  have k0 := keeps_alloc w (.cells #[.slice A n c, .int .u8 (to : Int), .int .u64 (most : Int), .int .u32 (bad : Int), .int .u32 (avoid : Int)] 54)
  have B0 := Box.new w 54 #[.slice A n c, .int .u8 (to : Int), .int .u64 (most : Int), .int .u32 (bad : Int), .int .u32 (avoid : Int)]
  have c0 := B0.cell 0 rfl
  have c1 := B0.cell 1 rfl
  have c2 := B0.cell 2 rfl
  have c3 := B0.cell 3 rfl
  have c4 := B0.cell 4 rfl
  have lb := B0.lt
  have K0 := Lib.hid k0
  have hto : (to : Int) < 256 := by omega
  have hto0 : (0 : Int) ≤ (to : Int) := by omega
  by_cases hl : 30 < n
  · have d1 : decide ((30 : Int) < (n : Int)) = true := decide_eq_true (by omega)
    clear h1 h2 h3 h4 h5 h6 hn k0 B0 hl
    go_enter Try.func8, Try.ntmps8
    go_wp2_with fail
    refine (WK.out _).mono ?_
    rintro e w2 ⟨rfl, k2⟩
    go_wp2_with fail
    go_ret
    exact ⟨rfl, keeps_trans K0.out k2⟩
  · have d1 : decide ((30 : Int) < (n : Int)) = false := decide_eq_false (by omega)
    obtain ⟨kk, hkk⟩ : ∃ kk, to % 20 = kk := ⟨_, rfl⟩
    have hk20 : kk < 20 := by omega
    have hkm : (to : Int).tmod 20 = (kk : Int) := by
      rw [Int.tmod_eq_emod_of_nonneg (by omega)]
      omega
    have kb := keeps_alloc (w.alloc (.cells #[.slice A n c, .int .u8 (to : Int), .int .u64 (most : Int), .int .u32 (bad : Int), .int .u32 (avoid : Int)] 54)) (.cells #[.slice A n c, .int .u32 (bad : Int), .int .u32 (avoid : Int)] 57)
    have BR := Box.new (w.alloc (.cells #[.slice A n c, .int .u8 (to : Int), .int .u64 (most : Int), .int .u32 (bad : Int), .int .u32 (avoid : Int)] 54)) 57 #[.slice A n c, .int .u32 (bad : Int), .int .u32 (avoid : Int)]
    rw [World.size_alloc] at BR
    have HA := Lib.hid ((h1.keep (keeps_trans k0 kb)).more (keeps_trans k0 kb).size)
    have FN := Lib.hid (roadFind_any K BR hn.symm HA.out (by omega) h2 0 kk most (by decide) (by omega) h4)
    have KB := Lib.hid (keeps_trans k0 kb)
    have HBR := Lib.hid BR
    have kk0 : (0 : Int) ≤ (kk : Int) := by omega
    have kk1 : (kk : Int) < 20 := by omega
    have HX := Lib.hid h2
    have HL := Lib.hid (show n ≤ 30 by omega)
    clear h1 h2 h3 h4 h5 h6 hn k0 B0 hl hkk kb BR hk20
    go_enter Try.func8, Try.ntmps8
    go_wp2_with fail
    refine FN.out.mono ?_
    rintro e w2 ⟨⟨ra, rb, re⟩, rfl, hA, k2⟩
    have K2 := Lib.hid k2
    have HA0 := Lib.hid hA
    have HBW := Lib.hid (HBR.out.keep k2)
    clear hA k2 c0 c1 c2 c3 c4 lb
    go_wp2_with fail
    go_loopw [12] (fun t wr => ∃ (i : Nat), t = .int .i64 (i : Int) ∧ Keeps w2 wr ∧ ((∃ W, i ≤ kk ∧ i ≤ 16 ∧ Ans (outR l bad) (avR avoid) kk most (List.range i) W (ra, rb, re) ∧ RoadSt l avoid i W) ∨ (i = kk + 1 ∧ rb = true ∧ re = 0))) (fun t _ => kk + 1 - (intOf t).toNat)
    case atStart => exact ⟨0, rfl, keeps_refl _, .inl ⟨[(0, 0)], Nat.zero_le _, Nat.zero_le _, HA0.out, .inl ⟨rfl, rfl⟩⟩⟩
    case round =>
      obtain ⟨i, rfl, hks, ⟨W, hik, hi16, hans, hst⟩ | ⟨hi, r1, r2⟩⟩ := hrel
      · have KS := Lib.hid hks
        have HANS := Lib.hid hans
        have HST := Lib.hid hst
        have HIK := Lib.hid hik
        have HI16 := Lib.hid hi16
        have i1 : (i : Int) ≤ (kk : Int) := by omega
        have i2 : (i : Int) ≤ 16 := by omega
        have i3 : (0 : Int) ≤ (i : Int) := by omega
        clear hans hst hks hi16 hik
        by_cases hin : i ≤ n
        · have j1 : (i : Int) ≤ (n : Int) := by omega
          have FAR := Lib.hid (roadFar_any (HBW.out.keep KS.out) HN.out.symm ((HA.out.keep (keeps_trans K2.out KS.out)).more (keeps_trans K2.out KS.out).size) (by have := HL.out; have := HN.out; omega) HX.out i (by have := HN.out; omega))
          obtain ⟨fo, hfo⟩ : ∃ fo, farR l i = fo := ⟨_, rfl⟩
          rw [hfo] at FAR
          have HFO := Lib.hid hfo
          clear hin hfo
          cases fo with
          | none =>
            obtain ⟨r1, r2⟩ := road_stop HANS.out HST.out (.inl HFO.out)
            simp only at r1 r2
            subst r1
            subst r2
            simp only [Option.getD_none, Option.isSome_none] at FAR
            go_wp2_with fail
            refine FAR.out.mono ?_
            rintro e w4 ⟨rfl, k4⟩
            go_wp2_with fail
            refine (WK.out _).mono ?_
            rintro e w5 ⟨rfl, k5⟩
            go_wp2_with fail
            go_ret
            exact ⟨rfl, keeps_trans KB.out (keeps_trans K2.out (keeps_trans KS.out (keeps_trans k4 k5)))⟩
          | some d =>
            simp only [Option.getD_some, Option.isSome_some] at FAR
            by_cases hm : most < d
            · obtain ⟨r1, r2⟩ := road_stop HANS.out HST.out (.inr (.inl ⟨d, HFO.out, hm⟩))
              simp only at r1 r2
              subst r1
              subst r2
              have m1 : decide ((most : Int) < (d : Int)) = true := decide_eq_true (by omega)
              have m2 : decide (most < d) = true := decide_eq_true hm
              clear hm
              go_wp2_with fail
              refine FAR.out.mono ?_
              rintro e w4 ⟨rfl, k4⟩
              go_wp2_with fail
              refine (WK.out _).mono ?_
              rintro e w5 ⟨rfl, k5⟩
              go_wp2_with fail
              go_ret
              exact ⟨rfl, keeps_trans KB.out (keeps_trans K2.out (keeps_trans KS.out (keeps_trans k4 k5)))⟩
            · have m1 : decide ((most : Int) < (d : Int)) = false := decide_eq_false (by omega)
              have m2 : decide (most < d) = false := decide_eq_false hm
              have HM := Lib.hid (show d ≤ most by omega)
              clear hm
              by_cases h16 : i = 16
              · obtain ⟨r1, r2⟩ := road_stop HANS.out HST.out (.inr (.inr (.inl h16)))
                simp only at r1 r2
                subst r1
                subst r2
                have n1 : ((i : Int) == 16) = true := by simp only [beq_iff_eq]; omega
                clear h16
                go_wp2_with fail
                refine FAR.out.mono ?_
                rintro e w4 ⟨rfl, k4⟩
                go_wp2_with fail
                refine (WK.out _).mono ?_
                rintro e w5 ⟨rfl, k5⟩
                go_wp2_with fail
                go_ret
                exact ⟨rfl, keeps_trans KB.out (keeps_trans K2.out (keeps_trans KS.out (keeps_trans k4 k5)))⟩
              · have n1 : ((i : Int) == 16) = false := by simp only [beq_eq_false_iff_ne, ne_eq]; omega
                have H16 := Lib.hid h16
                clear h16
                by_cases ha : 0 < i ∧ i = avoid
                · obtain ⟨r1, r2⟩ := road_stop HANS.out HST.out (.inr (.inr (.inr ha)))
                  simp only at r1 r2
                  subst r1
                  subst r2
                  have o1 : decide ((0 : Int) < (i : Int)) = true := decide_eq_true (by omega)
                  have o2 : decide (0 < i) = true := decide_eq_true (by omega)
                  have o3 : ((i : Int) == (avoid : Int)) = true := by simp only [beq_iff_eq]; omega
                  clear ha
                  go_wp2_with fail
                  refine FAR.out.mono ?_
                  rintro e w4 ⟨rfl, k4⟩
                  go_wp2_with fail
                  refine (WK.out _).mono ?_
                  rintro e w5 ⟨rfl, k5⟩
                  go_wp2_with fail
                  go_ret
                  exact ⟨rfl, keeps_trans KB.out (keeps_trans K2.out (keeps_trans KS.out (keeps_trans k4 k5)))⟩
                · have HNA := Lib.hid ha
                  have key : decide ((0 : Int) < (i : Int)) = false ∧ decide (0 < i) = false ∨ (decide ((0 : Int) < (i : Int)) = true ∧ decide (0 < i) = true ∧ ((i : Int) == (avoid : Int)) = false) := by
                    by_cases h0 : 0 < i
                    · right
                      refine ⟨decide_eq_true (by omega), decide_eq_true h0, ?_⟩
                      simp only [beq_eq_false_iff_ne, ne_eq, Int.natCast_inj]
                      exact fun e => ha ⟨h0, e⟩
                    · left; exact ⟨decide_eq_false (by omega), decide_eq_false h0⟩
                  clear ha
                  by_cases hk : i = kk
                  · obtain ⟨r1, r2⟩ := road_yes HANS.out HST.out HFO.out HM.out H16.out HNA.out hk
                    have R12 := Lib.hid (And.intro r1 r2)
                    have HKK := Lib.hid hk
                    have p1 : decide ((i : Int) < (kk : Int)) = false := decide_eq_false (by omega)
                    have p2 : decide (i < kk) = false := decide_eq_false (by omega)
                    clear hk r1 r2
                    rcases key with ⟨o1, o2⟩ | ⟨o1, o2, o3⟩
                    · go_wp2_with fail
                      refine FAR.out.mono ?_
                      rintro e w4 ⟨rfl, k4⟩
                      go_wp2_with fail
                      go_roundw
                      case rel => exact ⟨i + 1, by go_num, keeps_trans KS.out k4, .inr ⟨by rw [HKK.out], R12.out.1, R12.out.2⟩⟩
                      case measure => have := HKK.out; simp [intOf]; omega
                    · go_wp2_with fail
                      refine FAR.out.mono ?_
                      rintro e w4 ⟨rfl, k4⟩
                      go_wp2_with fail
                      go_roundw
                      case rel => exact ⟨i + 1, by go_num, keeps_trans KS.out k4, .inr ⟨by rw [HKK.out], R12.out.1, R12.out.2⟩⟩
                      case measure => have := HKK.out; simp [intOf]; omega
                  · have p1 : (i : Int) < (kk : Int) := by have := HIK.out; omega
                    have HLT := Lib.hid (show i < kk by have := HIK.out; omega)
                    by_cases hb : i = bad
                    · obtain ⟨r1, r2⟩ := road_err HANS.out HST.out HFO.out HM.out H16.out HNA.out hk hb
                      simp only at r1 r2
                      subst r1
                      subst r2
                      have q1 : ((i : Int) == (bad : Int)) = true := by simp only [beq_iff_eq]; omega
                      clear hk hb
                      rcases key with ⟨o1, o2⟩ | ⟨o1, o2, o3⟩
                      · go_wp2_with fail
                        refine FAR.out.mono ?_
                        rintro e w4 ⟨rfl, k4⟩
                        go_wp2_with fail
                        refine (WK.out _).mono ?_
                        rintro e w5 ⟨rfl, k5⟩
                        go_wp2_with fail
                        go_ret
                        exact ⟨rfl, keeps_trans KB.out (keeps_trans K2.out (keeps_trans KS.out (keeps_trans k4 k5)))⟩
                      · go_wp2_with fail
                        refine FAR.out.mono ?_
                        rintro e w4 ⟨rfl, k4⟩
                        go_wp2_with fail
                        refine (WK.out _).mono ?_
                        rintro e w5 ⟨rfl, k5⟩
                        go_wp2_with fail
                        go_ret
                        exact ⟨rfl, keeps_trans KB.out (keeps_trans K2.out (keeps_trans KS.out (keeps_trans k4 k5)))⟩
                    · have q1 : ((i : Int) == (bad : Int)) = false := by simp only [beq_eq_false_iff_ne, ne_eq]; omega
                      obtain ⟨W', hans', hst'⟩ := road_next HANS.out HST.out HFO.out HM.out H16.out HNA.out hk hb
                      have HANS' := Lib.hid hans'
                      have HST' := Lib.hid hst'
                      clear hk hb hans' hst'
                      rcases key with ⟨o1, o2⟩ | ⟨o1, o2, o3⟩
                      · go_wp2_with fail
                        refine FAR.out.mono ?_
                        rintro e w4 ⟨rfl, k4⟩
                        go_wp2_with fail
                        go_roundw
                        case rel => exact ⟨i + 1, by go_num, keeps_trans KS.out k4, .inl ⟨W', by have := HLT.out; omega, by have := H16.out; have := HI16.out; omega, HANS'.out, HST'.out⟩⟩
                        case measure => have := HLT.out; simp [intOf]; omega
                      · go_wp2_with fail
                        refine FAR.out.mono ?_
                        rintro e w4 ⟨rfl, k4⟩
                        go_wp2_with fail
                        go_roundw
                        case rel => exact ⟨i + 1, by go_num, keeps_trans KS.out k4, .inl ⟨W', by have := HLT.out; omega, by have := H16.out; have := HI16.out; omega, HANS'.out, HST'.out⟩⟩
                        case measure => have := HLT.out; simp [intOf]; omega
        · have j1 : ¬ (i : Int) ≤ (n : Int) := by omega
          obtain ⟨r1, r2⟩ := road_stop HANS.out HST.out (.inl (farR_none (by have := HN.out; omega)))
          simp only at r1 r2
          subst r1
          subst r2
          clear hin
          go_wp2_with fail
          refine (WK.out _).mono ?_
          rintro e w5 ⟨rfl, k5⟩
          go_wp2_with fail
          go_ret
          exact ⟨rfl, keeps_trans KB.out (keeps_trans K2.out (keeps_trans KS.out k5))⟩
      · subst r1
        subst r2
        have i1 : ¬ (i : Int) ≤ (kk : Int) := by omega
        have KS := Lib.hid hks
        clear hi hks
        go_wp2_with fail
        refine (WK.out _).mono ?_
        rintro e w5 ⟨rfl, k5⟩
        go_wp2_with fail
        go_ret
        exact ⟨rfl, keeps_trans KB.out (keeps_trans K2.out (keeps_trans KS.out k5))⟩
end Go.Proofs.Ytkijfbnibfbldaa
