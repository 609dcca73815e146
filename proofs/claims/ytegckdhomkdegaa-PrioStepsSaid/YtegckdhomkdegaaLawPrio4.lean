/- Layer 15's statements: PrioSteps. -/
import Derived.Test.YtegckdhomkdegaaLawPrio3
namespace Go.Proofs.Ytegckdhomkdegaa
open Go.RowKit
set_option linter.unusedSimpArgs false
set_option linter.unusedVariables false
set_option maxRecDepth 100000

theorem withinP_true {x : Int} (h : withinP x = true) : 0 ≤ x ∧ x < 1073741824 := by simpa [withinP] using h
theorem keyP_s {i o s : Int} {l g : Nat} (h : withinP s = true) : keyP i o s l g ≤ keyP i o (s + 1) l g ∧ (keyP (i + 1) o s l g ≠ 0 → withinP i = true → keyP i o (s + 1) l g = keyP i o s l g + 2) := by
  obtain ⟨h0, h1⟩ := withinP_true h
  unfold keyP
  rw [cutP_self h0 (by omega), cutP_self (show 0 ≤ s + 1 by omega) (by omega)]
  refine ⟨by omega, fun hz hi => ?_⟩
  obtain ⟨i0, i1⟩ := withinP_true hi
  rw [cutP_self (show 0 ≤ i + 1 by omega) (by omega)] at hz
  rw [cutP_self i0 (by omega)]
  omega
theorem keyP_i {i o s : Int} {l g : Nat} (h : withinP i = true) : keyP (i + 1) o s l g ≤ keyP i o s l g ∧ (keyP (i + 1) o s l g ≠ 0 → keyP i o s l g = keyP (i + 1) o s l g + 1) := by
  obtain ⟨h0, h1⟩ := withinP_true h
  unfold keyP
  rw [cutP_self h0 (by omega), cutP_self (show 0 ≤ i + 1 by omega) (by omega)]
  omega
theorem keyP_io {i o s : Int} {l g : Nat} (hi : withinP i = true) (ho : withinP o = true) : keyP i (o + 1) s l g = keyP (i + 1) o s l g := by
  obtain ⟨h0, h1⟩ := withinP_true hi
  obtain ⟨h2, h3⟩ := withinP_true ho
  unfold keyP
  rw [cutP_self h0 (by omega), cutP_self (show 0 ≤ i + 1 by omega) (by omega), cutP_self h2 (by omega), cutP_self (show 0 ≤ o + 1 by omega) (by omega)]
  congr 1
  omega

set_option maxHeartbeats 8000000 in
theorem steps15_walk (a : Tm) (x : Vt) (hx : VtOk x) (w : World) :
    Calls Try.prog 4 #[.agg #[.int .i64 a.i, .int .i64 a.o, .int .i64 a.s], .agg #[.int .u32 (x.r : Int), .int .u32 (x.l : Int), .int .u32 (x.g : Int)]] w (Yes w) := by
  have KK := Lib.hid (fun i o s r => pkey_any i o s r x.l x.g hx.l hx.g)
  have WI := Lib.hid within_any
  have WW := Lib.hid works15
  have SK := Lib.hid (bxW_at w a x)
  have k0 := Lib.hid (bxW_keeps w a x)
  have BB := Lib.hid (bxW_box w a x)
  have c0 := bxW_at w a x _ (keeps_refl _)
  have hW : bxW w a x = (w.alloc (.cells #[.int .i64 a.i, .int .i64 a.o, .int .i64 a.s] 23)).alloc (.cells #[.int .u32 (x.r : Int), .int .u32 (x.l : Int), .int .u32 (x.g : Int)] 26) := rfl
  have hl := hx.l
  have hg := hx.g
  clear hx
  obtain ⟨i, o, s⟩ := a
  obtain ⟨r, l, g⟩ := x
  simp only at *
  have hR0 := keyP_lt i o s l g hl hg
  obtain ⟨R, hR⟩ : ∃ R, keyP i o s l g = R := ⟨_, rfl⟩
  have K1 := KK.out i o s
  have HR := Lib.hid hR
  rw [hR] at K1 hR0
  have K1 := Lib.hid K1
  have dT : decide ((1099511627776 : Int) < (R : Int)) = false := decide_eq_false (by omega)
  obtain ⟨r', hr'⟩ : ∃ r' : Nat, IntKind.u32.wrap ((r : Int) + 1) = (r' : Int) := ⟨(r + 1) % 4294967296, by rw [IntKind.wrap_u32]; omega⟩
  have HRT := Lib.hid hR0
  clear hR hl hg hR0
  go_enter Try.func4, Try.ntmps4
  go_wp2_with fail
  rw [← hW]
  generalize bxW w ⟨i, o, s⟩ ⟨r, l, g⟩ = W at *
  clear hW
  unfold BxAt at *
  simp only at *
  obtain ⟨⟨q0, q1, q2⟩, q3, q4, q5⟩ := c0
  go_wp2_with fail
  refine (K1.out r _).mono ?_
  rintro e w1 ⟨rfl, k1⟩
  obtain ⟨⟨q0, q1, q2⟩, q3, q4, q5⟩ := SK.out _ k1
  have kA := keeps_alloc w1 (.cells #[.int .u32 (r : Int), .int .u32 (l : Int), .int .u32 (g : Int)] 26)
  have X1 : Box (w1.alloc (.cells #[.int .u32 (r : Int), .int .u32 (l : Int), .int .u32 (g : Int)] 26)) w1.heap.size 26 #[.int .u32 (r : Int), .int .u32 (l : Int), .int .u32 (g : Int)] := Box.new _ _ _
  have lt1 := k1.size
  have lt0 : w.heap.size + 1 < W.heap.size := (BB.out _ (keeps_refl _)).2.lt
  have kA1 := keeps_trans k1 kA
  have KA := Lib.hid (keeps_trans k0.out kA1)
  obtain ⟨⟨p0, p1, p2⟩, p3, p4, p5⟩ := SK.out _ kA1
  have f1 := X1.frozen 0
  obtain ⟨x0, x1, x2⟩ := X1.three
  have kB := keeps_alloc w1 (.cells #[.int .u32 (r' : Int), .int .u32 (l : Int), .int .u32 (g : Int)] 26)
  have Y1 : Box (w1.alloc (.cells #[.int .u32 (r' : Int), .int .u32 (l : Int), .int .u32 (g : Int)] 26)) w1.heap.size 26 #[.int .u32 (r' : Int), .int .u32 (l : Int), .int .u32 (g : Int)] := Box.new _ _ _
  have kB1 := keeps_trans k1 kB
  have kF := Lib.hid (keeps_trans k0.out kB1)
  obtain ⟨P1, Q1⟩ := BB.out _ kB1
  obtain ⟨y0, y1, y2⟩ := Y1.three
  obtain ⟨u0, u1, u2⟩ := P1.three
  obtain ⟨v0, v1, v2⟩ := Q1.three
  have HP := Lib.hid P1
  have HQ := Lib.hid Q1
  clear X1 Y1 P1 Q1 kA kA1 kB kB1 lt0 lt1 k1
  obtain ⟨wi, hwi⟩ : ∃ b, withinP i = b := ⟨_, rfl⟩
  obtain ⟨wo, hwo⟩ : ∃ b, withinP o = b := ⟨_, rfl⟩
  obtain ⟨ws, hws⟩ : ∃ b, withinP s = b := ⟨_, rfl⟩
  have WI1 := WI.out i
  have WI2 := WI.out o
  have WI3 := WI.out s
  rw [hwi] at WI1
  rw [hwo] at WI2
  rw [hws] at WI3
  have W1 := Lib.hid WI1
  have W2 := Lib.hid WI2
  have W3 := Lib.hid WI3
  have HWI := Lib.hid hwi
  have HWO := Lib.hid hwo
  have HWS := Lib.hid hws
  clear WI1 WI2 WI3 WI hwi hwo hws
  go_wp2_with fail
  refine (K1.out r' _).mono ?_
  rintro e w2 ⟨rfl, k2⟩
  obtain ⟨z0, z1, z2⟩ := (HP.out.keep k2).three
  obtain ⟨t0, t1, t2⟩ := (HQ.out.keep k2).three
  have kF2 := Lib.hid (keeps_trans kF.out k2)
  cases wi with
  | false =>
    go_wp2_with fail
    refine (W1.out _).mono ?_
    rintro e w3 ⟨rfl, rfl⟩
    go_wp2_with fail
    refine (WW.out _).mono ?_
    rintro e w8 ⟨rfl, k8⟩
    go_wp2_with fail
    go_ret
    exact ⟨rfl, keeps_trans kF2.out k8⟩
  | true =>
    go_wp2_with fail
    refine (W1.out _).mono ?_
    rintro e w3 ⟨rfl, rfl⟩
    go_wp2_with fail
    refine (W2.out _).mono ?_
    rintro e w3 ⟨rfl, rfl⟩
    cases wo with
    | false =>
      go_wp2_with fail
      refine (WW.out _).mono ?_
      rintro e w8 ⟨rfl, k8⟩
      go_wp2_with fail
      go_ret
      exact ⟨rfl, keeps_trans kF2.out k8⟩
    | true =>
      go_wp2_with fail
      refine (W3.out _).mono ?_
      rintro e w3 ⟨rfl, rfl⟩
      cases ws with
      | false =>
        go_wp2_with fail
        refine (WW.out _).mono ?_
        rintro e w8 ⟨rfl, k8⟩
        go_wp2_with fail
        go_ret
        exact ⟨rfl, keeps_trans kF2.out k8⟩
      | true =>
        obtain ⟨i0, i1⟩ := withinP_true HWI.out
        obtain ⟨o0, o1⟩ := withinP_true HWO.out
        obtain ⟨s0, s1⟩ := withinP_true HWS.out
        have KM := KK.out i o (s + 1) r
        have KI := KK.out (i + 1) o s r
        have KO := KK.out i (o + 1) s r
        obtain ⟨m1, m2⟩ := keyP_s (i := i) (o := o) (l := l) (g := g) HWS.out
        obtain ⟨m3, m4⟩ := keyP_i (o := o) (s := s) (l := l) (g := g) HWI.out
        rw [keyP_io HWI.out HWO.out] at KO
        rw [HR.out] at m1 m2 m3 m4
        obtain ⟨M, hM⟩ : ∃ M, keyP i o (s + 1) l g = M := ⟨_, rfl⟩
        obtain ⟨I, hI⟩ : ∃ I, keyP (i + 1) o s l g = I := ⟨_, rfl⟩
        rw [hM] at KM m1 m2
        rw [hI] at KI KO m2 m3 m4
        have KM := Lib.hid KM
        have KI := Lib.hid KI
        have KO := Lib.hid KO
        have d1 : decide ((M : Int) < (R : Int)) = false := decide_eq_false (by omega)
        have d1n : decide (M < R) = false := decide_eq_false (by omega)
        have d2 : decide ((R : Int) < (I : Int)) = false := decide_eq_false (by omega)
        have d2n : decide (R < I) = false := decide_eq_false (by omega)
        have hh : I = 0 ∨ (IntKind.u64.wrap ((R : Int) + 2) = (M : Int) ∧ IntKind.u64.wrap ((R : Int) - 1) = (I : Int)) := by
          by_cases hz : I = 0
          · exact .inl hz
          · have e1 := m2 hz HWI.out
            have e2 := m4 hz
            have e3 := HRT.out
            refine .inr ⟨by rw [IntKind.wrap_u64]; omega, by rw [IntKind.wrap_u64]; omega⟩
        have HH := Lib.hid hh
        clear m1 m2 m3 m4 hM hI hh
        go_wp2_with fail
        refine (KM.out _).mono ?_
        rintro e w4 ⟨rfl, k4⟩
        obtain ⟨z0, z1, z2⟩ := (HP.out.keep (keeps_trans k2 k4)).three
        obtain ⟨t0, t1, t2⟩ := (HQ.out.keep (keeps_trans k2 k4)).three
        go_wp2_with fail
        refine (KI.out _).mono ?_
        rintro e w5 ⟨rfl, k5⟩
        obtain ⟨z0, z1, z2⟩ := (HP.out.keep (keeps_trans k2 (keeps_trans k4 k5))).three
        obtain ⟨t0, t1, t2⟩ := (HQ.out.keep (keeps_trans k2 (keeps_trans k4 k5))).three
        go_wp2_with fail
        refine (KO.out _).mono ?_
        rintro e w6 ⟨rfl, k6⟩
        have kF6 := Lib.hid (keeps_trans kF2.out (keeps_trans k4 (keeps_trans k5 k6)))
        rcases HH.out with rfl | ⟨e1, e2⟩
        · go_wp2_with fail
          refine (WW.out _).mono ?_
          rintro e w8 ⟨rfl, k8⟩
          go_wp2_with fail
          go_ret
          exact ⟨rfl, keeps_trans kF6.out k8⟩
        · by_cases hz : I = 0
          · subst hz
            go_wp2_with fail
            refine (WW.out _).mono ?_
            rintro e w8 ⟨rfl, k8⟩
            go_wp2_with fail
            go_ret
            exact ⟨rfl, keeps_trans kF6.out k8⟩
          · have dz : ((I : Int) == 0) = false := by simp; omega
            go_wp2_with fail
            refine (WW.out _).mono ?_
            rintro e w8 ⟨rfl, k8⟩
            go_wp2_with fail
            go_ret
            exact ⟨rfl, keeps_trans kF6.out k8⟩
end Go.Proofs.Ytegckdhomkdegaa
