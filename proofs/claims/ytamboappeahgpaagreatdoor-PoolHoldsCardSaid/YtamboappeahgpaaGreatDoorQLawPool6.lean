/- PoolHolds. (Written by mkholds10.py.) -/
import Derived.Test.YtamboappeahgpaaGreatDoorQPoolCa
namespace Go.Proofs.YtamboappeahgpaaGreatDoor
open Go.RowKit
set_option linter.unusedSimpArgs false
set_option linter.unusedVariables false
set_option maxRecDepth 100000

set_option maxHeartbeats 32000000 in
theorem holds10_walk (K : DiskOk) (PK : PageOk) (q n : Int) (hq : IsI q) (hn : IsI n) (A : Option Addr) (len c : Nat) (l : List Op10) (w : World) (hZ : K.Z w) (hS : Sizes w) (hO : Ops10At w A l) (hlen : len = l.length) (hm : len ≤ 9223372036854775807) :
    Calls Tryz.prog 7 #[.int .i64 q, .int .i64 n, .slice A len c] w (Yes10 w) := by
  have WK := Lib.hid (fun (W : World) (q : Keeps w W) => works10 K PK W (K.keep hZ q) (hS.keep q))
  have VB := Lib.hid (vast10_any n A len c l w hO hlen hm)
  have NW := Lib.hid (fun (W : World) (k : Keeps w W) => K.new q W (K.keep hZ k) hq.1 hq.2)
  have HO := Lib.hid hO
  have HL := Lib.hid hlen
  have HZ := Lib.hid hZ
  have HS := Lib.hid hS
  have HN := Lib.hid hn
  clear hZ hS hO hlen hq hn
  go_enter Tryz.func7, Tryz.ntmps7
  go_wp2_with fail
  refine VB.out.mono ?_
  rintro e w1 ⟨v, rfl, k1, hv⟩
  have K1 := Lib.hid k1
  clear k1
  rcases v with _ | _
  · obtain ⟨few, hn64⟩ := hv rfl
    have FEW := Lib.hid few
    clear hv few
    go_wp2_with fail
    refine (NW.out w1 K1.out).mono ?_
    rintro e w2 (⟨-, -, b, F, rfl, hD, hF, k2⟩ | ⟨-, rfl, k2⟩)
    · have HV := Lib.hid (show Have K w w2 b F ⟨[], q.toNat, 0, false⟩ from ⟨hD, fun i hi => Nat.le_trans K1.out.size (hF i hi), keeps_trans K1.out k2⟩)
      have PN := Lib.hid (new10_any HV.out n HN.out)
      clear hD hF k2
      unfold dpt
      go_wp2_with fail
      refine PN.out.mono ?_
      rintro e w3 ⟨k3, ⟨hn1, hn2, B, Fp, X, sl, rfl, rfl, h3, -⟩ | ⟨hbad, rfl⟩⟩
      · obtain ⟨N, rfl⟩ : ∃ N : Nat, n = (N : Int) := ⟨n.toNat, by omega⟩
        rw [Int.toNat_natCast] at h3
        have H3 := Lib.hid h3
        have R3 := Lib.hid (runs_new ⟨[], q.toNat, 0, false⟩ (n := N) ⟨by omega, by omega⟩)
        have hN : N ≤ 4096 := by omega
        clear h3 k3
        generalize newPl ⟨[], q.toNat, 0, false⟩ N = p0 at *
        go_wp2_with fail
        go_loopw [10, 11] (fun t i wr => ∃ (j : Nat) (p : Pst) (Fd Fp : Nat → Prop) (X : PX) (sl : List (Option Fx)), j ≤ len ∧ i = .int .i64 j ∧ t = .int .i64 (sumP p.fr : Int) ∧ Hid (PHave K w wr B Fd Fp X sl p) ∧ Hid (Runs p N j)) (fun _ i _ => len - (intOf i).toNat)
        case atStart => exact ⟨0, p0, F, Fp, X, sl, Nat.zero_le _, rfl, by have := R3.out.s; rw [show sumP p0.fr = 0 by omega]; rfl, H3, R3⟩
        case round =>
          obtain ⟨j, p, Fd1, Fp1, X1, s1, hj, rfl, rfl, H1, R1⟩ := hrel
          by_cases hlt : j < len
          · have hjl : (j : Int) < (len : Int) := by omega
            have hmost := FEW.out.most
            have hj150 : j ≤ 150 := by have := HL.out; omega
            obtain ⟨o, ho⟩ : ∃ o, l[j]? = some o := ⟨_, List.getElem?_eq_getElem (by have := HL.out; omega)⟩
            have hom := List.mem_of_getElem? ho
            have OK := HO.out.ok o hom
            have hol := (FEW.out.each o hom).1
            obtain ⟨ad, rfl, Q⟩ := (HO.out.keep H1.out.D.kp).cell0 ho
            have QK := Lib.hid (fun (V : World) (kk : Keeps w V) => show V.cell? (ad.add (j * 4)) = some (.int .i64 o.kind) from by
              obtain ⟨ad', e, q⟩ := (HO.out.keep kk).cell0 ho
              obtain rfl := Option.some.inj e
              have := q 0 (by decide)
              simpa [op10C, Addr.add] using this)
            have c0 : wr.cell? (ad.add (j * 4)) = some (.int .i64 o.kind) := QK.out _ H1.out.D.kp
            have c1 := Q 1 (by decide)
            have c2 := Q 2 (by decide)
            have c3 := Q 3 (by decide)
            rw [add_pos6 _ _ (by decide)] at c1 c2 c3
            simp only [op10C, List.getElem?_cons_zero, List.getElem?_cons_succ] at c1 c2 c3
            have DO := Lib.hid (does10_any PK H1.out HZ.out HS.out (R1.out.fit hN) (by omega) (by omega) o OK hol)
            have HS1 := Lib.hid (doP_sum H1.out.ok o)
            have R2 := Lib.hid (R1.out.next (K.ok H1.out.D.D) o)
            unfold op10C at DO
            have hs150 := R1.out.s
            obtain ⟨p2, l2, n2, E2, hd⟩ : ∃ p2 l2 n2 E2, doP p o = (p2, l2, n2, E2) := ⟨_, _, _, _, rfl⟩
            rw [hd] at DO HS1 R2
            simp only at DO HS1 R2
            obtain ⟨ei, hei⟩ : ∃ ei : Int, (E2 : Int) = ei := ⟨_, rfl⟩
            rw [hei] at DO
            obtain ⟨s, hss⟩ : ∃ s, sumP p.fr = s := ⟨_, rfl⟩
            obtain ⟨s', hss'⟩ : ∃ s', sumP p2.fr = s' := ⟨_, rfl⟩
            rw [hss] at hs150 ⊢
            rw [hss, hss'] at HS1
            have SS' := Lib.hid hss'
            clear ho hom OK hol Q hd hss hss'
            go_wp2_with fail
            refine DO.out.mono ?_
            rintro e w4 ⟨v4, S4, rfl, o4, ⟨Fd4, Fp4, X4, s4, rfl, h4⟩, t4, -⟩
            obtain ⟨A4, d4, rfl, -⟩ := o4.form
            have K5 := Lib.hid (keeps_alloc w4 (.cells #[.slice A4 l2.length d4, .int .i64 (n2 : Int), .int .i64 ei] 65))
            have BX := Box.new w4 65 #[.slice A4 l2.length d4, .int .i64 (n2 : Int), .int .i64 ei]
            have b2 := BX.cell 2 rfl
            have z0 := QK.out _ (keeps_trans h4.D.kp K5.out)
            have HE := Lib.hid (fun (V : World) (kk : Keeps w4 V) => held_any (h4.keep kk))
            have PE := Lib.hid (fun (V : World) (kk : Keeps w4 V) => peak_any (h4.keep kk))
            have H4 := Lib.hid h4
            have f1 : resN p2.fr ≤ N := by rw [← R2.out.len]; exact res_le _
            have f2 := pin_le_res p2.fr
            have f3 := dir_le R2.out.ok
            have f4 := pin_le_sum p2.fr
            have f5 := pin_zero p2.fr
            have f6 := R2.out.ok.mostR
            have f7 := R2.out.ok.mostP
            have f8 := R2.out.R
            have f9 := R2.out.P
            have hs151 := R2.out.s
            rw [SS'.out] at f4 f5 hs151
            generalize resN p2.fr = x at *
            generalize pinN p2.fr = y at *
            generalize dirN p2.dl = z at *
            generalize p2.mostR = u at *
            generalize p2.mostP = v at *
            have i1 : (x : Int) ≤ (N : Int) := by omega
            have i2 : (y : Int) ≤ (x : Int) := by omega
            have i3 : (z : Int) ≤ (x : Int) := by omega
            have i6 : (x : Int) ≤ (u : Int) := by omega
            have i7 : (y : Int) ≤ (v : Int) := by omega
            have i8 : (u : Int) ≤ (N : Int) := by omega
            have i9 : (v : Int) ≤ (u : Int) := by omega
            have e0 : y = 0 ↔ s' = 0 := ⟨fun h => f5 h, fun h => by omega⟩
            have hs1 := HS1.out
            clear h4 t4 o4 BX c0 c1 c2 c3 f5 DO f1 f2 f3 f6 f7 f8 f9
            by_cases hk3 : o.kind = 3
            · rw [if_neg (show ¬ (o.kind = 4 ∧ E2 = 0) from fun e => by have := e.1; omega)] at hs1
              rw [hk3] at z0
              by_cases hE : E2 = 0
              · rw [if_pos ⟨hk3, hE⟩] at hs1
                have hne : (ei == 0) = true := by rw [← hei, hE]; rfl
                have hw : IntKind.i64.wrap ((s : Int) + 1) = (s' : Int) := by rw [IntWalk.i64_in _ (by omega)]; omega
                have i4 : (y : Int) ≤ (s' : Int) := by omega
                have i5 : (0 : Int) ≤ (s' : Int) := by omega
                clear hs1 f4 hE hei
                go_wp2_with fail
                refine (HE.out _ K5.out).mono ?_
                rintro e w6 ⟨rfl, k6⟩
                have K6 := Lib.hid (keeps_trans K5.out k6)
                clear k6
                go_wp2_with fail
                refine (PE.out _ K6.out).mono ?_
                rintro e w7 ⟨rfl, k7⟩
                have K7 := Lib.hid (keeps_trans K6.out k7)
                clear k7
                by_cases hy : y = 0
                · have hp0 : (s' : Int) = 0 := by omega
                  have hy0 : ((y : Int) == 0) = true := by rw [hy]; rfl
                  have hp1 : ((s' : Int) == 0) = true := by rw [hp0]; rfl
                  clear hy hp0 e0
                  go_wp2_with fail
                  go_roundw
                  case rel => exact ⟨j + 1, p2, Fd4, Fp4, X4, s4, by omega, by go_num, by rw [SS'.out], Lib.hid (H4.out.keep K7.out), R2⟩
                  case measure => simp [intOf] <;> omega
                · have hp0 : ¬ (s' : Int) = 0 := by omega
                  have hy0 : ((y : Int) == 0) = false := by rw [beq_eq_false_iff_ne]; omega
                  have hp1 : ((s' : Int) == 0) = false := by rw [beq_eq_false_iff_ne]; exact hp0
                  clear hy hp0 e0
                  go_wp2_with fail
                  go_roundw
                  case rel => exact ⟨j + 1, p2, Fd4, Fp4, X4, s4, by omega, by go_num, by rw [SS'.out], Lib.hid (H4.out.keep K7.out), R2⟩
                  case measure => simp [intOf] <;> omega
              · rw [if_neg (show ¬ (o.kind = 3 ∧ E2 = 0) from fun e => hE e.2)] at hs1
                have hne : (ei == 0) = false := by rw [beq_eq_false_iff_ne]; omega
                have hss : s' = s := by omega
                subst hss
                have i4 : (y : Int) ≤ (s' : Int) := by omega
                have i5 : (0 : Int) ≤ (s' : Int) := by omega
                clear hs1 f4 hE hei
                go_wp2_with fail
                refine (HE.out _ K5.out).mono ?_
                rintro e w6 ⟨rfl, k6⟩
                have K6 := Lib.hid (keeps_trans K5.out k6)
                clear k6
                go_wp2_with fail
                refine (PE.out _ K6.out).mono ?_
                rintro e w7 ⟨rfl, k7⟩
                have K7 := Lib.hid (keeps_trans K6.out k7)
                clear k7
                by_cases hy : y = 0
                · have hp0 : (s' : Int) = 0 := by omega
                  have hy0 : ((y : Int) == 0) = true := by rw [hy]; rfl
                  have hp1 : ((s' : Int) == 0) = true := by rw [hp0]; rfl
                  clear hy hp0 e0
                  go_wp2_with fail
                  go_roundw
                  case rel => exact ⟨j + 1, p2, Fd4, Fp4, X4, s4, by omega, by go_num, by rw [SS'.out], Lib.hid (H4.out.keep K7.out), R2⟩
                  case measure => simp [intOf] <;> omega
                · have hp0 : ¬ (s' : Int) = 0 := by omega
                  have hy0 : ((y : Int) == 0) = false := by rw [beq_eq_false_iff_ne]; omega
                  have hp1 : ((s' : Int) == 0) = false := by rw [beq_eq_false_iff_ne]; exact hp0
                  clear hy hp0 e0
                  go_wp2_with fail
                  go_roundw
                  case rel => exact ⟨j + 1, p2, Fd4, Fp4, X4, s4, by omega, by go_num, by rw [SS'.out], Lib.hid (H4.out.keep K7.out), R2⟩
                  case measure => simp [intOf] <;> omega
            · rw [if_neg (show ¬ (o.kind = 3 ∧ E2 = 0) from fun e => hk3 e.1)] at hs1
              have q3 : (o.kind == 3) = false := by rw [beq_eq_false_iff_ne]; exact hk3
              by_cases hk4 : o.kind = 4
              · rw [hk4] at z0 q3
                by_cases hE : E2 = 0
                · rw [if_pos ⟨hk4, hE⟩] at hs1
                  have hne : (ei == 0) = true := by rw [← hei, hE]; rfl
                  have hw : IntKind.i64.wrap ((s : Int) - 1) = (s' : Int) := by rw [IntWalk.i64_in _ (by omega)]; omega
                  have i4 : (y : Int) ≤ (s' : Int) := by omega
                  have i5 : (0 : Int) ≤ (s' : Int) := by omega
                  clear hs1 f4 hE hei
                  go_wp2_with fail
                  refine (HE.out _ K5.out).mono ?_
                  rintro e w6 ⟨rfl, k6⟩
                  have K6 := Lib.hid (keeps_trans K5.out k6)
                  clear k6
                  go_wp2_with fail
                  refine (PE.out _ K6.out).mono ?_
                  rintro e w7 ⟨rfl, k7⟩
                  have K7 := Lib.hid (keeps_trans K6.out k7)
                  clear k7
                  by_cases hy : y = 0
                  · have hp0 : (s' : Int) = 0 := by omega
                    have hy0 : ((y : Int) == 0) = true := by rw [hy]; rfl
                    have hp1 : ((s' : Int) == 0) = true := by rw [hp0]; rfl
                    clear hy hp0 e0
                    go_wp2_with fail
                    go_roundw
                    case rel => exact ⟨j + 1, p2, Fd4, Fp4, X4, s4, by omega, by go_num, by rw [SS'.out], Lib.hid (H4.out.keep K7.out), R2⟩
                    case measure => simp [intOf] <;> omega
                  · have hp0 : ¬ (s' : Int) = 0 := by omega
                    have hy0 : ((y : Int) == 0) = false := by rw [beq_eq_false_iff_ne]; omega
                    have hp1 : ((s' : Int) == 0) = false := by rw [beq_eq_false_iff_ne]; exact hp0
                    clear hy hp0 e0
                    go_wp2_with fail
                    go_roundw
                    case rel => exact ⟨j + 1, p2, Fd4, Fp4, X4, s4, by omega, by go_num, by rw [SS'.out], Lib.hid (H4.out.keep K7.out), R2⟩
                    case measure => simp [intOf] <;> omega
                · rw [if_neg (show ¬ (o.kind = 4 ∧ E2 = 0) from fun e => hE e.2)] at hs1
                  have hne : (ei == 0) = false := by rw [beq_eq_false_iff_ne]; omega
                  have hss : s' = s := by omega
                  subst hss
                  have i4 : (y : Int) ≤ (s' : Int) := by omega
                  have i5 : (0 : Int) ≤ (s' : Int) := by omega
                  clear hs1 f4 hE hei
                  go_wp2_with fail
                  refine (HE.out _ K5.out).mono ?_
                  rintro e w6 ⟨rfl, k6⟩
                  have K6 := Lib.hid (keeps_trans K5.out k6)
                  clear k6
                  go_wp2_with fail
                  refine (PE.out _ K6.out).mono ?_
                  rintro e w7 ⟨rfl, k7⟩
                  have K7 := Lib.hid (keeps_trans K6.out k7)
                  clear k7
                  by_cases hy : y = 0
                  · have hp0 : (s' : Int) = 0 := by omega
                    have hy0 : ((y : Int) == 0) = true := by rw [hy]; rfl
                    have hp1 : ((s' : Int) == 0) = true := by rw [hp0]; rfl
                    clear hy hp0 e0
                    go_wp2_with fail
                    go_roundw
                    case rel => exact ⟨j + 1, p2, Fd4, Fp4, X4, s4, by omega, by go_num, by rw [SS'.out], Lib.hid (H4.out.keep K7.out), R2⟩
                    case measure => simp [intOf] <;> omega
                  · have hp0 : ¬ (s' : Int) = 0 := by omega
                    have hy0 : ((y : Int) == 0) = false := by rw [beq_eq_false_iff_ne]; omega
                    have hp1 : ((s' : Int) == 0) = false := by rw [beq_eq_false_iff_ne]; exact hp0
                    clear hy hp0 e0
                    go_wp2_with fail
                    go_roundw
                    case rel => exact ⟨j + 1, p2, Fd4, Fp4, X4, s4, by omega, by go_num, by rw [SS'.out], Lib.hid (H4.out.keep K7.out), R2⟩
                    case measure => simp [intOf] <;> omega
              · rw [if_neg (show ¬ (o.kind = 4 ∧ E2 = 0) from fun e => hk4 e.1)] at hs1
                have q4 : (o.kind == 4) = false := by rw [beq_eq_false_iff_ne]; exact hk4
                have hss : s' = s := by omega
                subst hss
                have i4 : (y : Int) ≤ (s' : Int) := by omega
                have i5 : (0 : Int) ≤ (s' : Int) := by omega
                clear hs1 f4 hei
                go_wp2_with fail
                refine (HE.out _ K5.out).mono ?_
                rintro e w6 ⟨rfl, k6⟩
                have K6 := Lib.hid (keeps_trans K5.out k6)
                clear k6
                go_wp2_with fail
                refine (PE.out _ K6.out).mono ?_
                rintro e w7 ⟨rfl, k7⟩
                have K7 := Lib.hid (keeps_trans K6.out k7)
                clear k7
                by_cases hy : y = 0
                · have hp0 : (s' : Int) = 0 := by omega
                  have hy0 : ((y : Int) == 0) = true := by rw [hy]; rfl
                  have hp1 : ((s' : Int) == 0) = true := by rw [hp0]; rfl
                  clear hy hp0 e0
                  go_wp2_with fail
                  go_roundw
                  case rel => exact ⟨j + 1, p2, Fd4, Fp4, X4, s4, by omega, by go_num, by rw [SS'.out], Lib.hid (H4.out.keep K7.out), R2⟩
                  case measure => simp [intOf] <;> omega
                · have hp0 : ¬ (s' : Int) = 0 := by omega
                  have hy0 : ((y : Int) == 0) = false := by rw [beq_eq_false_iff_ne]; omega
                  have hp1 : ((s' : Int) == 0) = false := by rw [beq_eq_false_iff_ne]; exact hp0
                  clear hy hp0 e0
                  go_wp2_with fail
                  go_roundw
                  case rel => exact ⟨j + 1, p2, Fd4, Fp4, X4, s4, by omega, by go_num, by rw [SS'.out], Lib.hid (H4.out.keep K7.out), R2⟩
                  case measure => simp [intOf] <;> omega
          · obtain rfl : j = len := by omega
            have KP := Lib.hid H1.out.D.kp
            clear hlt hj
            go_wp2_with fail
            refine (WK.out _ KP.out).mono ?_
            rintro e w9 ⟨rfl, k9⟩
            have K9 := Lib.hid (keeps_trans KP.out k9)
            clear k9
            go_wp2_with fail
            go_ret
            exact ⟨rfl, K9.out⟩
      · have K3 := Lib.hid (keeps_trans HV.out.kp k3)
        clear k3
        by_cases h1 : n < 1
        · clear hbad
          go_wp2_with fail
          refine (WK.out _ K3.out).mono ?_
          rintro e w9 ⟨rfl, k9⟩
          have K9 := Lib.hid (keeps_trans K3.out k9)
          clear k9
          go_wp2_with fail
          go_ret
          exact ⟨rfl, K9.out⟩
        · exfalso
          omega
    · have K2 := Lib.hid (keeps_trans K1.out k2)
      clear k2
      go_wp2_with fail
      refine (WK.out _ K2.out).mono ?_
      rintro e w9 ⟨rfl, k9⟩
      have K9 := Lib.hid (keeps_trans K2.out k9)
      clear k9
      go_wp2_with fail
      go_ret
      exact ⟨rfl, K9.out⟩
  · clear hv
    go_wp2_with fail
    refine (WK.out _ K1.out).mono ?_
    rintro e w9 ⟨rfl, k9⟩
    have K9 := Lib.hid (keeps_trans K1.out k9)
    clear k9
    go_wp2_with fail
    go_ret
    exact ⟨rfl, K9.out⟩
end Go.Proofs.YtamboappeahgpaaGreatDoor
