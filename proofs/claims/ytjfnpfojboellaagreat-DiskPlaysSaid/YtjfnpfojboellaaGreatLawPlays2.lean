/- DiskPlays. -/
import Derived.Test.YtjfnpfojboellaaGreatLawPlays
import Derived.Test.YtjfnpfojboellaaGreatLawDisk13
namespace Go.Proofs.YtjfnpfojboellaaGreat
open Go.RowKit
set_option linter.unusedSimpArgs false
set_option linter.unusedVariables false
set_option maxRecDepth 100000

theorem doS_blen {s : Ds} (h : DsOk s) (o : Opx) : (doS s o).2.b.length ≤ 16777216 := by
  unfold doS
  by_cases h0 : o.kind = 0
  · rw [if_pos h0]; simp
  rw [if_neg h0]
  by_cases h1 : o.kind = 1
  · rw [if_pos h1]; simp
  rw [if_neg h1]
  by_cases h2 : o.kind = 2
  · rw [if_pos h2]; simp
  rw [if_neg h2]
  by_cases h3 : o.kind = 3
  · rw [if_pos h3]; simp
  rw [if_neg h3]
  by_cases h4 : o.kind = 4
  · rw [if_pos h4]; simp
  rw [if_neg h4]
  by_cases h5 : o.kind = 5
  · rw [if_pos h5]; simp
  rw [if_neg h5]
  by_cases h6 : o.kind = 6
  · rw [if_pos h6]; exact readS_len h _ _ _
  rw [if_neg h6]
  by_cases h7 : o.kind = 7
  · rw [if_pos h7]; simp
  rw [if_neg h7]
  by_cases h8 : o.kind = 8
  · rw [if_pos h8]; simp
  rw [if_neg h8]
  by_cases h9 : o.kind = 9
  · rw [if_pos h9]; simp
  rw [if_neg h9]
  by_cases h10 : o.kind = 10
  · rw [if_pos h10]; simp
  rw [if_neg h10]
  by_cases h11 : o.kind = 11
  · rw [if_pos h11]; simp
  rw [if_neg h11]
  simp
set_option maxHeartbeats 16000000 in
theorem plays6_walk (K : DiskOk) (R : Ref.DiskOk) (q : Int) (hq : IsI q) (A : Option Addr) (n c : Nat) (l : List OpS) (w : World) (hZ : K.Z w) (hY : R.Z w) (h : OpsAt w A l) (hn : n = l.length) (hm : n ≤ 9223372036854775807) :
    Calls Tryz.prog 3 #[.int .i64 q, .slice A n c] w (Yes w) := by
  have WK := Lib.hid (fun (W : World) (q : Keeps w W) => works6 K W (K.keep hZ q))
  have VA := Lib.hid (vast_any A n c l w h hn hm)
  have H := Lib.hid h
  have HN := Lib.hid hn
  have HZ := Lib.hid hZ
  have HY := Lib.hid hY
  have HQ := Lib.hid hq
  clear h hn hZ hY hq
  go_enter Tryz.func3, Tryz.ntmps3
  go_wp2_with fail
  refine VA.out.mono ?_
  rintro e w1 ⟨vv, rfl, k1, hv⟩
  have K1 := Lib.hid k1
  clear k1
  rcases vv with _ | _
  · have FW := Lib.hid (hv rfl)
    have NW := Lib.hid (K.new q w1 (K.keep HZ.out K1.out) HQ.out.1 HQ.out.2)
    have NR := Lib.hid (fun (V : World) (k : Keeps w1 V) => R.new q V (R.keep HY.out (keeps_trans K1.out k)) HQ.out.1 HQ.out.2)
    have hbi : (n : Int) ≤ 150 := by have := FW.out.most; have := HN.out; omega
    clear hv
    go_wp2_with fail
    refine NW.out.mono ?_
    rintro e w2 (⟨hq0, hq1, b, F, rfl, hD, hF, k2⟩ | ⟨hbad, rfl, k2⟩)
    · have HK := Lib.hid (show Have K w w2 b F ⟨[], q.toNat, 0, false⟩ from ⟨hD, fun i hi => Nat.le_trans K1.out.size (hF i hi), keeps_trans K1.out k2⟩)
      have Q2 := Lib.hid k2
      clear hD hF k2
      unfold dpt
      go_wp2_with fail
      refine (NR.out _ Q2.out).mono ?_
      rintro e w3 (⟨-, -, b2, F2, rfl, hD2, hF2, k3⟩ | ⟨hbad, -, -⟩)
      · have HK3 := Lib.hid (HK.out.keep k3)
        have HR3 := Lib.hid (show Ref.Have R w w3 b2 F2 ⟨[], q.toNat, 0, false⟩ from ⟨hD2, fun i hi => Nat.le_trans HK.out.kp.size (hF2 i hi), HK3.out.kp⟩)
        have DJ3 := Lib.hid (show ∀ i, F i → ¬ F2 i from fun i hi h2 => by have h3 := K.lt HK.out.D i hi; have h4 := hF2 i h2; omega)
        clear hD2 hF2 k3
        unfold dpt
        go_wp2_with fail
        go_loopw [9] (fun i wr => ∃ (j : Nat) (s : Ds) (G G2 : Nat → Prop), j ≤ n ∧ i = .int .i64 j ∧ Hid (s.l.length ≤ j) ∧ Have K w wr b G s ∧ Ref.Have R w wr b2 G2 s ∧ Hid (∀ i, G i → ¬ G2 i)) (fun i _ => n - (intOf i).toNat)
        case atStart => exact ⟨0, _, F, F2, Nat.zero_le _, rfl, Lib.hid (Nat.le_refl _), HK3.out, HR3.out, DJ3⟩
        case round =>
          obtain ⟨j, s, G, G2, hj, rfl, hsl, hh, rr, DJ⟩ := hrel
          have HH := Lib.hid hh
          have RR := Lib.hid rr
          clear hh rr
          by_cases hlt : j < n
          · have hjn : (j : Int) < (n : Int) := by omega
            obtain ⟨o, ho⟩ : ∃ o, l[j]? = some o := ⟨_, List.getElem?_eq_getElem (by have := HN.out; omega)⟩
            have HO := Lib.hid ho
            clear ho
            have OA := H.out.keep HH.out.kp
            obtain ⟨ad, rfl, q0⟩ := OA.cell0 HO.out
            have c0 : (wr).cell? (ad.add (j * 8)) = some (.int .i64 o.x.kind) := by have := q0 0 (by decide); simpa [opC, Addr.add] using this
            have c1 := q0 1 (by decide)
            have c2 := q0 2 (by decide)
            have c3 := q0 3 (by decide)
            have c4 := q0 4 (by decide)
            have c5 := q0 5 (by decide)
            have c6 := q0 6 (by decide)
            have c7 := q0 7 (by decide)
            rw [add_pos6 _ _ (by decide)] at c1 c2 c3 c4 c5 c6 c7
            simp only [opC, List.getElem?_cons_zero, List.getElem?_cons_succ] at c1 c2 c3 c4 c5 c6 c7
            have hfe := FW.out.each o (List.mem_of_getElem? HO.out)
            have hf1 := Lib.hid hfe
            have DO := Lib.hid (does_any K HZ.out HH.out o (H.out.ok o (List.mem_of_getElem? HO.out)) (by omega) (by omega))
            unfold opA dpt at DO
            clear q0 OA hfe
            go_wp2_with fail
            refine DO.out.mono ?_
            rintro e w5 ⟨v5, G5, rfl, o5, hD5, ht5, -⟩
            obtain ⟨bl, hbl⟩ : ∃ bl, (doS s o.x).2.b = bl := ⟨_, rfl⟩
            obtain ⟨N, hN⟩ : ∃ N, (doS s o.x).2.n = N := ⟨_, rfl⟩
            obtain ⟨ei, hE⟩ : ∃ ei : Int, ((doS s o.x).2.e : Int) = ei := ⟨_, rfl⟩
            obtain ⟨s5, hs5⟩ : ∃ s5, (doS s o.x).1 = s5 := ⟨_, rfl⟩
            have BL := Lib.hid (show bl.length ≤ 16777216 by rw [← hbl]; exact doS_blen (K.ok HH.out.D) o.x)
            have SL5 := Lib.hid (show s5.l.length ≤ j + 1 by rw [← hs5]; have := doS_len s o.x; have := hsl.out; omega)
            rw [hbl] at o5
            rw [hN, hE]
            rw [hs5] at hD5
            obtain ⟨z, hz⟩ : ∃ z, z = bl.length := ⟨_, rfl⟩
            rw [← hz] at o5
            have HZL := Lib.hid hz
            clear hz
            obtain ⟨A5, cc5, rfl, -⟩ := o5.form
            have H5 := Lib.hid (HH.out.step hD5 ht5)
            have R5 := Lib.hid (show Ref.Have R w w5 b2 G2 s from ⟨R.same RR.out.D (fun i hi => ht5.only.block i (R.lt RR.out.D i hi) (fun e => DJ.out i e hi)) ht5.only.size, RR.out.low, H5.out.kp⟩)
            have DJ5 := Lib.hid (show ∀ i, G5 i → ¬ G2 i from fun i hi h2 => ht5.notIn (R.lt RR.out.D i h2) (fun e => DJ.out i e h2) hi)
            have NO5 := Lib.hid (show ∀ k, (Value.slice A5 z cc5).ownBlock = some k → ¬ G2 k from fun k hk hf => by have h1 := (o5.lt k hk).1; have h2 := R.lt RR.out.D k hf; omega)
            have kA := keeps_alloc w5 (.cells #[.slice A5 z cc5, .int .i64 (N : Int), .int .i64 ei] 34)
            have O5 := Lib.hid (o5.keep kA)
            have BT := Lib.hid (Box.new w5 34 #[.slice A5 z cc5, .int .i64 (N : Int), .int .i64 ei])
            have R5A := Lib.hid (R5.out.keep kA)
            have H5A := Lib.hid (H5.out.keep kA)
            clear o5 hD5 ht5 c0 c1 c2 c3 c4 c5 c6 c7 DO kA
            have OA := H.out.keep H5A.out.kp
            obtain ⟨ad', e', q0⟩ := OA.cell0 HO.out
            obtain rfl := Option.some.inj e'
            have c0 : (w5.alloc (.cells #[.slice A5 z cc5, .int .i64 (N : Int), .int .i64 ei] 34)).cell? (ad.add (j * 8)) = some (.int .i64 o.x.kind) := by have := q0 0 (by decide); simpa [opC, Addr.add] using this
            have c1 := q0 1 (by decide)
            have c2 := q0 2 (by decide)
            have c3 := q0 3 (by decide)
            have c4 := q0 4 (by decide)
            have c5 := q0 5 (by decide)
            have c6 := q0 6 (by decide)
            have c7 := q0 7 (by decide)
            rw [add_pos6 _ _ (by decide)] at c1 c2 c3 c4 c5 c6 c7
            simp only [opC, List.getElem?_cons_zero, List.getElem?_cons_succ] at c1 c2 c3 c4 c5 c6 c7
            have MO := Lib.hid (Ref.meant_any R HY.out R5A.out (by have := hsl.out; omega) o (H.out.ok o (List.mem_of_getElem? HO.out)) (by have := hf1.out; omega) (by have := hf1.out; omega))
            unfold opA Ref.DoneV dpt at MO
            rw [hbl, hN, hE, hs5, ← HZL.out] at MO
            clear q0 OA
            go_wp2_with fail
            refine MO.out.mono ?_
            rintro e w6 ⟨v6, G6, rfl, o6, hD6, ht6, -⟩
            obtain ⟨A6, cc6, rfl, -⟩ := o6.form
            have R6 := Lib.hid (R5A.out.step hD6 ht6)
            have H6 := Lib.hid (show Have K w w6 b G5 s5 from ⟨K.same H5A.out.D (fun i hi => ht6.only.block i (K.lt H5A.out.D i hi) (fun e => DJ5.out i hi e)) ht6.only.size, H5A.out.low, R6.out.kp⟩)
            have DJ6 := Lib.hid (show ∀ i, G5 i → ¬ G6 i from fun i hi => ht6.notIn (K.lt H5A.out.D i hi) (DJ5.out i hi))
            have O56 := Lib.hid (O5.out.turns ht6 NO5.out)
            have BT6 := BT.out.turned ht6 (fun e => by have := R.lt R5.out.D _ e; omega)
            have kB := keeps_alloc w6 (.cells #[.slice A6 z cc6, .int .i64 (N : Int), .int .i64 ei] 34)
            have t0 := (BT6.keep kB).cell 0 rfl
            have t1 := (BT6.keep kB).cell 1 rfl
            have t2 := (BT6.keep kB).cell 2 rfl
            have BU := Box.new w6 34 #[.slice A6 z cc6, .int .i64 (N : Int), .int .i64 ei]
            have u0 := BU.cell 0 rfl
            have u1 := BU.cell 1 rfl
            have u2 := BU.cell 2 rfl
            have SM := Lib.hid (same6_any A5 z cc5 bl A6 z cc6 bl (w6.alloc (.cells #[.slice A6 z cc6, .int .i64 (N : Int), .int .i64 ei] 34)) (O56.out.keep kB).at_ HZL.out (o6.keep kB).at_ HZL.out (by have := BL.out; have := HZL.out; omega))
            rw [decide_eq_true rfl] at SM
            have H6B := Lib.hid (H6.out.keep kB)
            have R6B := Lib.hid (R6.out.keep kB)
            have y1 : (ei != ei) = false := by simp
            have y2 : ((N : Int) != (N : Int)) = false := by simp
            clear o6 hD6 ht6 BT6 BU kB c0 c1 c2 c3 c4 c5 c6 c7 MO
            go_wp2_with fail
            refine SM.out.mono ?_
            rintro e w7 ⟨rfl, k7⟩
            have H7 := Lib.hid (H6B.out.keep k7)
            have R7 := Lib.hid (R6B.out.keep k7)
            have AL := Lib.hid (alike_any K R HZ.out HY.out H7.out R7.out (by have := SL5.out; omega) (by have h1 := places_few (K.ok H7.out.D).files; have := SL5.out; omega))
            unfold dpt at AL
            clear k7 t0 t1 t2 u0 u1 u2
            go_wp2_with fail
            refine AL.out.mono ?_
            rintro e w8 ⟨rfl, k8⟩
            have H8 := Lib.hid (H7.out.keep k8)
            have R8 := Lib.hid (R7.out.keep k8)
            clear k8 y1 y2
            go_wp2_with fail
            first
              | exact ⟨⟨j + 1, s5, G5, G6, by omega, by go_num, SL5.out, H8.out, R8.out, DJ6.out⟩, by simp [intOf]; omega⟩
              | exact ⟨⟨j + 1, s5, G5, G6, by omega, by go_num, SL5, H8.out, R8.out, DJ6⟩, by simp [intOf]; omega⟩
              | (refine ⟨?_, by simp [intOf]; omega⟩
                 (repeat apply Exists.intro)
                 refine ⟨?_, rfl⟩
                 exact ⟨j + 1, s5, G5, G6, by omega, by go_num, SL5, H8.out, R8.out, DJ6⟩)
          · obtain rfl : j = n := by omega
            clear hlt hj
            have FI := Lib.hid (K.files (HH.out.z HZ.out) HH.out.D (by have := hsl.out; omega))
            have FR := Lib.hid (fun (V : World) (k : Keeps wr V) => R.files ((RR.out.keep k).z HY.out) (RR.out.keep k).D (by have := hsl.out; omega))
            have OKS := Lib.hid (K.ok HH.out.D)
            unfold dpt at FI FR
            go_wp2_with fail
            refine FI.out.mono ?_
            rintro e w4 ⟨v4, rfl, f4, k4⟩
            have F4 := Lib.hid f4
            have K4 := Lib.hid k4
            clear f4 k4
            go_wp2_with fail
            refine (FR.out _ K4.out).mono ?_
            rintro e w5 ⟨v5, rfl, f5, k5⟩
            have SF := Lib.hid (samefiles_any _ _ v4 v5 _ _ w5 (F4.out.keep k5) f5 (by rw [List.length_map]; have := hsl.out; omega) (by rw [List.length_map]; have := hsl.out; omega) (by
              intro p hp
              obtain ⟨f, hf, rfl⟩ := List.mem_map.1 hp
              exact (OKS.out.files f hf).size))
            rw [decide_eq_true rfl] at SF
            have K5 := Lib.hid (keeps_trans HH.out.kp (keeps_trans K4.out k5))
            clear f5 k5
            go_wp2_with fail
            refine SF.out.mono ?_
            rintro e w6 ⟨rfl, k6⟩
            have K6 := Lib.hid (keeps_trans K5.out k6)
            clear k6
            go_wp2_with fail
            refine (WK.out _ K6.out).mono ?_
            rintro e w7 ⟨rfl, k7⟩
            go_wp2_with fail
            go_ret
            exact ⟨rfl, keeps_trans K6.out k7⟩
      · exfalso
        omega
    · go_wp2_with fail
      refine (NR.out _ k2).mono ?_
      rintro e w3 (⟨h0, h1, -⟩ | ⟨-, rfl, k3⟩)
      · exfalso
        omega
      · have K3 := Lib.hid (keeps_trans K1.out (keeps_trans k2 k3))
        clear k2 k3
        go_wp2_with fail
        refine (WK.out _ K3.out).mono ?_
        rintro e w4 ⟨rfl, k4⟩
        go_wp2_with fail
        go_ret
        exact ⟨rfl, keeps_trans K3.out k4⟩
  · clear hv
    go_wp2_with fail
    refine (WK.out _ K1.out).mono ?_
    rintro e w2 ⟨rfl, k2⟩
    go_wp2_with fail
    go_ret
    exact ⟨rfl, keeps_trans K1.out k2⟩
end Go.Proofs.YtjfnpfojboellaaGreat
