/- PoolBudget. -/
import Derived.Test.YtamboappeahgpaaGreatDoorQPoolHeal
namespace Go.Proofs.YtamboappeahgpaaGreatDoor
open Go.RowKit
set_option linter.unusedSimpArgs false
set_option linter.unusedVariables false
set_option maxRecDepth 100000

set_option maxHeartbeats 32000000 in
theorem budget10_walk (K : DiskOk) (PK : PageOk) (m n : Int) (hmI : IsI m) (hnI : IsI n) (A : Option Addr) (len c : Nat) (l : List Op10) (w : World) (hZ : K.Z w) (hS : Sizes w) (hO : Ops10At w A l) (hlen : len = l.length) (hm : len ≤ 9223372036854775807) :
    Calls Tryz.prog 5 #[.int .i64 m, .int .i64 n, .slice A len c] w (Yes10 w) := by
  have WK := Lib.hid (fun (W : World) (q : Keeps w W) => works10 K PK W (K.keep hZ q) (hS.keep q))
  have VA := Lib.hid (vast10_any m A len c l w hO hlen hm)
  have VB := Lib.hid (fun (V : World) (k : Keeps w V) => vast10_any n A len c l V (hO.keep k) hlen hm)
  have NW := Lib.hid (fun (W : World) (k : Keeps w W) => K.new 65536 W (K.keep hZ k) (by decide) (by decide))
  have HO := Lib.hid hO
  have HL := Lib.hid hlen
  have HZ := Lib.hid hZ
  have HS := Lib.hid hS
  have HM := Lib.hid hmI
  have HN := Lib.hid hnI
  clear hZ hS hO hlen hmI hnI
  go_enter Tryz.func5, Tryz.ntmps5
  go_wp2_with fail
  refine VA.out.mono ?_
  rintro e w1 ⟨v, rfl, k1, hv⟩
  have K1 := Lib.hid k1
  clear k1
  rcases v with _ | _
  · obtain ⟨few, hm64⟩ := hv rfl
    have FEW := Lib.hid few
    clear hv few
    go_wp2_with fail
    refine (VB.out w1 K1.out).mono ?_
    rintro e w2 ⟨v, rfl, k2, hv⟩
    have K2 := Lib.hid (keeps_trans K1.out k2)
    clear k2
    rcases v with _ | _
    · obtain ⟨-, hn64⟩ := hv rfl
      clear hv
      by_cases hm1 : m < 1
      · go_wp2_with fail
        refine (WK.out _ K2.out).mono ?_
        rintro e w9 ⟨rfl, k9⟩
        have K9 := Lib.hid (keeps_trans K2.out k9)
        clear k9
        go_wp2_with fail
        go_ret
        exact ⟨rfl, K9.out⟩
      · have hm1b : decide (m < 1) = false := decide_eq_false hm1
        by_cases hn1 : n < 1
        · go_wp2_with fail
          refine (WK.out _ K2.out).mono ?_
          rintro e w9 ⟨rfl, k9⟩
          have K9 := Lib.hid (keeps_trans K2.out k9)
          clear k9
          go_wp2_with fail
          go_ret
          exact ⟨rfl, K9.out⟩
        · have hn1b : decide (n < 1) = false := decide_eq_false hn1
          have hm0 : 1 ≤ m := by omega
          have hn0 : 1 ≤ n := by omega
          go_wp2_with fail
          refine (NW.out w2 K2.out).mono ?_
          rintro e w3 (⟨-, -, b, F, rfl, hD, hF, k3⟩ | ⟨hbad, -⟩)
          rotate_left
          · exfalso; omega
          have HV := Lib.hid (show Have K w w3 b F ⟨[], 65536, 0, false⟩ from ⟨hD, fun i hi => Nat.le_trans K2.out.size (hF i hi), keeps_trans K2.out k3⟩)
          clear hD hF k3
          unfold dpt
          go_wp2_with fail
          refine (NW.out w3 HV.out.kp).mono ?_
          rintro e w4 (⟨-, -, b2, F2, rfl, hD, hF, k4⟩ | ⟨hbad, -⟩)
          rotate_left
          · exfalso; omega
          have HV4 := Lib.hid (HV.out.keep k4)
          have HW4 := Lib.hid (show Have K w w4 b2 F2 ⟨[], 65536, 0, false⟩ from ⟨hD, fun i hi => Nat.le_trans HV.out.kp.size (hF i hi), HV4.out.kp⟩)
          have DJ4 := Lib.hid (show ∀ i, F i → ¬ F2 i from fun i hi h2 => by have h3 := K.lt HV.out.D i hi; have h4 := hF i h2; omega)
          clear hD hF k4
          unfold dpt
          have PN := Lib.hid (new10_any HV4.out m HM.out)
          go_wp2_with fail
          refine PN.out.mono ?_
          rintro e w5 ⟨k5, ⟨-, hm2, B, Fp, X, sl, rfl, rfl, h5, l5⟩ | ⟨hbad, -⟩⟩
          rotate_left
          · exfalso; omega
          obtain ⟨M, rfl⟩ : ∃ M : Nat, m = (M : Int) := ⟨m.toNat, by omega⟩
          rw [Int.toNat_natCast] at h5
          have HW5 := Lib.hid (HW4.out.keep k5)
          have DP5 := Lib.hid (show ∀ i, Fp i → ¬ F2 i from fun i hi h2 => by have h3 := K.lt HW4.out.D i h2; have h4 := l5 i hi; omega)
          have H5 := Lib.hid h5
          have K5 := Lib.hid k5
          clear h5 l5 k5
          have PN2 := Lib.hid (new10_any HW5.out n HN.out)
          clear PN
          go_wp2_with fail
          refine PN2.out.mono ?_
          rintro e w6 ⟨k6, ⟨-, hn2, B2, Fp2, X2, sl2, rfl, rfl, h6, l6⟩ | ⟨hbad, -⟩⟩
          rotate_left
          · exfalso; omega
          obtain ⟨N, rfl⟩ : ∃ N : Nat, n = (N : Int) := ⟨n.toNat, by omega⟩
          rw [Int.toNat_natCast] at h6
          have hMb : M ≤ 4096 := by omega
          have hNb : N ≤ 4096 := by omega
          have J1 := Lib.hid (show PJ K w B (newPl ⟨[], 65536, 0, false⟩ M) (Both F Fp) w6 from ⟨F, Fp, X, sl, rfl, H5.out.keep k6⟩)
          have J2 := Lib.hid (show PJ K w B2 (newPl ⟨[], 65536, 0, false⟩ N) (Both F2 Fp2) w6 from ⟨F2, Fp2, X2, sl2, rfl, h6⟩)
          have DJ := Lib.hid (show ∀ i, Both F Fp i → ¬ Both F2 Fp2 i from by
            rintro i (hi | hi) (h2 | h2)
            · exact DJ4.out i hi h2
            · have h3 := K.lt HV4.out.D i hi; have h4 := l6 i h2; have h5 := K5.out.size; omega
            · exact DP5.out i hi h2
            · have h3 := H5.out.below i (.inr hi); have h4 := l6 i h2; omega)
          have R1 := Lib.hid (runs_new ⟨[], 65536, 0, false⟩ (n := M) ⟨by omega, by omega⟩)
          have R2 := Lib.hid (runs_new ⟨[], 65536, 0, false⟩ (n := N) ⟨by omega, by omega⟩)
          have C1 := Lib.hid (healC_first (n := M) ⟨by omega, by omega⟩)
          have C2 := Lib.hid (healC_first (n := N) ⟨by omega, by omega⟩)
          clear h6 l6 k6 PN2 HV HV4 HW4 HW5 H5 DJ4 DP5 K5
          generalize newPl ⟨[], 65536, 0, false⟩ M = p0 at *
          generalize newPl ⟨[], 65536, 0, false⟩ N = q0 at *
          generalize Both F Fp = T1 at *
          generalize Both F2 Fp2 = T2 at *
          go_wp2_with fail
          go_loopw [13] (fun i wr => ∃ (j : Nat) (V : Vw) (p q : Pst) (S1 S2 : Nat → Prop), j ≤ len ∧ i = .int .i64 j ∧ Hid (PJ K w B p S1 wr) ∧ Hid (PJ K w B2 q S2 wr) ∧ Hid (∀ i, S1 i → ¬ S2 i) ∧ Hid (Runs p M j) ∧ Hid (Runs q N j) ∧ Hid (HealC p V j) ∧ Hid (HealC q V j)) (fun i _ => len - (intOf i).toNat)
          case atStart => exact ⟨0, _, p0, q0, T1, T2, Nat.zero_le _, rfl, J1, J2, DJ, R1, R2, C1, C2⟩
          case round =>
            obtain ⟨j, V, p, q, S1, S2, hj, rfl, I1, I2, DI, Q1, Q2, H1, H2⟩ := hrel
            by_cases hlt : j < len
            · have hjl : (j : Int) < (len : Int) := by omega
              have hj150 : j < 150 := by have := FEW.out.most; have := HL.out; omega
              obtain ⟨o, ho⟩ : ∃ o, l[j]? = some o := ⟨_, List.getElem?_eq_getElem (by have := HL.out; omega)⟩
              have hom := List.mem_of_getElem? ho
              have OK := Lib.hid (HO.out.ok o hom)
              have hol := (FEW.out.each o hom).1
              obtain ⟨ad, rfl, -⟩ := (HO.out.keep I1.out.kp).cell0 ho
              have QK := Lib.hid (fun (W : World) (kk : Keeps w W) => (HO.out.keep kk).four ho (ad := ad) rfl)
              obtain ⟨c0, c1, c2, c3⟩ := QK.out wr I1.out.kp
              have PL := Lib.hid (plain_any o.kind (str o.name) o.k o.A o.len o.c wr)
              clear ho hom
              go_wp2_with fail
              refine PL.out.mono ?_
              rintro e w7 ⟨rfl, k7⟩
              have I1' := Lib.hid (I1.out.keep k7)
              have I2' := Lib.hid (I2.out.keep k7)
              clear k7 c0 c1 c2 c3 PL I1 I2
              by_cases hpl : plainK o.kind
              · rw [decide_eq_true hpl]
                obtain ⟨a1, s1⟩ := H1.out.step (by omega) hpl
                obtain ⟨a2, s2⟩ := H2.out.step (by omega) hpl
                have DO := Lib.hid (does10_pj PK I1'.out HZ.out HS.out Q1.out hMb (by omega) o OK.out hol)
                have DO2 := fun (W : World) (I : PJ K w B2 q S2 W) => does10_pj PK I HZ.out HS.out Q2.out hNb (by omega) o OK.out hol
                have Q1' := Lib.hid (Q1.out.next I1'.out.dok o)
                have Q2' := Lib.hid (Q2.out.next I2'.out.dok o)
                rw [a1] at DO
                rw [a2] at DO2
                have DO2 := Lib.hid DO2
                have H1' := Lib.hid s1
                have H2' := Lib.hid s2
                clear a1 a2 s1 s2 Q1 Q2 H1 H2 hpl
                generalize (doP p o).1 = p' at *
                generalize (doP q o).1 = q' at *
                obtain ⟨V', rest, hdo⟩ : ∃ V' rest, doV V o.kind o.name o.k o.b = (V', rest) := ⟨_, _, rfl⟩
                obtain ⟨tb, tn, te⟩ := rest
                rw [hdo] at DO DO2 H1' H2'
                clear hdo
                simp only at DO DO2 H1' H2'
                unfold op10C at DO DO2
                obtain ⟨c0, c1, c2, c3⟩ := QK.out w7 I1'.out.kp
                go_wp2_with fail
                refine DO.out.mono ?_
                rintro e w8 ⟨v8, S8, rfl, o8, h8, t8, n8⟩
                obtain ⟨A8, d8, rfl, -⟩ := o8.form
                obtain ⟨g8, dj8⟩ := I2'.out.far t8 I1'.out.low (fun i h2 h1 => DI.out i h1 h2)
                obtain ⟨nb, hnb⟩ : ∃ nb, tb.length = nb := ⟨_, rfl⟩
                have HNB := Lib.hid hnb
                rw [hnb] at o8 ⊢
                have kA := keeps_alloc w8 (.cells #[.slice A8 nb d8, .int .i64 (tn : Int), .int .i64 (te : Int)] 65)
                have BX := Lib.hid (Box.new w8 65 #[.slice A8 nb d8, .int .i64 (tn : Int), .int .i64 (te : Int)])
                have OW := Lib.hid (o8.keep kA)
                have J8 := Lib.hid (h8.keep kA)
                have G8 := Lib.hid (g8.keep kA)
                have DJ8 := Lib.hid dj8
                have LT7 := Lib.hid I2'.out.lt
                have SZ8 := Lib.hid t8.only.size
                clear c0 c1 c2 c3 h8 g8 dj8 o8 n8 kA hnb DO t8
                obtain ⟨c0, c1, c2, c3⟩ := QK.out _ J8.out.kp
                have DB := Lib.hid (DO2.out _ G8.out)
                clear DO2
                go_wp2_with fail
                refine DB.out.mono ?_
                rintro e w9 ⟨v9, S9, rfl, o9, h9, t9, n9⟩
                obtain ⟨A9, d9, rfl, -⟩ := o9.form
                obtain ⟨g9, dj9⟩ := J8.out.far t9 G8.out.low (fun i h1 h2 => DJ8.out i h2 h1)
                rw [HNB.out] at o9 ⊢
                have OW9 := OW.out.turns t9 (fun k hk hf => by have h1 := (OW.out.lt k hk).1; have h2 := LT7.out k hf; omega)
                have BX9 := BX.out.turned t9 (fun e => by have h2 := LT7.out _ e; have h3 := SZ8.out; omega)
                have kB := keeps_alloc w9 (.cells #[.slice A9 nb d9, .int .i64 (tn : Int), .int .i64 (te : Int)] 65)
                have x0 := (BX9.keep kB).cell 0 rfl
                have x1 := (BX9.keep kB).cell 1 rfl
                have x2 := (BX9.keep kB).cell 2 rfl
                have BY := Box.new w9 65 #[.slice A9 nb d9, .int .i64 (tn : Int), .int .i64 (te : Int)]
                have y0 := BY.cell 0 rfl
                have y1 := BY.cell 1 rfl
                have y2 := BY.cell 2 rfl
                have ST := Lib.hid (by
                  have h1 := OW9.keep kB
                  have h2 := o9.keep kB
                  rw [← HNB.out] at h1 h2
                  have h3 := sameTold10_any A8 d8 A9 d9 tb (tn : Int) (te : Int) _ h1 h2
                  rw [HNB.out] at h3
                  exact h3)
                have J9 := Lib.hid (h9.keep kB)
                have G9 := Lib.hid (g9.keep kB)
                have DJ9 := Lib.hid dj9
                clear c0 c1 c2 c3 h9 g9 dj9 o9 n9 kB DB t9 OW9 BX9 BY BX OW J8 G8 DJ8 LT7 SZ8
                go_wp2_with fail
                refine ST.out.mono ?_
                rintro e w10 ⟨rfl, k10⟩
                have J10 := Lib.hid (J9.out.keep k10)
                have G10 := Lib.hid (G9.out.keep k10)
                clear k10
                go_wp2_with fail
                go_roundw
                case rel => exact ⟨j + 1, V', p', q', _, _, by omega, by go_num, G10, J10, DJ9, Q1', Q2', H1', H2'⟩
                case measure => simp [intOf] <;> omega
              · rw [decide_eq_false hpl]
                have Q1' := Lib.hid (show Runs p M (j + 1) from ⟨Q1.out.ok, Q1.out.len, Q1.out.b.more (by omega), Q1.out.t, Q1.out.R, Q1.out.P, by have := Q1.out.s; omega⟩)
                have Q2' := Lib.hid (show Runs q N (j + 1) from ⟨Q2.out.ok, Q2.out.len, Q2.out.b.more (by omega), Q2.out.t, Q2.out.R, Q2.out.P, by have := Q2.out.s; omega⟩)
                have H1' := Lib.hid (show HealC p V (j + 1) from by obtain ⟨a, b, h1, h2⟩ := H1.out; exact ⟨a, b, by omega, h2⟩)
                have H2' := Lib.hid (show HealC q V (j + 1) from by obtain ⟨a, b, h1, h2⟩ := H2.out; exact ⟨a, b, by omega, h2⟩)
                clear Q1 Q2 H1 H2 hpl
                go_wp2_with fail
                go_roundw
                case rel => exact ⟨j + 1, V, p, q, S1, S2, by omega, by go_num, I1', I2', DI, Q1', Q2', H1', H2'⟩
                case measure => simp [intOf] <;> omega
            · obtain rfl : j = len := by omega
              have hlen150 : j ≤ 150 := by have := FEW.out.most; have := HL.out; omega
              have NP := Lib.hid (names_pj I1.out HZ.out (by have := H1.out.num; omega))
              have HL1 := Lib.hid (show p.d.l.length ≤ 150 by have := H1.out.num; omega)
              have NM := Lib.hid (H1.out.named.2 I1.out.dok.rise)
              clear hlt hj
              go_wp2_with fail
              refine NP.out.mono ?_
              rintro e w8 ⟨v8, rfl, o8, k8⟩
              obtain ⟨A8, d8, rfl, -⟩ := o8.form
              obtain ⟨fl, hfl⟩ : ∃ fl, p.d.l = fl := ⟨_, rfl⟩
              rw [hfl] at o8 NM HL1 ⊢
              obtain ⟨L, hL⟩ : ∃ L, fl.length = L := ⟨_, rfl⟩
              rw [hL] at o8 HL1 ⊢
              have HLL := Lib.hid hL
              have OW := Lib.hid o8
              have ON := Lib.hid (show ∀ g, (Value.slice A8 L d8).ownBlock = some g → ¬ S1 g from fun g hg hs => by have h1 := (o8.lt g hg).1; have h2 := I1.out.lt g hs; omega)
              have OM := Lib.hid (show ∀ g, (Value.slice A8 L d8).ownBlock = some g → ¬ S2 g from fun g hg hs => by have h1 := (o8.lt g hg).1; have h2 := I2.out.lt g hs; omega)
              have I1' := Lib.hid (I1.out.keep k8)
              have I2' := Lib.hid (I2.out.keep k8)
              have H1' := Lib.hid (H1.out.more hlen150)
              have H2' := Lib.hid (H2.out.more hlen150)
              have hLi : (L : Int) ≤ 150 := by have := HL1.out; omega
              obtain ⟨base, hbase⟩ : ∃ base, wr.heap.size = base := ⟨_, rfl⟩
              rw [hbase] at OW
              clear o8 k8 NP hfl hL I1 H1 I2 H2 hbase
              go_wp2_with fail
              go_loopw [17] (fun i wr => ∃ (i' : Nat) (p q : Pst) (S1 S2 : Nat → Prop), i' ≤ L ∧ i = .int .i64 i' ∧ Hid (PJ K w B p S1 wr) ∧ Hid (PJ K w B2 q S2 wr) ∧ Hid (∀ i, S1 i → ¬ S2 i) ∧ Hid (Runs p M (j + i')) ∧ Hid (Runs q N (j + i')) ∧ Hid (HealC p V 150) ∧ Hid (HealC q V 150) ∧ Hid (Own wr base 9 1 (.slice A8 L d8) L (fl.map fun f => strV f.name)) ∧ Hid (∀ g, (Value.slice A8 L d8).ownBlock = some g → ¬ S1 g) ∧ Hid (∀ g, (Value.slice A8 L d8).ownBlock = some g → ¬ S2 g) ∧ Hid (Flushed p (fl.map (·.name)) i') ∧ Hid (Flushed q (fl.map (·.name)) i')) (fun i _ => L - (intOf i).toNat)
              case atStart => exact ⟨0, p, q, S1, S2, Nat.zero_le _, rfl, I1', I2', DI, Q1, Q2, H1', H2', OW, ON, OM, Lib.hid (flushed_zero _ _), Lib.hid (flushed_zero _ _)⟩
              case round =>
                obtain ⟨i, p, q, S1, S2, hi, rfl, J1, J2, DI, R1, R2, C1, C2, OW1, ON1, OM1, F1, F2⟩ := hrel
                by_cases hil : i < L
                · have hili : (i : Int) < (L : Int) := by omega
                  obtain ⟨f, hf⟩ : ∃ f, fl[i]? = some f := ⟨_, List.getElem?_eq_getElem (by have := HLL.out; omega)⟩
                  have hns : (fl.map (·.name))[i]? = some f.name := by rw [List.getElem?_map, hf]; rfl
                  have hV := NM.out.at_ hns
                  obtain ⟨e0, c3, f3⟩ := C1.out.flush (by omega) hns hV F1.out
                  obtain ⟨e4, c4, f4⟩ := C2.out.flush (by omega) hns hV F2.out
                  have hnm : f.name.length ≤ maxLen := by have := C1.out.len24 hV; unfold maxLen; omega
                  have FC := Lib.hid (flush_pj PK J1.out HZ.out HS.out R1.out (by have := HL1.out; omega) f.name hnm)
                  rw [e0] at FC
                  have FD := fun (W : World) (I : PJ K w B2 q S2 W) => flush_pj PK I HZ.out HS.out R2.out (by have := HL1.out; omega) f.name hnm
                  rw [e4] at FD
                  have FD := Lib.hid FD
                  have R3 := Lib.hid (R1.out.flush J1.out.dok f.name)
                  have R4 := Lib.hid (R2.out.flush J2.out.dok f.name)
                  have C3 := Lib.hid c3
                  have C4 := Lib.hid c4
                  have F3 := Lib.hid f3
                  have F4 := Lib.hid f4
                  have HF := Lib.hid hf
                  obtain ⟨g8, rfl, q8⟩ := names_cell OW1.out hf
                  clear e0 c3 f3 e4 c4 f4 hV hns hf hnm
                  go_wp2_with fail
                  refine FC.out.mono ?_
                  rintro e w9 ⟨rfl, S9, h9, t9⟩
                  obtain ⟨o9, n9⟩ := own_far OW1.out ON1.out t9
                  obtain ⟨g9, dj9⟩ := J2.out.far t9 J1.out.low (fun i h2 h1 => DI.out i h1 h2)
                  have J9 := Lib.hid h9
                  have G9 := Lib.hid g9
                  have OW9 := Lib.hid o9
                  have ON9 := Lib.hid n9
                  have DJ9 := Lib.hid dj9
                  have DD := Lib.hid (FD.out _ g9)
                  obtain ⟨g8', e8, q9⟩ := names_cell o9 HF.out
                  obtain rfl : g8 = g8' := by injection e8 with e8; injection e8
                  clear h9 o9 n9 t9 FC q8 g9 dj9 FD e8
                  go_wp2_with fail
                  refine DD.out.mono ?_
                  rintro e w10 ⟨rfl, S10, h10, t10⟩
                  obtain ⟨o10, n10⟩ := own_far OW9.out OM1.out t10
                  obtain ⟨g10, dj10⟩ := J9.out.far t10 G9.out.low (fun i h1 h2 => DJ9.out i h2 h1)
                  have J10 := Lib.hid g10
                  have G10 := Lib.hid h10
                  have OW10 := Lib.hid o10
                  have OM10 := Lib.hid n10
                  have DJ10 := Lib.hid dj10
                  clear h10 o10 n10 t10 DD q9 g10 dj10
                  go_wp2_with fail
                  go_roundw
                  case rel => exact ⟨i + 1, _, _, S9, S10, by omega, by go_num, J10, G10, DJ10, R3, R4, C3, C4, OW10, ON9, OM10, F3, F4⟩
                  case measure => simp [intOf] <;> omega
                · obtain rfl : i = L := by omega
                  have AT1 := Lib.hid (show AllTidy p V from Flushed.all (by rw [List.length_map, HLL.out]; exact F1.out) NM.out)
                  have AT2 := Lib.hid (show AllTidy q V from Flushed.all (by rw [List.length_map, HLL.out]; exact F2.out) NM.out)
                  have SAME := Lib.hid (C1.out.same C2.out J1.out.dok.rise J2.out.dok.rise AT1.out AT2.out)
                  have FP := Lib.hid (files_pj J1.out HZ.out (by have := C1.out.num; omega))
                  have FQ := Lib.hid (fun (W : World) (k : Keeps wr W) => files_pj (J2.out.keep k) HZ.out (by have := C2.out.num; omega))
                  have LO := Lib.hid (fun (W : World) (k : Keeps wr W) => loose_pj (J1.out.keep k) HZ.out)
                  rw [C1.out.loose J1.out.dok.rise AT1.out] at LO
                  simp only [List.length_nil] at LO
                  have LP := Lib.hid (C1.out.num)
                  have LQ := Lib.hid (C2.out.num)
                  have BP := Lib.hid (J1.out.dok.files)
                  have KP := Lib.hid J1.out.kp
                  clear hil hi
                  go_wp2_with fail
                  refine FP.out.mono ?_
                  rintro e w9 ⟨v9, rfl, f9, k9⟩
                  have F9 := Lib.hid f9
                  have K9 := Lib.hid k9
                  clear f9 k9
                  go_wp2_with fail
                  refine (FQ.out _ K9.out).mono ?_
                  rintro e w10 ⟨v10, rfl, f10, k10⟩
                  have SF := Lib.hid (samefiles_any _ _ v9 v10 _ _ w10 (F9.out.keep k10) f10 (by rw [List.length_map]; have := LP.out; omega) (by rw [List.length_map]; have := LQ.out; omega) (by
                    intro x hx
                    obtain ⟨f, hf, rfl⟩ := List.mem_map.1 hx
                    exact (BP.out f hf).size))
                  rw [decide_eq_true SAME.out] at SF
                  have K10 := Lib.hid (keeps_trans K9.out k10)
                  clear f10 k10
                  go_wp2_with fail
                  refine SF.out.mono ?_
                  rintro e w11 ⟨rfl, k11⟩
                  have K11 := Lib.hid (keeps_trans K10.out k11)
                  clear k11
                  go_wp2_with fail
                  refine (LO.out _ K11.out).mono ?_
                  rintro e w12 ⟨v12, rfl, o12, k12⟩
                  obtain ⟨A12, d12, rfl, -⟩ := o12.form
                  have K12 := Lib.hid (keeps_trans KP.out (keeps_trans K11.out k12))
                  clear o12 k12
                  go_wp2_with fail
                  refine (WK.out _ K12.out).mono ?_
                  rintro e w13 ⟨rfl, k13⟩
                  have K13 := Lib.hid (keeps_trans K12.out k13)
                  clear k13
                  go_wp2_with fail
                  go_ret
                  exact ⟨rfl, K13.out⟩
    · clear hv
      go_wp2_with fail
      refine (WK.out _ K2.out).mono ?_
      rintro e w9 ⟨rfl, k9⟩
      have K9 := Lib.hid (keeps_trans K2.out k9)
      clear k9
      go_wp2_with fail
      go_ret
      exact ⟨rfl, K9.out⟩
  · clear hv
    go_wp2_with fail
    refine (WK.out _ K1.out).mono ?_
    rintro e w9 ⟨rfl, k9⟩
    have K9 := Lib.hid (keeps_trans K1.out k9)
    clear k9
    go_wp2_with fail
    go_ret
    exact ⟨rfl, K9.out⟩
end Go.Proofs.YtamboappeahgpaaGreatDoor
