/- PoolFlushes. -/
import Derived.Test.YtamboappeahgpaaGreatDoorQPoolHeal
namespace Go.Proofs.YtamboappeahgpaaGreatDoor
open Go.RowKit
set_option linter.unusedSimpArgs false
set_option linter.unusedVariables false
set_option maxRecDepth 100000

set_option maxHeartbeats 32000000 in
theorem flushes10_walk (K : DiskOk) (PK : PageOk) (m : Int) (hmI : IsI m) (A : Option Addr) (len c : Nat) (l : List Op10) (gone : List UInt8) (w : World) (hZ : K.Z w) (hS : Sizes w) (hO : Ops10At w A l) (hlen : len = l.length) (hm : len ≤ 9223372036854775807) (hgm : gone.length ≤ maxLen) :
    Calls Tryz.prog 8 #[.int .i64 m, .slice A len c, .string (str gone)] w (Yes10 w) := by
  have WK := Lib.hid (fun (W : World) (q : Keeps w W) => works10 K PK W (K.keep hZ q) (hS.keep q))
  have VA := Lib.hid (vast10_any m A len c l w hO hlen hm)
  have NW := Lib.hid (fun (W : World) (k : Keeps w W) => K.new 65536 W (K.keep hZ k) (by decide) (by decide))
  have HO := Lib.hid hO
  have HL := Lib.hid hlen
  have HZ := Lib.hid hZ
  have HS := Lib.hid hS
  have HM := Lib.hid hmI
  have HG := Lib.hid hgm
  have hgs := str_size gone
  clear hZ hS hO hlen hmI hgm
  go_enter Tryz.func8, Tryz.ntmps8
  go_wp2_with fail
  refine VA.out.mono ?_
  rintro e w1 ⟨v, rfl, k1, hv⟩
  have K1 := Lib.hid k1
  clear k1
  rcases v with _ | _
  · obtain ⟨few, hm64⟩ := hv rfl
    have FEW := Lib.hid few
    clear hv few
    by_cases hm1 : m < 1
    · clear hgs
      go_wp2_with fail
      refine (WK.out _ K1.out).mono ?_
      rintro e w9 ⟨rfl, k9⟩
      have K9 := Lib.hid (keeps_trans K1.out k9)
      clear k9
      go_wp2_with fail
      go_ret
      exact ⟨rfl, K9.out⟩
    · have hm1b : decide (m < 1) = false := decide_eq_false hm1
      by_cases hg1 : 100 < gone.length
      · have hgb : decide ((100 : Int) < ((str gone).size : Int)) = true := decide_eq_true (by omega)
        clear hgs hg1
        go_wp2_with fail
        refine (WK.out _ K1.out).mono ?_
        rintro e w9 ⟨rfl, k9⟩
        have K9 := Lib.hid (keeps_trans K1.out k9)
        clear k9
        go_wp2_with fail
        go_ret
        exact ⟨rfl, K9.out⟩
      · have hgb : decide ((100 : Int) < ((str gone).size : Int)) = false := decide_eq_false (by omega)
        have hgb2 : decide (100 < (str gone).size) = false := decide_eq_false (by omega)
        have hm0 : 1 ≤ m := by omega
        clear hgs hg1
        go_wp2_with fail
        refine (NW.out w1 K1.out).mono ?_
        rintro e w3 (⟨-, -, b, F, rfl, hD, hF, k3⟩ | ⟨hbad, -⟩)
        rotate_left
        · exfalso; omega
        have HV := Lib.hid (show Have K w w3 b F ⟨[], 65536, 0, false⟩ from ⟨hD, fun i hi => Nat.le_trans K1.out.size (hF i hi), keeps_trans K1.out k3⟩)
        clear hD hF k3
        unfold dpt
        have PN := Lib.hid (new10_any HV.out m HM.out)
        go_wp2_with fail
        refine PN.out.mono ?_
        rintro e w5 ⟨k5, ⟨-, hm2, B, Fp, X, sl, rfl, rfl, h5, l5⟩ | ⟨hbad, -⟩⟩
        rotate_left
        · exfalso; omega
        obtain ⟨M, rfl⟩ : ∃ M : Nat, m = (M : Int) := ⟨m.toNat, by omega⟩
        rw [Int.toNat_natCast] at h5
        have hMb : M ≤ 4096 := by omega
        have J1 := Lib.hid (show PJ K w B (newPl ⟨[], 65536, 0, false⟩ M) (Both F Fp) w5 from ⟨F, Fp, X, sl, rfl, h5⟩)
        have R1 := Lib.hid (runs_new ⟨[], 65536, 0, false⟩ (n := M) ⟨by omega, by omega⟩)
        have C1 := Lib.hid (healC_first (n := M) ⟨by omega, by omega⟩)
        clear h5 l5 k5 PN HV
        generalize newPl ⟨[], 65536, 0, false⟩ M = p0 at *
        generalize Both F Fp = T1 at *
        go_wp2_with fail
        go_loopw [10] (fun i wr => ∃ (j : Nat) (V : Vw) (p : Pst) (S1 : Nat → Prop), j ≤ len ∧ i = .int .i64 j ∧ Hid (PJ K w B p S1 wr) ∧ Hid (Runs p M j) ∧ Hid (HealC p V j)) (fun i _ => len - (intOf i).toNat)
        case atStart => exact ⟨0, _, p0, T1, Nat.zero_le _, rfl, J1, R1, C1⟩
        case round =>
          obtain ⟨j, V, p, S1, hj, rfl, I1, Q1, H1⟩ := hrel
          have hlen150 : len ≤ 150 := by have := FEW.out.most; have := HL.out; omega
          by_cases hlt : j < len
          · have hjl : (j : Int) < (len : Int) := by omega
            have hj150 : j < 150 := by omega
            obtain ⟨o, ho⟩ : ∃ o, l[j]? = some o := ⟨_, List.getElem?_eq_getElem (by have := HL.out; omega)⟩
            have hom := List.mem_of_getElem? ho
            have OK := Lib.hid (HO.out.ok o hom)
            have hol := (FEW.out.each o hom).1
            obtain ⟨ad, rfl, -⟩ := (HO.out.keep I1.out.kp).cell0 ho
            have QK := Lib.hid (fun (W : World) (kk : Keeps w W) => (HO.out.keep kk).four ho (ad := ad) rfl)
            obtain ⟨c0, c1, c2, c3⟩ := QK.out wr I1.out.kp
            have PL := Lib.hid (plain_any o.kind (str o.name) o.k o.A o.len o.c wr)
            clear ho hom
            go_wp2_with fail
            refine PL.out.mono ?_
            rintro e w7 ⟨rfl, k7⟩
            have I1' := Lib.hid (I1.out.keep k7)
            clear k7 c0 c1 c2 c3 PL I1
            by_cases hpl : plainK o.kind
            · rw [decide_eq_true hpl]
              obtain ⟨a1, s1⟩ := H1.out.step (by omega) hpl
              have DO := Lib.hid (does10_pj PK I1'.out HZ.out HS.out Q1.out hMb (by omega) o OK.out hol)
              have Q1' := Lib.hid (Q1.out.next I1'.out.dok o)
              have H1' := Lib.hid s1
              clear a1 s1 Q1 H1 hpl
              unfold op10C at DO
              generalize (doP p o).2.1 = tb at *
              generalize ((doP p o).2.2.1 : Int) = tn at *
              generalize ((doP p o).2.2.2 : Int) = te at *
              generalize (doP p o).1 = p' at *
              obtain ⟨c0, c1, c2, c3⟩ := QK.out w7 I1'.out.kp
              go_wp2_with fail
              refine DO.out.mono ?_
              rintro e w8 ⟨v8, S8, rfl, o8, h8, t8, n8⟩
              have J8 := Lib.hid h8
              clear c0 c1 c2 c3 h8 o8 n8 DO t8
              go_wp2_with fail
              go_roundw
              case rel => exact ⟨j + 1, _, p', S8, by omega, by go_num, J8, Q1', H1'⟩
              case measure => simp [intOf] <;> omega
            · rw [decide_eq_false hpl]
              have Q1' := Lib.hid (show Runs p M (j + 1) from ⟨Q1.out.ok, Q1.out.len, Q1.out.b.more (by omega), Q1.out.t, Q1.out.R, Q1.out.P, by have := Q1.out.s; omega⟩)
              have H1' := Lib.hid (H1.out.more (Nat.le_succ j))
              clear Q1 H1 hpl
              go_wp2_with fail
              go_roundw
              case rel => exact ⟨j + 1, V, p, S1, by omega, by go_num, I1', Q1', H1'⟩
              case measure => simp [intOf] <;> omega
          · obtain rfl : j = len := by omega
            clear hlt hj
            have NP := Lib.hid (names_pj I1.out HZ.out (by have := H1.out.num; omega))
            have HL1 := Lib.hid (show p.d.l.length ≤ 150 by have := H1.out.num; omega)
            go_wp2_with fail
            refine NP.out.mono ?_
            rintro e w8 ⟨v8, rfl, o8, k8⟩
            obtain ⟨A8, d8, rfl, -⟩ := o8.form
            have NM := Lib.hid (H1.out.named.2 I1.out.dok.rise)
            obtain ⟨fl, hfl⟩ : ∃ fl, p.d.l = fl := ⟨_, rfl⟩
            rw [hfl] at o8 NM HL1 ⊢
            obtain ⟨L, hL⟩ : ∃ L, fl.length = L := ⟨_, rfl⟩
            rw [hL] at o8 HL1 ⊢
            have HLL := Lib.hid hL
            have OW := Lib.hid o8
            have ON := Lib.hid (show ∀ g, (Value.slice A8 L d8).ownBlock = some g → ¬ S1 g from fun g hg hs => by have h1 := (o8.lt g hg).1; have h2 := I1.out.lt g hs; omega)
            have I8 := Lib.hid (I1.out.keep k8)
            have H8 := Lib.hid (H1.out.more hlen150)
            have hLi : (L : Int) ≤ 150 := by have := HL1.out; omega
            obtain ⟨base, hbase⟩ : ∃ base, wr.heap.size = base := ⟨_, rfl⟩
            rw [hbase] at OW
            clear o8 k8 NP hfl hL I1 H1 hbase
            go_wp2_with fail
            go_loopw [12] (fun i wr => ∃ (t : Nat) (q : Pst) (S2 : Nat → Prop) (r : Nat), t ≤ 2 ∧ i = .int .i64 t ∧ Hid (r ≤ 150 + 150 * t) ∧ Hid (PJ K w B q S2 wr) ∧ Hid (Runs q M r) ∧ Hid (HealC q V 150) ∧ Hid (Own wr base 9 1 (.slice A8 L d8) L (fl.map fun f => strV f.name)) ∧ Hid (∀ g, (Value.slice A8 L d8).ownBlock = some g → ¬ S2 g) ∧ Hid (t = 2 → AllTidy q V)) (fun i _ => 2 - (intOf i).toNat)
            case atStart => exact ⟨0, p, S1, j, Nat.zero_le _, rfl, Lib.hid (by omega), I8, Q1, H8, OW, ON, Lib.hid (fun h => by omega)⟩
            case round =>
              obtain ⟨t, q, S2, r, ht, rfl, hr, J2, R2, C2, OW2, ON2, AT⟩ := hrel
              by_cases htl : t < 2
              · have htl2 : (t : Int) < 2 := by omega
                have hr2 : r ≤ 300 := by have := hr.out; omega
                clear AT
                go_wp2_with fail
                go_loopw [13] (fun i wr => ∃ (j : Nat) (q : Pst) (S2 : Nat → Prop), j ≤ L ∧ i = .int .i64 j ∧ Hid (PJ K w B q S2 wr) ∧ Hid (Runs q M (r + j)) ∧ Hid (HealC q V 150) ∧ Hid (Own wr base 9 1 (.slice A8 L d8) L (fl.map fun f => strV f.name)) ∧ Hid (∀ g, (Value.slice A8 L d8).ownBlock = some g → ¬ S2 g) ∧ Hid (Flushed q (fl.map (·.name)) j)) (fun i _ => L - (intOf i).toNat)
                case atStart => exact ⟨0, q, S2, Nat.zero_le _, rfl, J2, R2, C2, OW2, ON2, Lib.hid (flushed_zero _ _)⟩
                case round =>
                  obtain ⟨i, q, S2, hi, rfl, J3, R3, C3, OW3, ON3, FL3⟩ := hrel
                  by_cases hil : i < L
                  · have hili : (i : Int) < (L : Int) := by omega
                    obtain ⟨f, hf⟩ : ∃ f, fl[i]? = some f := ⟨_, List.getElem?_eq_getElem (by have := HLL.out; omega)⟩
                    have hns : (fl.map (·.name))[i]? = some f.name := by rw [List.getElem?_map, hf]; rfl
                    have hV := NM.out.at_ hns
                    obtain ⟨e0, c3, f3⟩ := C3.out.flush (by omega) hns hV FL3.out
                    have FC := Lib.hid (flush_pj PK J3.out HZ.out HS.out R3.out (by have := HL1.out; omega) f.name (by have := C3.out.len24 hV; unfold maxLen; omega))
                    rw [e0] at FC
                    have R4 := Lib.hid (R3.out.flush J3.out.dok f.name)
                    have C4 := Lib.hid c3
                    have F4 := Lib.hid f3
                    obtain ⟨g8, rfl, q8⟩ := names_cell OW3.out hf
                    clear e0 c3 f3 hV hns hf
                    go_wp2_with fail
                    refine FC.out.mono ?_
                    rintro e w9 ⟨rfl, S9, h9, t9⟩
                    obtain ⟨o9, n9⟩ := own_far OW3.out ON3.out t9
                    have J9 := Lib.hid h9
                    have OW9 := Lib.hid o9
                    have ON9 := Lib.hid n9
                    clear h9 o9 n9 t9 FC q8
                    go_wp2_with fail
                    go_roundw
                    case rel => exact ⟨i + 1, _, S9, by omega, by go_num, J9, R4, C4, OW9, ON9, F4⟩
                    case measure => simp [intOf] <;> omega
                  · obtain rfl : i = L := by omega
                    have AT := Lib.hid (show AllTidy q V from Flushed.all (by rw [List.length_map, HLL.out]; exact FL3.out) NM.out)
                    have HE := Lib.hid (held_pj J3.out)
                    rw [C3.out.dirty AT.out] at HE
                    have LO := Lib.hid (fun (W : World) (k : Keeps wr W) => loose_pj (J3.out.keep k) HZ.out)
                    rw [C3.out.loose J3.out.dok.rise AT.out] at LO
                    simp only [List.length_nil, Int.natCast_zero] at HE LO
                    clear hil hi
                    go_wp2_with fail
                    refine HE.out.mono ?_
                    rintro e w9 ⟨rfl, k9⟩
                    have K9 := Lib.hid k9
                    clear k9
                    go_wp2_with fail
                    refine (LO.out _ K9.out).mono ?_
                    rintro e w10 ⟨v10, rfl, o10, k10⟩
                    obtain ⟨A10, d10, rfl, -⟩ := o10.form
                    have K10 := Lib.hid (keeps_trans K9.out k10)
                    have J10 := Lib.hid (J3.out.keep K10.out)
                    have OW10 := Lib.hid (OW3.out.keep K10.out)
                    clear o10 k10
                    go_wp2_with fail
                    go_roundw
                    case rel => exact ⟨t + 1, q, S2, r + i, by omega, by go_num, Lib.hid (by have := hr.out; have := HL1.out; omega), J10, R3, C3, OW10, ON3, Lib.hid (fun _ => AT.out)⟩
                    case measure => simp [intOf] <;> omega
              · obtain rfl : t = 2 := by omega
                have AT2 := Lib.hid (AT.out rfl)
                clear AT htl ht
                have FP := Lib.hid (files_pj J2.out HZ.out (by have := C2.out.num; omega))
                have HRI := Lib.hid J2.out.dok
                obtain ⟨d1, d2, d3⟩ := C2.out.drop gone
                have hr2 : r ≤ 450 := by have := hr.out; omega
                have DR := fun (W : World) (I : PJ K w B q S2 W) => drop_pj I HZ.out R2.out hMb (by omega) gone HG.out
                have R3 := Lib.hid (R2.out.drop J2.out.dok gone)
                rw [d1] at DR
                have DR := Lib.hid DR
                have D2 := Lib.hid d2
                have D3 := Lib.hid d3
                have FPG := Lib.hid (d2.gone (upV_self V gone none))
                have LQ := Lib.hid (show q.d.l.length ≤ 150 from C2.out.num)
                have ZE := Lib.hid (show ∀ f ∈ q.d.l, f.name = gone → dropE V gone = 0 from fun f hf e => dropE_zero (by
                  have hm : f.name ∈ q.d.l.map (·.name) := List.mem_map.2 ⟨f, hf, rfl⟩
                  rw [← e]
                  exact ((C2.out.named.2 J2.out.dok.rise) f.name).2 hm))
                obtain ⟨E, hE⟩ : ∃ E, dropE V gone = E := ⟨_, rfl⟩
                rw [hE] at DR ZE
                clear d1 d2 d3 hE
                go_wp2_with fail
                refine FP.out.mono ?_
                rintro e w9 ⟨v9, rfl, f9, k9⟩
                have J9 := J2.out.keep k9
                have LT2 := Lib.hid J2.out.lt
                have F9 := Lib.hid f9
                have DC := Lib.hid (DR.out _ J9)
                obtain ⟨vs, -, g2, -⟩ := f9
                obtain ⟨A9, c9, rfl, -⟩ := g2.form
                clear k9 J9 DR FP g2 J2
                go_wp2_with fail
                refine DC.out.mono ?_
                rintro e w10 ⟨rfl, S10, h10, t10⟩
                have F10 := Lib.hid (filesAt_far F9.out LT2.out t10)
                have FN := files_pj h10 HZ.out (by rw [D3.out]; have := List.length_filter_le (fun f : Fl => decide (f.name ≠ gone)) q.d.l; have := LQ.out; unfold delF; omega)
                rw [D3.out] at FN
                have FN := Lib.hid FN
                have J10 := Lib.hid h10
                clear h10 t10 DC F9 D3
                generalize q.d.l = l1 at *
                go_wp2_with fail
                refine FN.out.mono ?_
                rintro e w11 ⟨v11, rfl, f11, k11⟩
                have J11 := Lib.hid (J10.out.keep k11)
                have F11 := F10.out.keep k11
                obtain ⟨vs, g1, g2, g3⟩ := F11
                obtain ⟨us, u1, u2, u3⟩ := f11
                obtain ⟨A11, c11, rfl, -⟩ := u2.form
                have G1 := Lib.hid g1
                have G3 := Lib.hid g3
                have U1 := Lib.hid u1
                have U3 := Lib.hid u3
                obtain ⟨n1, hn1⟩ : ∃ n1, (l1.map fun f => (f.name, f.now)).length = n1 := ⟨_, rfl⟩
                obtain ⟨n2, hn2⟩ : ∃ n2, ((delF l1 gone).map fun f => (f.name, f.now)).length = n2 := ⟨_, rfl⟩
                have HN1 := Lib.hid hn1
                have HN2 := Lib.hid hn2
                rw [hn1] at g2
                rw [hn2] at u2 ⊢
                have G2 := Lib.hid g2
                have U2 := Lib.hid u2
                have hL1 : l1.length = n1 := by rw [List.length_map] at hn1; exact hn1
                have hL2 : (delF l1 gone).length = n2 := by rw [List.length_map] at hn2; exact hn2
                rw [hL1]
                have HL1' := Lib.hid hL1
                have HL2' := Lib.hid hL2
                have hn1i : (n1 : Int) ≤ 150 := by have := LQ.out; omega
                have hn2i : (n2 : Int) ≤ 150 := by
                  have h1 := List.length_filter_le (fun f : Fl => decide (f.name ≠ gone)) l1
                  have h2 : (delF l1 gone).length = (l1.filter fun f => decide (f.name ≠ gone)).length := rfl
                  omega
                have KX := Lib.hid J11.out.kp
                clear g1 g2 g3 u1 u2 u3 hn1 hn2 hL1 hL2 k11
                go_wp2_with fail
                go_loopw [19, 20] (fun k i wr => ∃ j : Nat, j ≤ n1 ∧ i = .int .i64 j ∧ k = .int .i64 (restN l1 gone j : Int) ∧ Hid (Keeps w11 wr)) (fun _ i _ => n1 - (intOf i).toNat)
                case atStart => exact ⟨0, Nat.zero_le _, rfl, rfl, Lib.hid (keeps_refl _)⟩
                case round =>
                  obtain ⟨j, hj, rfl, rfl, KR⟩ := hrel
                  have hkk := restN_le l1 gone j
                  by_cases hlt : j < n1
                  · have hjn : (j : Int) < (n1 : Int) := by omega
                    obtain ⟨f, hf⟩ : ∃ f, l1[j]? = some f := ⟨_, List.getElem?_eq_getElem (by have := HL1'.out; omega)⟩
                    have hp : (l1.map fun f => (f.name, f.now))[j]? = some (f.name, f.now) := by rw [List.getElem?_map, hf]; rfl
                    obtain ⟨x, hx, c0, c1⟩ := files_cells _ vs G1.out j _ hp
                    have OX := Lib.hid (G3.out j f.now x (by rw [hp]; rfl) hx)
                    obtain ⟨Ax, cx, rfl, -⟩ := OX.out.form
                    obtain ⟨g, rfl, q0, -⟩ := (G2.out.keep KR.out).cell (j := j * 2) (by rw [G2.out.1]; omega)
                    obtain ⟨g', hg', q1, -⟩ := (G2.out.keep KR.out).cell (j := j * 2 + 1) (by rw [G2.out.1]; omega)
                    obtain rfl : g = g' := by injection hg' with hg'; injection hg'
                    rw [c0] at q0
                    rw [c1] at q1
                    unfold strV at q0
                    have hse := str_eq f.name gone
                    have RS := Lib.hid (restN_succ gone hf)
                    by_cases hn : f.name = gone
                    · have hE0 : E = 0 := ZE.out f (List.mem_of_getElem? hf) hn
                      have hEb : ((E : Int) != 0) = false := by rw [hE0]; rfl
                      rw [decide_eq_true hn] at hse
                      have RT := Lib.hid (show restN l1 gone (j + 1) = restN l1 gone j by have := RS.out; rw [if_pos hn] at this; exact this)
                      obtain ⟨kk, hk2⟩ : ∃ kk, restN l1 gone j = kk := ⟨_, rfl⟩
                      rw [hk2] at RT ⊢
                      clear hf hp hx c0 c1 hg' hn hE0 RS hk2 hkk
                      generalize (str f.name) = s1 at *
                      generalize (str gone) = s2 at *
                      go_wp2_with fail
                      go_roundw
                      case rel => exact ⟨j + 1, by omega, by go_num, by rw [RT.out], KR⟩
                      case measure => simp [intOf] <;> omega
                    · rw [decide_eq_false hn] at hse
                      have hat := restN_at hf hn
                      have hkn := (List.getElem?_eq_some_iff.1 hat).1
                      rw [HL2'.out] at hkn
                      have RT := Lib.hid (show restN l1 gone (j + 1) = restN l1 gone j + 1 by have := RS.out; rw [if_neg hn] at this; exact this)
                      obtain ⟨kk, hk2⟩ : ∃ kk, restN l1 gone j = kk := ⟨_, rfl⟩
                      rw [hk2] at RT hat hkn hkk ⊢
                      have hp2 : ((delF l1 gone).map fun f => (f.name, f.now))[kk]? = some (f.name, f.now) := by rw [List.getElem?_map, hat]; rfl
                      obtain ⟨y, hy, d0, d1⟩ := files_cells _ us U1.out kk _ hp2
                      have OY := Lib.hid (U3.out kk f.now y (by rw [hp2]; rfl) hy)
                      obtain ⟨Ay, cy, rfl, -⟩ := OY.out.form
                      obtain ⟨h, rfl, r0, -⟩ := (U2.out.keep KR.out).cell (j := kk * 2) (by rw [U2.out.1]; omega)
                      obtain ⟨h', hh', r1, -⟩ := (U2.out.keep KR.out).cell (j := kk * 2 + 1) (by rw [U2.out.1]; omega)
                      obtain rfl : h = h' := by injection hh' with hh'; injection hh'
                      rw [d0] at r0
                      rw [d1] at r1
                      unfold strV at r0
                      have hki : (kk : Int) < (n2 : Int) := by omega
                      have hkb : decide ((n2 : Int) ≤ (kk : Int)) = false := decide_eq_false (by omega)
                      have hkb2 : decide (n2 ≤ kk) = false := decide_eq_false (by omega)
                      have cv1 := fun (k : Nat) => convTo (wr.drewN k) Ax f.now f.now.length cx rfl (OX.out.keep (keeps_trans KR.out (keeps_drewN wr k))).at_
                      have cv2 := fun (k : Nat) => convTo (wr.drewN k) Ay f.now f.now.length cy rfl (OY.out.keep (keeps_trans KR.out (keeps_drewN wr k))).at_
                      have cv3 := convTo wr Ax f.now f.now.length cx rfl (OX.out.keep KR.out).at_
                      have cv4 := convTo wr Ay f.now f.now.length cy rfl (OY.out.keep KR.out).at_
                      clear hf hp hx c0 c1 hg' hn RS hk2 hat hp2 hy d0 d1 hh' hkn
                      have he1 : ((str f.name).toList != (str f.name).toList) = false := by simp
                      have he2 : ((str f.now).toList != (str f.now).toList) = false := by simp
                      generalize (str f.name) = s1 at *
                      generalize (str gone) = s2 at *
                      generalize (str f.now) = s3 at *
                      generalize f.now.length = nl at *
                      go_wp2_with fail
                      go_quiet (fail)
                      have K10 := Lib.hid (keeps_trans KR.out (keeps_drewN wr nq))
                      go_wp2_with fail
                      go_roundw
                      case rel => exact ⟨j + 1, by omega, by go_num, by rw [RT.out]; go_num, K10⟩
                      case measure => simp [intOf] <;> omega
                  · obtain rfl : j = n1 := by omega
                    have hall : restN l1 gone j = n2 := by rw [← HL1'.out, restN_all, HL2'.out]
                    rw [hall]
                    have PG := Lib.hid (pages_pj (J11.out.keep KR.out) HZ.out R3.out (by have := hr2; omega) gone HG.out)
                    rw [FPG.out] at PG
                    simp only at PG
                    rw [if_neg (nmE_pos gone)] at PG
                    have hz : ((nmE gone : Int) != 0) = true := by rw [bne_iff_ne]; have := nmE_pos gone; omega
                    have hkb : ((n2 : Int) == (n2 : Int)) = true := by simp
                    have K11 := Lib.hid (keeps_trans KX.out KR.out)
                    generalize nmE gone = z at *
                    clear hlt hj hall hkk
                    go_wp2_with fail
                    refine PG.out.mono ?_
                    rintro e w12 ⟨rfl, k12⟩
                    have K12 := Lib.hid (keeps_trans K11.out k12)
                    clear k12
                    go_wp2_with fail
                    refine (WK.out _ K12.out).mono ?_
                    rintro e w13 ⟨rfl, k13⟩
                    have K13 := Lib.hid (keeps_trans K12.out k13)
                    clear k13
                    go_wp2_with fail
                    go_ret
                    exact ⟨rfl, K13.out⟩
  · clear hv hgs
    go_wp2_with fail
    refine (WK.out _ K1.out).mono ?_
    rintro e w9 ⟨rfl, k9⟩
    have K9 := Lib.hid (keeps_trans K1.out k9)
    clear k9
    go_wp2_with fail
    go_ret
    exact ⟨rfl, K9.out⟩
end Go.Proofs.YtamboappeahgpaaGreatDoor
