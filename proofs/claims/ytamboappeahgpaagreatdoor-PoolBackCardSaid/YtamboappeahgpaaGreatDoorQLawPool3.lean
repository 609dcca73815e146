/- PoolBack. (Written by mkback10.py.) -/
import Derived.Test.YtamboappeahgpaaGreatDoorQPoolHeal
namespace Go.Proofs.YtamboappeahgpaaGreatDoor
open Go.RowKit
set_option linter.unusedSimpArgs false
set_option linter.unusedVariables false
set_option maxRecDepth 100000

set_option maxHeartbeats 64000000 in
theorem back10_walk (K : DiskOk) (PK : PageOk) (m : Int) (hmI : IsI m) (A : Option Addr) (len c : Nat) (l : List Op10) (w : World) (hZ : K.Z w) (hS : Sizes w) (hO : Ops10At w A l) (hlen : len = l.length) (hm : len ≤ 9223372036854775807) :
    Calls Tryz.prog 6 #[.int .i64 m, .slice A len c] w (Yes10 w) := by
  obtain ⟨i0, hi, hz0, hz1, hz2⟩ := info_partsP info_fb
  obtain ⟨i1, hi1, hy0, hy1, hy2⟩ := info_partsP info_pg
  have WK := Lib.hid (fun (W : World) (q : Keeps w W) => works10 K PK W (K.keep hZ q) (hS.keep q))
  have VA := Lib.hid (vast10_any m A len c l w hO hlen hm)
  have NW := Lib.hid (fun (W : World) (k : Keeps w W) => K.new 65536 W (K.keep hZ k) (by decide) (by decide))
  have HO := Lib.hid hO
  have HL := Lib.hid hlen
  have HZ := Lib.hid hZ
  have HS := Lib.hid hS
  have HM := Lib.hid hmI
  clear hZ hS hO hlen hmI
  go_enter Tryz.func6, Tryz.ntmps6
  go_wp2_with fail
  refine VA.out.mono ?_
  rintro e w1 ⟨v, rfl, k1, hv⟩
  have K1 := Lib.hid k1
  clear k1
  rcases v with _ | _
  · obtain ⟨few, hm64⟩ := hv rfl
    have FEW := Lib.hid few
    clear hv few
    by_cases hm1 : m < 1
    · go_wp2_with fail
      refine (WK.out _ K1.out).mono ?_
      rintro e w9 ⟨rfl, k9⟩
      have K9 := Lib.hid (keeps_trans K1.out k9)
      clear k9
      go_wp2_with fail
      go_ret
      exact ⟨rfl, K9.out⟩
    · have hm1b : decide (m < 1) = false := decide_eq_false hm1
      have hm0 : 1 ≤ m := by omega
      go_wp2_with fail
      refine (NW.out w1 K1.out).mono ?_
      rintro e w3 (⟨-, -, b, F, rfl, hD, hF, k3⟩ | ⟨hbad, -⟩)
      rotate_left
      · exfalso; omega
      have HV := Lib.hid (show Have K w w3 b F ⟨[], 65536, 0, false⟩ from ⟨hD, fun i hi => Nat.le_trans K1.out.size (hF i hi), keeps_trans K1.out k3⟩)
      clear hD hF k3
      unfold dpt
      have PN := Lib.hid (new10_any HV.out m HM.out)
      go_wp2_with fail
      refine PN.out.mono ?_
      rintro e w5 ⟨k5, ⟨-, hm2, B, Fp, X, sl, rfl, rfl, h5, l5⟩ | ⟨hbad, -⟩⟩
      rotate_left
      · exfalso; omega
      obtain ⟨M, rfl⟩ : ∃ M : Nat, m = (M : Int) := ⟨m.toNat, by omega⟩
      rw [Int.toNat_natCast] at h5
      have hMb : M ≤ 4096 := by omega
      have J1 := Lib.hid (show PJ K w B (newPl ⟨[], 65536, 0, false⟩ M) (Both F Fp) w5 from ⟨F, Fp, X, sl, rfl, h5⟩)
      have R1 := Lib.hid (runs_new ⟨[], 65536, 0, false⟩ (n := M) ⟨by omega, by omega⟩)
      have C1 := Lib.hid (healC_first (n := M) ⟨by omega, by omega⟩)
      clear h5 l5 k5 PN HV
      generalize newPl ⟨[], 65536, 0, false⟩ M = p0 at *
      generalize Both F Fp = T1 at *
      go_wp2_with fail
      go_loopw [8, 9] (fun v i wr => ∃ (j : Nat) (V : Vw) (p : Pst) (S1 : Nat → Prop) (fs : List Fb) (lv : Value), j ≤ len ∧ i = .int .i64 j ∧ lv = v ∧ Hid (PJ K w B p S1 wr) ∧ Hid (Runs p M j) ∧ Hid (HealC p V j) ∧ Hid (LAt w wr S1 lv fs) ∧ Hid (VAt V fs) ∧ Hid (fs.length ≤ j) ∧ Hid (∀ f ∈ fs, f.pg.length ≤ j)) (fun _ i _ => len - (intOf i).toNat)
      case atStart => exact ⟨0, _, p0, T1, [], _, Nat.zero_le _, rfl, rfl, J1, R1, C1, Lib.hid (LAt.nil _ _ _), Lib.hid vat_first, Lib.hid (Nat.le_refl _), Lib.hid (fun f hf => by simp at hf)⟩
      case round =>
        obtain ⟨j, V, p, S1, fs, lv, hj, rfl, rfl, I1, Q1, H1, L1, VF, LE, PE⟩ := hrel
        have hlen150 : len ≤ 150 := by have := FEW.out.most; have := HL.out; omega
        by_cases hlt : j < len
        · have hjl : (j : Int) < (len : Int) := by omega
          have hj150 : j < 150 := by omega
          obtain ⟨o, ho⟩ : ∃ o, l[j]? = some o := ⟨_, List.getElem?_eq_getElem (by have := HL.out; omega)⟩
          have hom := List.mem_of_getElem? ho
          have OK := Lib.hid (HO.out.ok o hom)
          have hol := (FEW.out.each o hom).1
          obtain ⟨ad, rfl, -⟩ := (HO.out.keep I1.out.kp).cell0 ho
          obtain ⟨c0, c1, c2, c3⟩ := (HO.out.keep I1.out.kp).four ho (ad := ad) rfl
          have PL := Lib.hid (plain_any o.kind (str o.name) o.k o.A o.len o.c (wr.alloc (.cells #[.int .i64 o.kind, .string (str o.name), .int .i64 o.k, .slice o.A o.len o.c] 52)))
          have kO := keeps_alloc wr (.cells #[.int .i64 o.kind, .string (str o.name), .int .i64 o.k, .slice o.A o.len o.c] 52)
          have KO := Lib.hid kO
          have BO := Lib.hid (Box.new wr 52 #[.int .i64 o.kind, .string (str o.name), .int .i64 o.k, .slice o.A o.len o.c])
          have b0 := BO.out.cell 0 rfl
          have b1 := BO.out.cell 1 rfl
          have b2 := BO.out.cell 2 rfl
          have b3 := BO.out.cell 3 rfl
          clear ho hom kO
          go_wp2_with fail
          refine PL.out.mono ?_
          rintro e w7 ⟨rfl, k7⟩
          have K7 := Lib.hid (keeps_trans KO.out k7)
          have I1' := Lib.hid (I1.out.keep K7.out)
          have BO7 := Lib.hid (BO.out.keep k7)
          clear k7 c0 c1 c2 c3 PL b0 b1 b2 b3
          by_cases hpl : plainK o.kind
          · rw [decide_eq_true hpl]
            obtain ⟨a1, s1⟩ := H1.out.step (by omega) hpl
            have DO := Lib.hid (does10_pj PK I1'.out HZ.out HS.out Q1.out hMb (by omega) o OK.out hol)
            have Q1' := Lib.hid (Q1.out.next I1'.out.dok o)
            have ONM := Lib.hid (show ∀ ps, V o.name = some ps → nameOk o.name = true from fun ps h => H1.out.ok_name h)
            rw [a1] at DO
            have H1' := Lib.hid s1
            clear a1 s1 Q1 H1
            generalize (doP p o).1 = p' at *
            obtain ⟨V', rest, hdo⟩ : ∃ V' rest, doV V o.kind o.name o.k o.b = (V', rest) := ⟨_, _, rfl⟩
            obtain ⟨tb, tn, te⟩ := rest
            rw [hdo] at DO H1'
            have HDO := Lib.hid hdo
            clear hdo
            simp only at DO H1'
            unfold op10C at DO
            have b0 := BO7.out.cell 0 rfl
            have b1 := BO7.out.cell 1 rfl
            have b2 := BO7.out.cell 2 rfl
            have b3 := BO7.out.cell 3 rfl
            go_wp2_with fail
            refine DO.out.mono ?_
            rintro e w8 ⟨v8, S8, rfl, o8, h8, t8, n8⟩
            obtain ⟨A8, d8, rfl, -⟩ := o8.form
            obtain ⟨nb, hnb⟩ : ∃ nb, tb.length = nb := ⟨_, rfl⟩
            have HNB := Lib.hid hnb
            rw [hnb] at o8 ⊢
            have kA := keeps_alloc w8 (.cells #[.slice A8 nb d8, .int .i64 (tn : Int), .int .i64 (te : Int)] 65)
            have BT := Lib.hid (Box.new w8 65 #[.slice A8 nb d8, .int .i64 (tn : Int), .int .i64 (te : Int)])
            have BO8 := Lib.hid ((BO7.out.turned t8 (fun e => Nat.lt_irrefl _ (I1.out.lt _ e))).keep kA)
            have OT := Lib.hid (o8.keep kA)
            have NT := Lib.hid n8
            have J8 := Lib.hid (h8.keep kA)
            have L8 := Lib.hid (((L1.out.keep K7.out).turn t8).keep kA)
            have LT8 := Lib.hid (show ∀ i, S8 i → i < (w8.alloc (.cells #[.slice A8 nb d8, .int .i64 (tn : Int), .int .i64 (te : Int)] 65)).heap.size from J8.out.lt)
            have FN := Lib.hid (find_any10 L8.out (by have := LE.out; omega) o.name)
            have a0 := BO8.out.cell 0 rfl
            have a1 := BO8.out.cell 1 rfl
            clear h8 o8 n8 kA hnb DO t8 b0 b1 b2 b3 I1 I1' L1 BO BO7 KO K7
            rcases hidx : idxF fs o.name with _ | i
            · rw [hidx] at FN
              simp only [Option.map_none, Option.getD_none] at FN
              have VN := Lib.hid (idx_none_V VF.out hidx)
              clear hidx
              go_wp2_with fail
              refine FN.out.mono ?_
              rintro e w10 ⟨rfl, k10⟩
              have J10 := Lib.hid (J8.out.keep k10)
              have L10 := Lib.hid (L8.out.keep k10)
              have BO10 := Lib.hid (BO8.out.keep k10)
              have BT10 := Lib.hid (BT.out.keep k10)
              have ht0 := nmE_pos o.name
              clear k10 FN a0 a1 J8 L8 BO8 BT LT8
              rcases hpl with ek | ek | ek | ek | ek | ek
              · as_aux_lemma =>
                  by_cases hnb : nameOk o.name = false
                  · have D := HDO.out
                    rw [ek, dv_create_bad hnb] at D
                    injection D with D1 D2
                    injection D2 with D2 D3
                    injection D3 with D3 D4
                    have e0 : ((te : Int) == 0) = false := by rw [← D4]; rfl
                    have e1 : ((te : Int) != 1) = false := by rw [← D4]; rfl
                    have VX := Lib.hid (show VAt V' fs from by rw [← D1]; exact VF.out)
                    rw [ek] at BO10
                    have a0 := BO10.out.cell 0 rfl
                    have a1 := BO10.out.cell 1 rfl
                    have a2 := BO10.out.cell 2 rfl
                    have a3 := BO10.out.cell 3 rfl
                    have x0 := BT10.out.cell 0 rfl
                    have x1 := BT10.out.cell 1 rfl
                    have x2 := BT10.out.cell 2 rfl
                    clear D1 D2 D3 D4 ht0 ek
                    go_wp2_with fail
                    go_roundw
                    case rel => exact ⟨j + 1, V', p', S8, fs, _, by omega, by go_num, rfl, J10, Q1', H1', L10, VX, Lib.hid (by have := LE.out; omega), Lib.hid (fun f hf => by have := PE.out f hf; omega)⟩
                    case measure => simp [intOf] <;> omega
                  · have D := HDO.out
                    rw [ek, dv_create hnb VN.out] at D
                    injection D with D1 D2
                    injection D2 with D2 D3
                    injection D3 with D3 D4
                    have e0 : ((te : Int) == 0) = true := by rw [← D4]; rfl
                    have e1 : ((te : Int) != 1) = true := by rw [← D4]; rfl
                    obtain ⟨nf, hnf⟩ : ∃ nf, fs.length = nf := ⟨_, rfl⟩
                    have HNF := Lib.hid hnf
                    have hnf150 : nf < 150 := by have := LE.out; omega
                    have kN := keeps_alloc w10 (.cells #[.string (str o.name), .slice none 0 0] 79)
                    have RO := Lib.hid (show Own (w10.alloc (.cells #[.string (str o.name), .slice none 0 0] 79)) w.heap.size 79 2 lv nf (fs.flatMap fbC) from by have := L10.out.row.keep kN; rwa [hnf] at this)
                    have BS := Lib.hid (show w.heap.size ≤ w10.heap.size from J10.out.kp.size)
                    have KN := Lib.hid kN
                    have VX := Lib.hid (show VAt V' (fs ++ [⟨o.name, .slice none 0 0, []⟩]) from by rw [← D1]; exact vat_push VF.out VN.out _)
                    rw [ek] at BO10
                    have a0 := BO10.out.cell 0 rfl
                    have a1 := BO10.out.cell 1 rfl
                    have a2 := BO10.out.cell 2 rfl
                    have a3 := BO10.out.cell 3 rfl
                    have x0 := BT10.out.cell 0 rfl
                    have x1 := BT10.out.cell 1 rfl
                    have x2 := BT10.out.cell 2 rfl
                    clear D1 D2 D3 D4 ht0 ek hnf kN
                    go_wp2_with (at_builtin; refine wpList_app _ rfl _ _ 75 rfl w.heap.size 79 i0 (.agg #[.string ⟨#[]⟩, .slice none 0 0]) 2 40 Tryz.underlying75 hi hz0 hz1 hz2 rfl (by decide) _ nf _ rfl RO.out _ (some ⟨w10.heap.size, 0, none⟩) 1 1 [.string (str o.name), .slice none 0 0] rfl rfl (at_newP w10 79 #[.string (str o.name), .slice none 0 0]) (by intro u hu; simp only [List.mem_cons, List.not_mem_nil, or_false] at hu; rcases hu with rfl | rfl <;> rfl) (by unfold maxLen; omega) (by omega) (Nat.le_trans BS.out KN.out.size) ?_; intro v4 w4 hown4 hgrow4 hblk4)
                    have L4 := Lib.hid (L10.out.push (fun i hi => J10.out.lt i hi) KN.out o.name (by rw [HNF.out]; exact hown4) hgrow4 hblk4)
                    have J4 := Lib.hid ((J10.out.keep KN.out).grown hgrow4 (fun g hg => ⟨(L10.out.row.lt g hg).1, L10.out.far g hg⟩))
                    clear hown4 hgrow4 hblk4
                    go_wp2_with fail
                    go_roundw
                    case rel => exact ⟨j + 1, V', p', S8, fs ++ [⟨o.name, .slice none 0 0, []⟩], _, by omega, by go_num, rfl, J4, Q1', H1', L4, VX, Lib.hid (by rw [List.length_append]; have := LE.out; simp; omega), Lib.hid (fun f hf => by
                      rcases List.mem_append.1 hf with hf | hf
                      · have := PE.out f hf; omega
                      · rw [List.mem_singleton] at hf; subst hf; exact Nat.zero_le _)⟩
                    case measure => simp [intOf] <;> omega
              · as_aux_lemma =>
                  have D := HDO.out
                  rw [ek, dv_drop_no VN.out] at D
                  injection D with D1 D2
                  injection D2 with D2 D3
                  injection D3 with D3 D4
                  have e0 : ((te : Int) == 0) = false := by rw [beq_eq_false_iff_ne]; omega
                  have e2 : ((te : Int) != 0) = true := by rw [bne_iff_ne]; omega
                  have VX := Lib.hid (show VAt V' fs from by
                    rw [← D1]
                    refine vat_same VF.out (fun x => ?_)
                    unfold upV
                    split
                    · rename_i e; rw [e]; exact VN.out.symm
                    · rfl)
                  rw [ek] at BO10
                  have a0 := BO10.out.cell 0 rfl
                  have a1 := BO10.out.cell 1 rfl
                  have a2 := BO10.out.cell 2 rfl
                  have a3 := BO10.out.cell 3 rfl
                  have x0 := BT10.out.cell 0 rfl
                  have x1 := BT10.out.cell 1 rfl
                  have x2 := BT10.out.cell 2 rfl
                  clear D1 D2 D3 D4 ht0 ek
                  go_wp2_with fail
                  go_roundw
                  case rel => exact ⟨j + 1, V', p', S8, fs, _, by omega, by go_num, rfl, J10, Q1', H1', L10, VX, Lib.hid (by have := LE.out; omega), Lib.hid (fun f hf => by have := PE.out f hf; omega)⟩
                  case measure => simp [intOf] <;> omega
              · as_aux_lemma =>
                  have D := HDO.out
                  rw [ek, dv_pages_no VN.out] at D
                  injection D with D1 D2
                  injection D2 with D2 D3
                  injection D3 with D3 D4
                  have e0 : ((te : Int) == 0) = false := by rw [beq_eq_false_iff_ne]; omega
                  have e2 : ((te : Int) != 0) = true := by rw [bne_iff_ne]; omega
                  have VX := Lib.hid (show VAt V' fs from by rw [← D1]; exact VF.out)
                  rw [ek] at BO10
                  have a0 := BO10.out.cell 0 rfl
                  have a1 := BO10.out.cell 1 rfl
                  have a2 := BO10.out.cell 2 rfl
                  have a3 := BO10.out.cell 3 rfl
                  have x0 := BT10.out.cell 0 rfl
                  have x1 := BT10.out.cell 1 rfl
                  have x2 := BT10.out.cell 2 rfl
                  clear D1 D2 D3 D4 ht0 ek
                  go_wp2_with fail
                  go_quiet (fail)
                  have J11 := Lib.hid (J10.out.keep (keeps_drewN w10 nq))
                  have L11 := Lib.hid (L10.out.keep (keeps_drewN w10 nq))
                  go_wp2_with fail
                  go_roundw
                  case rel => exact ⟨j + 1, V', p', S8, fs, _, by omega, by go_num, rfl, J11, Q1', H1', L11, VX, Lib.hid (by have := LE.out; omega), Lib.hid (fun f hf => by have := PE.out f hf; omega)⟩
                  case measure => simp [intOf] <;> omega
              · as_aux_lemma =>
                  have D := HDO.out
                  rw [ek, dv_read_no VN.out] at D
                  injection D with D1 D2
                  injection D2 with D2 D3
                  injection D3 with D3 D4
                  have e0 : ((te : Int) == 0) = false := by rw [beq_eq_false_iff_ne]; omega
                  have e2 : ((te : Int) != 0) = true := by rw [bne_iff_ne]; omega
                  have VX := Lib.hid (show VAt V' fs from by rw [← D1]; exact VF.out)
                  rw [ek] at BO10
                  have a0 := BO10.out.cell 0 rfl
                  have a1 := BO10.out.cell 1 rfl
                  have a2 := BO10.out.cell 2 rfl
                  have a3 := BO10.out.cell 3 rfl
                  have x0 := BT10.out.cell 0 rfl
                  have x1 := BT10.out.cell 1 rfl
                  have x2 := BT10.out.cell 2 rfl
                  clear D1 D2 D3 D4 ht0 ek
                  go_wp2_with fail
                  go_quiet (fail)
                  have J11 := Lib.hid (J10.out.keep (keeps_drewN w10 nq))
                  have L11 := Lib.hid (L10.out.keep (keeps_drewN w10 nq))
                  have BO11 := Lib.hid (BO10.out.keep (keeps_drewN w10 nq))
                  have BT11 := Lib.hid (BT10.out.keep (keeps_drewN w10 nq))
                  clear a0 a1 a2 a3 x0 x1 x2
                  generalize w10.drewN nq = w11 at *
                  have a0 := BO11.out.cell 0 rfl
                  have a1 := BO11.out.cell 1 rfl
                  have a2 := BO11.out.cell 2 rfl
                  have a3 := BO11.out.cell 3 rfl
                  have x0 := BT11.out.cell 0 rfl
                  have x1 := BT11.out.cell 1 rfl
                  have x2 := BT11.out.cell 2 rfl
                  go_wp2_with fail
                  have nn0 : (false != false) = false := rfl
                  have nn1 : (true != true) = false := rfl
                  go_quiet (fail)
                  have J11 := Lib.hid (J11.out.keep (keeps_drewN w11 nq))
                  have L11 := Lib.hid (L11.out.keep (keeps_drewN w11 nq))
                  go_wp2_with fail
                  go_roundw
                  case rel => exact ⟨j + 1, V', p', S8, fs, _, by omega, by go_num, rfl, J11, Q1', H1', L11, VX, Lib.hid (by have := LE.out; omega), Lib.hid (fun f hf => by have := PE.out f hf; omega)⟩
                  case measure => simp [intOf] <;> omega
              · as_aux_lemma =>
                  have hD : V' = V ∧ te ≠ 0 := by
                    have D := HDO.out
                    rw [ek] at D
                    by_cases hb : 240 < o.b.length
                    · rw [dv_write_big hb] at D
                      injection D with D1 D2
                      injection D2 with D2 D3
                      injection D3 with D3 D4
                      exact ⟨D1.symm, by omega⟩
                    · rw [dv_write_no hb VN.out] at D
                      injection D with D1 D2
                      injection D2 with D2 D3
                      injection D3 with D3 D4
                      exact ⟨D1.symm, by omega⟩
                  obtain ⟨D1, D4⟩ := hD
                  have e0 : ((te : Int) == 0) = false := by rw [beq_eq_false_iff_ne]; omega
                  have e2 : ((te : Int) != 0) = true := by rw [bne_iff_ne]; omega
                  have VX := Lib.hid (show VAt V' fs from by rw [D1]; exact VF.out)
                  rw [ek] at BO10
                  have a0 := BO10.out.cell 0 rfl
                  have a1 := BO10.out.cell 1 rfl
                  have a2 := BO10.out.cell 2 rfl
                  have a3 := BO10.out.cell 3 rfl
                  have x0 := BT10.out.cell 0 rfl
                  have x1 := BT10.out.cell 1 rfl
                  have x2 := BT10.out.cell 2 rfl
                  clear D1 D4 ht0 ek
                  go_wp2_with fail
                  go_quiet (fail)
                  have J11 := Lib.hid (J10.out.keep (keeps_drewN w10 nq))
                  have L11 := Lib.hid (L10.out.keep (keeps_drewN w10 nq))
                  have BO11 := Lib.hid (BO10.out.keep (keeps_drewN w10 nq))
                  have BT11 := Lib.hid (BT10.out.keep (keeps_drewN w10 nq))
                  clear a0 a1 a2 a3 x0 x1 x2
                  generalize w10.drewN nq = w11 at *
                  have a0 := BO11.out.cell 0 rfl
                  have a1 := BO11.out.cell 1 rfl
                  have a2 := BO11.out.cell 2 rfl
                  have a3 := BO11.out.cell 3 rfl
                  have x0 := BT11.out.cell 0 rfl
                  have x1 := BT11.out.cell 1 rfl
                  have x2 := BT11.out.cell 2 rfl
                  go_wp2_with fail
                  go_roundw
                  case rel => exact ⟨j + 1, V', p', S8, fs, _, by omega, by go_num, rfl, J11, Q1', H1', L11, VX, Lib.hid (by have := LE.out; omega), Lib.hid (fun f hf => by have := PE.out f hf; omega)⟩
                  case measure => simp [intOf] <;> omega
              · as_aux_lemma =>
                  have D := HDO.out
                  rw [ek, dv_flush] at D
                  injection D with D1 D2
                  injection D2 with D2 D3
                  injection D3 with D3 D4
                  have VX := Lib.hid (show VAt V' fs from by rw [← D1]; exact VF.out)
                  rw [ek] at BO10
                  have a0 := BO10.out.cell 0 rfl
                  have a1 := BO10.out.cell 1 rfl
                  have a2 := BO10.out.cell 2 rfl
                  have a3 := BO10.out.cell 3 rfl
                  have x0 := BT10.out.cell 0 rfl
                  have x1 := BT10.out.cell 1 rfl
                  have x2 := BT10.out.cell 2 rfl
                  clear D1 D2 D3 D4 ek
                  go_wp2_with fail
                  go_roundw
                  case rel => exact ⟨j + 1, V', p', S8, fs, _, by omega, by go_num, rfl, J10, Q1', H1', L10, VX, Lib.hid (by have := LE.out; omega), Lib.hid (fun f hf => by have := PE.out f hf; omega)⟩
                  case measure => simp [intOf] <;> omega
            · rw [hidx] at FN
              simp only [Option.map_some, Option.getD_some] at FN
              obtain ⟨f, hf, hfn, hVf⟩ := idx_some_V VF.out hidx
              have HF := Lib.hid hf
              have HFN := Lib.hid hfn
              have VS := Lib.hid hVf
              have NOK := ONM.out _ hVf
              have hil : i < fs.length := (List.getElem?_eq_some_iff.1 hf).1
              have hi150 : i < 150 := by have := LE.out; omega
              clear hidx hf hfn hVf
              go_wp2_with fail
              refine FN.out.mono ?_
              rintro e w10 ⟨rfl, k10⟩
              have J10 := Lib.hid (J8.out.keep k10)
              have L10 := Lib.hid (L8.out.keep k10)
              have BO10 := Lib.hid (BO8.out.keep k10)
              have BT10 := Lib.hid (BT.out.keep k10)
              have OT10 := Lib.hid (OT.out.keep k10)
              have kneg : decide ((i : Int) < 0) = false := decide_eq_false (by omega)
              have kpos : decide ((0 : Int) ≤ (i : Int)) = true := decide_eq_true (by omega)
              clear k10 FN a0 a1 J8 L8 BO8 BT LT8 OT
              rcases hpl with ek | ek | ek | ek | ek | ek
              · as_aux_lemma =>
                  have D := HDO.out
                  rw [ek, dv_create_old NOK VS.out] at D
                  injection D with D1 D2
                  injection D2 with D2 D3
                  injection D3 with D3 D4
                  have e0 : ((te : Int) == 0) = false := by rw [← D4]; rfl
                  have e1 : ((te : Int) != 1) = true := by rw [← D4]; rfl
                  have VX := Lib.hid (show VAt V' fs from by rw [← D1]; exact VF.out)
                  rw [ek] at BO10
                  have a0 := BO10.out.cell 0 rfl
                  have a1 := BO10.out.cell 1 rfl
                  have a2 := BO10.out.cell 2 rfl
                  have a3 := BO10.out.cell 3 rfl
                  have x0 := BT10.out.cell 0 rfl
                  have x1 := BT10.out.cell 1 rfl
                  have x2 := BT10.out.cell 2 rfl
                  clear D1 D2 D3 D4 ek
                  go_wp2_with fail
                  go_roundw
                  case rel => exact ⟨j + 1, V', p', S8, fs, _, by omega, by go_num, rfl, J10, Q1', H1', L10, VX, Lib.hid (by have := LE.out; omega), Lib.hid (fun f hf => by have := PE.out f hf; omega)⟩
                  case measure => simp [intOf] <;> omega
              · as_aux_lemma =>
                  have D := HDO.out
                  rw [ek, dv_drop VS.out] at D
                  injection D with D1 D2
                  injection D2 with D2 D3
                  injection D3 with D3 D4
                  have e0 : ((te : Int) == 0) = true := by rw [← D4]; rfl
                  have VX := Lib.hid (show VAt V' (fs.take i ++ fs.drop (i + 1)) from by rw [← D1]; exact vat_cut VF.out HF.out HFN.out)
                  obtain ⟨Al, cl, rfl, hcl, hclm, -⟩ := L10.out.row.form
                  obtain ⟨nf, hnf⟩ : ∃ nf, fs.length = nf := ⟨_, rfl⟩
                  have HNF := Lib.hid hnf
                  have AT0 := L10.out.row.at_
                  have AT1 := Lib.hid (show At w10 w10.heap.size Al ((fs.take i).flatMap fbC) by rw [← flat_take]; exact AT0.take (i * 2))
                  have AT2 := Lib.hid (show At w10 w10.heap.size (dropP2 Al cl (i + 1)) ((fs.drop (i + 1)).flatMap fbC) by rw [← flat_drop]; exact AT0.dropP (fb_length fs) hcl)
                  rw [hnf] at hcl hil ⊢
                  have E1 := Lib.hid (show ((fs.take i).flatMap fbC).length = i * 2 by rw [fb_length, List.length_take]; omega)
                  have E2 := Lib.hid (show ((fs.drop (i + 1)).flatMap fbC).length = (nf - (i + 1)) * 2 by rw [fb_length, List.length_drop, hnf])
                  have ON1 := Lib.hid (fbC_one (fs.take i) (fun f hf => L10.out.slices f (List.mem_of_mem_take hf)))
                  have ON2 := Lib.hid (fbC_one (fs.drop (i + 1)) (fun f hf => L10.out.slices f (List.mem_of_mem_drop hf)))
                  have O0 := Lib.hid (own_emptyP w10 79 2)
                  have KE := Lib.hid (keeps_alloc w10 (.cells #[] 79))
                  have hsl := run_fromP (P := Tryz.prog) 75 79 Tryz.underlying75 size_fb Al nf cl (i + 1) (by omega)
                  have hcast : (((i + 1 : Nat)) : Int) = (i : Int) + 1 := by omega
                  rw [hcast] at hsl
                  generalize dropP2 Al cl (i + 1) = DA at *
                  have hnf150 : nf ≤ 150 := by have := LE.out; omega
                  have hil2 : (i : Int) < (nf : Int) := by omega
                  have hil3 : (i : Int) + 1 ≤ (nf : Int) := by omega
                  have hclI : (nf : Int) ≤ (cl : Int) := by omega
                  have hclM := Lib.hid hclm
                  rw [ek] at BO10
                  have a0 := BO10.out.cell 0 rfl
                  have a1 := BO10.out.cell 1 rfl
                  have a2 := BO10.out.cell 2 rfl
                  have a3 := BO10.out.cell 3 rfl
                  have x0 := BT10.out.cell 0 rfl
                  have x1 := BT10.out.cell 1 rfl
                  have x2 := BT10.out.cell 2 rfl
                  clear D1 D2 D3 D4 ek hnf AT0 hcast hclm
                  go_wp2_with (first
                    | (at_builtin; refine wpList_app _ rfl _ _ 75 rfl w10.heap.size 79 i0 (.agg #[.string ⟨#[]⟩, .slice none 0 0]) 2 40 Tryz.underlying75 hi hz0 hz1 hz2 rfl (by decide) _ 0 [] rfl O0.out _ Al i cl ((fs.take i).flatMap fbC) rfl E1.out (AT1.out.keep KE.out) ON1.out (by unfold maxLen; omega) (by omega) KE.out.size ?_; intro v6 w6 o6 g6 b6; have k6 : Keeps w10 w6 := Below.grown KE.out g6 KE.out.size (fun g hg => (O0.out.lt g hg).1); rw [Nat.zero_add, List.nil_append] at o6; have O6 := Lib.hid o6; have K6 := Lib.hid k6; obtain ⟨A6, c6, rfl, -⟩ := o6.form; clear o6 g6 b6 k6)
                    | (at_builtin; refine wpList_app _ rfl _ _ 75 rfl w10.heap.size 79 i0 (.agg #[.string ⟨#[]⟩, .slice none 0 0]) 2 40 Tryz.underlying75 hi hz0 hz1 hz2 rfl (by decide) _ i _ rfl O6.out _ DA (nf - (i + 1)) (cl - (i + 1)) ((fs.drop (i + 1)).flatMap fbC) rfl E2.out (AT2.out.keep K6.out) ON2.out (by unfold maxLen; omega) (by omega) K6.out.size ?_; intro v7 w7' o7 g7 b7; have k7 : Keeps w10 w7' := Below.grown K6.out g7 K6.out.size (fun g hg => (O6.out.lt g hg).1); have O7 := Lib.hid o7; have K7 := Lib.hid k7; clear o7 g7 b7 k7))
                  have L7 := Lib.hid (L10.out.cut (fun i hi => J10.out.lt i hi) J10.out.kp.size K7.out (i := i) (by rw [List.length_append, List.length_take, List.length_drop, HNF.out]; omega) O7.out)
                  have J7 := Lib.hid (J10.out.keep K7.out)
                  go_wp2_with fail
                  go_roundw
                  case rel => exact ⟨j + 1, V', p', S8, fs.take i ++ fs.drop (i + 1), _, by omega, by go_num, rfl, J7, Q1', H1', L7, VX, Lib.hid (by rw [List.length_append, List.length_take, List.length_drop, HNF.out]; have := LE.out; have := HNF.out; omega), Lib.hid (fun f hf => by
                    have hm : f ∈ fs := by
                      rcases List.mem_append.1 hf with hf | hf
                      · exact List.mem_of_mem_take hf
                      · exact List.mem_of_mem_drop hf
                    have := PE.out f hm
                    omega)⟩
                  case measure => simp [intOf] <;> omega
              · as_aux_lemma =>
                  have D := HDO.out
                  rw [ek, dv_pages VS.out] at D
                  injection D with D1 D2
                  injection D2 with D2 D3
                  injection D3 with D3 D4
                  have e2 : ((te : Int) != 0) = false := by rw [← D4]; rfl
                  have VX := Lib.hid (show VAt V' fs from by rw [← D1]; exact VF.out)
                  obtain ⟨Al, cl, rfl, hcl, hclm, -⟩ := L10.out.row.form
                  obtain ⟨nf, hnf⟩ : ∃ nf, fs.length = nf := ⟨_, rfl⟩
                  have HNF := Lib.hid hnf
                  obtain ⟨gl, rfl, -, q1, z1, hgw, -⟩ := L10.out.cell rfl HF.out
                  obtain ⟨Ap, cp, hpv, hcp, hcpm, -⟩ := (L10.out.each f (List.mem_of_getElem? HF.out)).1.form
                  rw [hpv] at q1
                  rw [hnf] at hil L10 ⊢
                  obtain ⟨np, hnp⟩ : ∃ np, f.pg.length = np := ⟨_, rfl⟩
                  have HNP := Lib.hid hnp
                  rw [hnp] at q1
                  have hil2 : (i : Int) < (nf : Int) := by omega
                  have HPV := Lib.hid hpv
                  have e3 : ((tn : Int) != (np : Int)) = false := by rw [← D3, pages_len, hnp]; simp
                  rw [ek] at BO10
                  have a0 := BO10.out.cell 0 rfl
                  have a1 := BO10.out.cell 1 rfl
                  have a2 := BO10.out.cell 2 rfl
                  have a3 := BO10.out.cell 3 rfl
                  have x0 := BT10.out.cell 0 rfl
                  have x1 := BT10.out.cell 1 rfl
                  have x2 := BT10.out.cell 2 rfl
                  clear D1 D2 D3 D4 ek hnf hpv hnp
                  go_wp2_with fail
                  go_quiet (fail)
                  have J11 := Lib.hid (J10.out.keep (keeps_drewN w10 nq))
                  have L11 := Lib.hid (L10.out.keep (keeps_drewN w10 nq))
                  go_wp2_with fail
                  go_roundw
                  case rel => exact ⟨j + 1, V', p', S8, fs, _, by omega, by go_num, rfl, J11, Q1', H1', L11, VX, Lib.hid (by have := LE.out; omega), Lib.hid (fun f hf => by have := PE.out f hf; omega)⟩
                  case measure => simp [intOf] <;> omega
              · as_aux_lemma =>
                  by_cases hk0 : o.k < 0
                  · have D := HDO.out
                    rw [ek, dv_read_neg VS.out hk0] at D
                    injection D with D1 D2
                    injection D2 with D2 D3
                    injection D3 with D3 D4
                    have e0 : ((te : Int) == 0) = false := by rw [← D4]; rfl
                    have VX := Lib.hid (show VAt V' fs from by rw [← D1]; exact VF.out)
                    obtain ⟨Al, cl, rfl, hcl, hclm, -⟩ := L10.out.row.form
                    obtain ⟨nf, hnf⟩ : ∃ nf, fs.length = nf := ⟨_, rfl⟩
                    have HNF := Lib.hid hnf
                    obtain ⟨gl, rfl, -, q1, z1, hgw, -⟩ := L10.out.cell rfl HF.out
                    obtain ⟨Ap, cp, hpv, hcp, hcpm, -⟩ := (L10.out.each f (List.mem_of_getElem? HF.out)).1.form
                    rw [hpv] at q1
                    rw [hnf] at hil L10 ⊢
                    obtain ⟨np, hnp⟩ : ∃ np, f.pg.length = np := ⟨_, rfl⟩
                    have HNP := Lib.hid hnp
                    rw [hnp] at q1
                    have hil2 : (i : Int) < (nf : Int) := by omega
                    have HPV := Lib.hid hpv
                    have ek0 : decide ((0 : Int) ≤ o.k) = false := decide_eq_false (by omega)
                    rw [ek] at BO10
                    have a0 := BO10.out.cell 0 rfl
                    have a1 := BO10.out.cell 1 rfl
                    have a2 := BO10.out.cell 2 rfl
                    have a3 := BO10.out.cell 3 rfl
                    have x0 := BT10.out.cell 0 rfl
                    have x1 := BT10.out.cell 1 rfl
                    have x2 := BT10.out.cell 2 rfl
                    clear D1 D2 D3 D4 ek hnf hpv hnp
                    go_wp2_with fail
                    go_quiet (fail)
                    have J11 := Lib.hid (J10.out.keep (keeps_drewN w10 nq))
                    have L11 := Lib.hid (L10.out.keep (keeps_drewN w10 nq))
                    have BO11 := Lib.hid (BO10.out.keep (keeps_drewN w10 nq))
                    have BT11 := Lib.hid (BT10.out.keep (keeps_drewN w10 nq))
                    clear a0 a1 a2 a3 x0 x1 x2
                    generalize w10.drewN nq = w11 at *
                    have a0 := BO11.out.cell 0 rfl
                    have a1 := BO11.out.cell 1 rfl
                    have a2 := BO11.out.cell 2 rfl
                    have a3 := BO11.out.cell 3 rfl
                    have x0 := BT11.out.cell 0 rfl
                    have x1 := BT11.out.cell 1 rfl
                    have x2 := BT11.out.cell 2 rfl
                    have q1 := q1
                    go_wp2_with fail
                    have nn0 : (false != false) = false := rfl
                    have nn1 : (true != true) = false := rfl
                    go_quiet (fail)
                    have J11 := Lib.hid (J11.out.keep (keeps_drewN w11 nq))
                    have L11 := Lib.hid (L11.out.keep (keeps_drewN w11 nq))
                    go_wp2_with fail
                    go_roundw
                    case rel => exact ⟨j + 1, V', p', S8, fs, _, by omega, by go_num, rfl, J11, Q1', H1', L11, VX, Lib.hid (by have := LE.out; omega), Lib.hid (fun f hf => by have := PE.out f hf; omega)⟩
                    case measure => simp [intOf] <;> omega
                  · obtain ⟨kk, hkk⟩ : ∃ kk : Nat, o.k = (kk : Int) := ⟨o.k.toNat, by omega⟩
                    have hk1 : 0 ≤ o.k := by omega
                    by_cases hkf : f.pg.length ≤ kk
                    · have D := HDO.out
                      rw [ek, dv_read_far VS.out hk1 (by rw [pages_len, hkk, Int.toNat_natCast]; exact hkf)] at D
                      injection D with D1 D2
                      injection D2 with D2 D3
                      injection D3 with D3 D4
                      have e0 : ((te : Int) == 0) = false := by rw [← D4]; rfl
                      have VX := Lib.hid (show VAt V' fs from by rw [← D1]; exact VF.out)
                      obtain ⟨Al, cl, rfl, hcl, hclm, -⟩ := L10.out.row.form
                      obtain ⟨nf, hnf⟩ : ∃ nf, fs.length = nf := ⟨_, rfl⟩
                      have HNF := Lib.hid hnf
                      obtain ⟨gl, rfl, -, q1, z1, hgw, -⟩ := L10.out.cell rfl HF.out
                      obtain ⟨Ap, cp, hpv, hcp, hcpm, -⟩ := (L10.out.each f (List.mem_of_getElem? HF.out)).1.form
                      rw [hpv] at q1
                      rw [hnf] at hil L10 ⊢
                      obtain ⟨np, hnp⟩ : ∃ np, f.pg.length = np := ⟨_, rfl⟩
                      have HNP := Lib.hid hnp
                      rw [hnp] at q1
                      have hil2 : (i : Int) < (nf : Int) := by omega
                      have HPV := Lib.hid hpv
                      rw [hkk] at BO10
                      rw [hnp] at hkf
                      have ek0 : decide ((0 : Int) ≤ (kk : Int)) = true := decide_eq_true (by omega)
                      have ek1 : decide ((kk : Int) < (np : Int)) = false := decide_eq_false (by omega)
                      have ek2 : decide (kk < np) = false := decide_eq_false (by omega)
                      rw [ek] at BO10
                      have a0 := BO10.out.cell 0 rfl
                      have a1 := BO10.out.cell 1 rfl
                      have a2 := BO10.out.cell 2 rfl
                      have a3 := BO10.out.cell 3 rfl
                      have x0 := BT10.out.cell 0 rfl
                      have x1 := BT10.out.cell 1 rfl
                      have x2 := BT10.out.cell 2 rfl
                      clear D1 D2 D3 D4 ek hnf hpv hnp
                      go_wp2_with fail
                      go_quiet (fail)
                      have J11 := Lib.hid (J10.out.keep (keeps_drewN w10 nq))
                      have L11 := Lib.hid (L10.out.keep (keeps_drewN w10 nq))
                      have BO11 := Lib.hid (BO10.out.keep (keeps_drewN w10 nq))
                      have BT11 := Lib.hid (BT10.out.keep (keeps_drewN w10 nq))
                      clear a0 a1 a2 a3 x0 x1 x2
                      generalize w10.drewN nq = w11 at *
                      have a0 := BO11.out.cell 0 rfl
                      have a1 := BO11.out.cell 1 rfl
                      have a2 := BO11.out.cell 2 rfl
                      have a3 := BO11.out.cell 3 rfl
                      have x0 := BT11.out.cell 0 rfl
                      have x1 := BT11.out.cell 1 rfl
                      have x2 := BT11.out.cell 2 rfl
                      have q1 := q1
                      go_wp2_with fail
                      have nn0 : (false != false) = false := rfl
                      have nn1 : (true != true) = false := rfl
                      go_quiet (fail)
                      have J11 := Lib.hid (J11.out.keep (keeps_drewN w11 nq))
                      have L11 := Lib.hid (L11.out.keep (keeps_drewN w11 nq))
                      go_wp2_with fail
                      go_roundw
                      case rel => exact ⟨j + 1, V', p', S8, fs, _, by omega, by go_num, rfl, J11, Q1', H1', L11, VX, Lib.hid (by have := LE.out; omega), Lib.hid (fun f hf => by have := PE.out f hf; omega)⟩
                      case measure => simp [intOf] <;> omega
                    · obtain ⟨x, hx⟩ : ∃ x, f.pg[kk]? = some x := ⟨_, List.getElem?_eq_getElem (by omega)⟩
                      have D := HDO.out
                      rw [ek, dv_read VS.out hk1 (by rw [hkk, Int.toNat_natCast]; exact pages_get hx)] at D
                      injection D with D1 D2
                      injection D2 with D2 D3
                      injection D3 with D3 D4
                      have e0 : ((te : Int) == 0) = true := by rw [← D4]; rfl
                      have hnbx : nb = x.b.length := by rw [← HNB.out, ← D2]
                      have VX := Lib.hid (show VAt V' fs from by rw [← D1]; exact VF.out)
                      obtain ⟨Al, cl, rfl, hcl, hclm, -⟩ := L10.out.row.form
                      obtain ⟨nf, hnf⟩ : ∃ nf, fs.length = nf := ⟨_, rfl⟩
                      have HNF := Lib.hid hnf
                      obtain ⟨gl, rfl, -, q1, z1, hgw, -⟩ := L10.out.cell rfl HF.out
                      obtain ⟨Ap, cp, hpv, hcp, hcpm, -⟩ := (L10.out.each f (List.mem_of_getElem? HF.out)).1.form
                      rw [hpv] at q1
                      rw [hnf] at hil L10 ⊢
                      obtain ⟨np, hnp⟩ : ∃ np, f.pg.length = np := ⟨_, rfl⟩
                      have HNP := Lib.hid hnp
                      rw [hnp] at q1
                      have hil2 : (i : Int) < (nf : Int) := by omega
                      have HPV := Lib.hid hpv
                      rw [hkk] at BO10
                      rw [hnp] at hkf
                      have ek0 : decide ((0 : Int) ≤ (kk : Int)) = true := decide_eq_true (by omega)
                      have ek1 : decide ((kk : Int) < (np : Int)) = true := decide_eq_true (by omega)
                      have ek2 : decide (kk < np) = true := decide_eq_true (by omega)
                      have hkI : (kk : Int) < (np : Int) := by omega
                      have XB := Lib.hid (show Bs w10 A8 x.b from by have := OT10.out.at_; rw [← D2] at this; exact this)
                      have XP := Lib.hid (show Bs w10 x.A x.b from ((L10.out.pg f (List.mem_of_getElem? HF.out) x (List.mem_of_getElem? hx)).at_.low J10.out.kp))
                      have PCELL : ∃ gp, Ap = some ⟨gp, 0, none⟩ ∧ w10.cell? ⟨gp, kk, none⟩ = some (.slice x.A x.b.length x.c) := by
                        have ow := (L10.out.each f (List.mem_of_getElem? HF.out)).1
                        rw [hpv] at ow
                        obtain ⟨gp, e, q0, -⟩ := ow.cell (j := kk) (by rw [List.length_map]; omega)
                        refine ⟨gp, e, q0.trans ?_⟩
                        rw [List.getElem?_map, hx]
                        rfl
                      obtain ⟨gp, rfl, q2⟩ := PCELL
                      rw [hnbx] at BT10
                      have EQ := Lib.hid (fun (W : World) (kw : Keeps w10 W) => eqBytes_one A8 x.b.length d8 x.b x.A x.b.length x.c W (XB.out.keep kw) rfl (XP.out.keep kw) rfl)
                      rw [ek] at BO10
                      have a0 := BO10.out.cell 0 rfl
                      have a1 := BO10.out.cell 1 rfl
                      have a2 := BO10.out.cell 2 rfl
                      have a3 := BO10.out.cell 3 rfl
                      have x0 := BT10.out.cell 0 rfl
                      have x1 := BT10.out.cell 1 rfl
                      have x2 := BT10.out.cell 2 rfl
                      clear D1 D2 D3 D4 ek hnf hpv hnp hx hnbx
                      generalize x.b.length = nx at *
                      go_wp2_with fail
                      go_quiet (fail)
                      have J11 := Lib.hid (J10.out.keep (keeps_drewN w10 nq))
                      have L11 := Lib.hid (L10.out.keep (keeps_drewN w10 nq))
                      have BO11 := Lib.hid (BO10.out.keep (keeps_drewN w10 nq))
                      have BT11 := Lib.hid (BT10.out.keep (keeps_drewN w10 nq))
                      have q1' := (keeps_drewN w10 nq).cellOf q1
                      have q2' := (keeps_drewN w10 nq).cellOf q2
                      have EQ2 := Lib.hid (fun (W : World) (kw : Keeps (w10.drewN nq) W) => EQ.out W (keeps_trans (keeps_drewN w10 nq) kw))
                      clear a0 a1 a2 a3 x0 x1 x2 q1 q2
                      generalize w10.drewN nq = w11 at *
                      have a0 := BO11.out.cell 0 rfl
                      have a1 := BO11.out.cell 1 rfl
                      have a2 := BO11.out.cell 2 rfl
                      have a3 := BO11.out.cell 3 rfl
                      have x0 := BT11.out.cell 0 rfl
                      have x1 := BT11.out.cell 1 rfl
                      have x2 := BT11.out.cell 2 rfl
                      have nn0 : (false != false) = false := rfl
                      have nn1 : (true != true) = false := rfl
                      go_wp2_with fail
                      go_quiet (first
                        | (go_at_call 33; exact Calls.quiet_of_same ((EQ2.out _ (keeps_drewN w11 _)).mono fun _ _ h => ⟨h.1, h.2.symm⟩))
                        | exact Calls.quiet_of_same ((EQ2.out _ (keeps_drewN w11 _)).mono fun _ _ h => ⟨h.1, h.2.symm⟩))
                      have J12 := Lib.hid (J11.out.keep (keeps_drewN w11 nq))
                      have L12 := Lib.hid (L11.out.keep (keeps_drewN w11 nq))
                      go_wp2_with fail
                      go_roundw
                      case rel => exact ⟨j + 1, V', p', S8, fs, _, by omega, by go_num, rfl, J12, Q1', H1', L12, VX, Lib.hid (by have := LE.out; omega), Lib.hid (fun f hf => by have := PE.out f hf; omega)⟩
                      case measure => simp [intOf] <;> omega
              · as_aux_lemma =>
                  by_cases hk0 : o.k < 0
                  · have hbadk : o.k < 0 ∨ (pagesF f).length < o.k.toNat := .inl hk0
                    have hD : V' = V ∧ te ≠ 0 := by
                      have D := HDO.out
                      rw [ek] at D
                      by_cases hb : 240 < o.b.length
                      · rw [dv_write_big hb] at D
                        injection D with D1 D2
                        injection D2 with D2 D3
                        injection D3 with D3 D4
                        exact ⟨D1.symm, by omega⟩
                      · rw [dv_write_bad hb VS.out hbadk] at D
                        injection D with D1 D2
                        injection D2 with D2 D3
                        injection D3 with D3 D4
                        exact ⟨D1.symm, by omega⟩
                    obtain ⟨D1, D4⟩ := hD
                    have e0 : ((te : Int) == 0) = false := by rw [beq_eq_false_iff_ne]; omega
                    have VX := Lib.hid (show VAt V' fs from by rw [D1]; exact VF.out)
                    obtain ⟨Al, cl, rfl, hcl, hclm, -⟩ := L10.out.row.form
                    obtain ⟨nf, hnf⟩ : ∃ nf, fs.length = nf := ⟨_, rfl⟩
                    have HNF := Lib.hid hnf
                    obtain ⟨gl, rfl, -, q1, z1, hgw, -⟩ := L10.out.cell rfl HF.out
                    obtain ⟨Ap, cp, hpv, hcp, hcpm, -⟩ := (L10.out.each f (List.mem_of_getElem? HF.out)).1.form
                    rw [hpv] at q1
                    rw [hnf] at hil L10 ⊢
                    obtain ⟨np, hnp⟩ : ∃ np, f.pg.length = np := ⟨_, rfl⟩
                    have HNP := Lib.hid hnp
                    rw [hnp] at q1
                    have hil2 : (i : Int) < (nf : Int) := by omega
                    have HPV := Lib.hid hpv
                    rw [OK.out.len] at BO10
                    obtain ⟨bl, hbl⟩ : ∃ bl, o.b.length = bl := ⟨_, rfl⟩
                    have HBL := Lib.hid hbl
                    rw [hbl] at BO10
                    have ek0 : decide ((0 : Int) ≤ o.k) = false := decide_eq_false (by omega)
                    rw [ek] at BO10
                    have a0 := BO10.out.cell 0 rfl
                    have a1 := BO10.out.cell 1 rfl
                    have a2 := BO10.out.cell 2 rfl
                    have a3 := BO10.out.cell 3 rfl
                    have x0 := BT10.out.cell 0 rfl
                    have x1 := BT10.out.cell 1 rfl
                    have x2 := BT10.out.cell 2 rfl
                    clear D1 D4 ek hnf hpv hnp hbl
                    go_wp2_with fail
                    go_quiet (fail)
                    have J11 := Lib.hid (J10.out.keep (keeps_drewN w10 nq))
                    have L11 := Lib.hid (L10.out.keep (keeps_drewN w10 nq))
                    have BO11 := Lib.hid (BO10.out.keep (keeps_drewN w10 nq))
                    have BT11 := Lib.hid (BT10.out.keep (keeps_drewN w10 nq))
                    clear a0 a1 a2 a3 x0 x1 x2
                    generalize w10.drewN nq = w11 at *
                    have a0 := BO11.out.cell 0 rfl
                    have a1 := BO11.out.cell 1 rfl
                    have a2 := BO11.out.cell 2 rfl
                    have a3 := BO11.out.cell 3 rfl
                    have x0 := BT11.out.cell 0 rfl
                    have x1 := BT11.out.cell 1 rfl
                    have x2 := BT11.out.cell 2 rfl
                    go_wp2_with fail
                    go_roundw
                    case rel => exact ⟨j + 1, V', p', S8, fs, _, by omega, by go_num, rfl, J11, Q1', H1', L11, VX, Lib.hid (by have := LE.out; omega), Lib.hid (fun f hf => by have := PE.out f hf; omega)⟩
                    case measure => simp [intOf] <;> omega
                  · obtain ⟨kk, hkk⟩ : ∃ kk : Nat, o.k = (kk : Int) := ⟨o.k.toNat, by omega⟩
                    by_cases hkf : f.pg.length < kk
                    · have hbadk : o.k < 0 ∨ (pagesF f).length < o.k.toNat := .inr (by rw [pages_len, hkk, Int.toNat_natCast]; exact hkf)
                      have hD : V' = V ∧ te ≠ 0 := by
                        have D := HDO.out
                        rw [ek] at D
                        by_cases hb : 240 < o.b.length
                        · rw [dv_write_big hb] at D
                          injection D with D1 D2
                          injection D2 with D2 D3
                          injection D3 with D3 D4
                          exact ⟨D1.symm, by omega⟩
                        · rw [dv_write_bad hb VS.out hbadk] at D
                          injection D with D1 D2
                          injection D2 with D2 D3
                          injection D3 with D3 D4
                          exact ⟨D1.symm, by omega⟩
                      obtain ⟨D1, D4⟩ := hD
                      have e0 : ((te : Int) == 0) = false := by rw [beq_eq_false_iff_ne]; omega
                      have VX := Lib.hid (show VAt V' fs from by rw [D1]; exact VF.out)
                      obtain ⟨Al, cl, rfl, hcl, hclm, -⟩ := L10.out.row.form
                      obtain ⟨nf, hnf⟩ : ∃ nf, fs.length = nf := ⟨_, rfl⟩
                      have HNF := Lib.hid hnf
                      obtain ⟨gl, rfl, -, q1, z1, hgw, -⟩ := L10.out.cell rfl HF.out
                      obtain ⟨Ap, cp, hpv, hcp, hcpm, -⟩ := (L10.out.each f (List.mem_of_getElem? HF.out)).1.form
                      rw [hpv] at q1
                      rw [hnf] at hil L10 ⊢
                      obtain ⟨np, hnp⟩ : ∃ np, f.pg.length = np := ⟨_, rfl⟩
                      have HNP := Lib.hid hnp
                      rw [hnp] at q1
                      have hil2 : (i : Int) < (nf : Int) := by omega
                      have HPV := Lib.hid hpv
                      rw [OK.out.len] at BO10
                      obtain ⟨bl, hbl⟩ : ∃ bl, o.b.length = bl := ⟨_, rfl⟩
                      have HBL := Lib.hid hbl
                      rw [hbl] at BO10
                      rw [hkk] at BO10
                      rw [hnp] at hkf
                      have ek0 : decide ((0 : Int) ≤ (kk : Int)) = true := decide_eq_true (by omega)
                      have ek1 : decide ((kk : Int) ≤ (np : Int)) = false := decide_eq_false (by omega)
                      have ek2 : decide (kk ≤ np) = false := decide_eq_false (by omega)
                      rw [ek] at BO10
                      have a0 := BO10.out.cell 0 rfl
                      have a1 := BO10.out.cell 1 rfl
                      have a2 := BO10.out.cell 2 rfl
                      have a3 := BO10.out.cell 3 rfl
                      have x0 := BT10.out.cell 0 rfl
                      have x1 := BT10.out.cell 1 rfl
                      have x2 := BT10.out.cell 2 rfl
                      clear D1 D4 ek hnf hpv hnp hbl
                      go_wp2_with fail
                      go_quiet (fail)
                      have J11 := Lib.hid (J10.out.keep (keeps_drewN w10 nq))
                      have L11 := Lib.hid (L10.out.keep (keeps_drewN w10 nq))
                      have BO11 := Lib.hid (BO10.out.keep (keeps_drewN w10 nq))
                      have BT11 := Lib.hid (BT10.out.keep (keeps_drewN w10 nq))
                      clear a0 a1 a2 a3 x0 x1 x2
                      generalize w10.drewN nq = w11 at *
                      have a0 := BO11.out.cell 0 rfl
                      have a1 := BO11.out.cell 1 rfl
                      have a2 := BO11.out.cell 2 rfl
                      have a3 := BO11.out.cell 3 rfl
                      have x0 := BT11.out.cell 0 rfl
                      have x1 := BT11.out.cell 1 rfl
                      have x2 := BT11.out.cell 2 rfl
                      go_wp2_with fail
                      go_roundw
                      case rel => exact ⟨j + 1, V', p', S8, fs, _, by omega, by go_num, rfl, J11, Q1', H1', L11, VX, Lib.hid (by have := LE.out; omega), Lib.hid (fun f hf => by have := PE.out f hf; omega)⟩
                      case measure => simp [intOf] <;> omega
                    · have hok : ¬ (o.k < 0 ∨ (pagesF f).length < o.k.toNat) := by rw [pages_len, hkk, Int.toNat_natCast]; omega
                      by_cases hbig : 240 < o.b.length
                      · have hD : V' = V ∧ te ≠ 0 := by
                          have D := HDO.out
                          rw [ek, dv_write_big hbig] at D
                          injection D with D1 D2
                          injection D2 with D2 D3
                          injection D3 with D3 D4
                          exact ⟨D1.symm, by omega⟩
                        obtain ⟨D1, D4⟩ := hD
                        have e0 : ((te : Int) == 0) = false := by rw [beq_eq_false_iff_ne]; omega
                        have VX := Lib.hid (show VAt V' fs from by rw [D1]; exact VF.out)
                        obtain ⟨Al, cl, rfl, hcl, hclm, -⟩ := L10.out.row.form
                        obtain ⟨nf, hnf⟩ : ∃ nf, fs.length = nf := ⟨_, rfl⟩
                        have HNF := Lib.hid hnf
                        obtain ⟨gl, rfl, -, q1, z1, hgw, -⟩ := L10.out.cell rfl HF.out
                        obtain ⟨Ap, cp, hpv, hcp, hcpm, -⟩ := (L10.out.each f (List.mem_of_getElem? HF.out)).1.form
                        rw [hpv] at q1
                        rw [hnf] at hil L10 ⊢
                        obtain ⟨np, hnp⟩ : ∃ np, f.pg.length = np := ⟨_, rfl⟩
                        have HNP := Lib.hid hnp
                        rw [hnp] at q1
                        have hil2 : (i : Int) < (nf : Int) := by omega
                        have HPV := Lib.hid hpv
                        rw [OK.out.len] at BO10
                        obtain ⟨bl, hbl⟩ : ∃ bl, o.b.length = bl := ⟨_, rfl⟩
                        have HBL := Lib.hid hbl
                        rw [hbl] at BO10
                        rw [hkk] at BO10
                        rw [hnp] at hkf
                        rw [hbl] at hbig
                        have ek0 : decide ((0 : Int) ≤ (kk : Int)) = true := decide_eq_true (by omega)
                        have ek1 : decide ((kk : Int) ≤ (np : Int)) = true := decide_eq_true (by omega)
                        have ek2 : decide (kk ≤ np) = true := decide_eq_true (by omega)
                        have ek3 : decide ((bl : Int) ≤ 240) = false := decide_eq_false (by omega)
                        have ek4 : decide (bl ≤ 240) = false := decide_eq_false (by omega)
                        rw [ek] at BO10
                        have a0 := BO10.out.cell 0 rfl
                        have a1 := BO10.out.cell 1 rfl
                        have a2 := BO10.out.cell 2 rfl
                        have a3 := BO10.out.cell 3 rfl
                        have x0 := BT10.out.cell 0 rfl
                        have x1 := BT10.out.cell 1 rfl
                        have x2 := BT10.out.cell 2 rfl
                        clear D1 D4 ek hnf hpv hnp hbl hbig
                        go_wp2_with fail
                        go_quiet (fail)
                        have J11 := Lib.hid (J10.out.keep (keeps_drewN w10 nq))
                        have L11 := Lib.hid (L10.out.keep (keeps_drewN w10 nq))
                        have BO11 := Lib.hid (BO10.out.keep (keeps_drewN w10 nq))
                        have BT11 := Lib.hid (BT10.out.keep (keeps_drewN w10 nq))
                        clear a0 a1 a2 a3 x0 x1 x2
                        generalize w10.drewN nq = w11 at *
                        have a0 := BO11.out.cell 0 rfl
                        have a1 := BO11.out.cell 1 rfl
                        have a2 := BO11.out.cell 2 rfl
                        have a3 := BO11.out.cell 3 rfl
                        have x0 := BT11.out.cell 0 rfl
                        have x1 := BT11.out.cell 1 rfl
                        have x2 := BT11.out.cell 2 rfl
                        go_wp2_with fail
                        go_roundw
                        case rel => exact ⟨j + 1, V', p', S8, fs, _, by omega, by go_num, rfl, J11, Q1', H1', L11, VX, Lib.hid (by have := LE.out; omega), Lib.hid (fun f hf => by have := PE.out f hf; omega)⟩
                        case measure => simp [intOf] <;> omega
                      · have D := HDO.out
                        rw [ek, dv_write hbig VS.out hok] at D
                        injection D with D1 D2
                        injection D2 with D2 D3
                        injection D3 with D3 D4
                        have e0 : ((te : Int) == 0) = true := by rw [← D4]; rfl
                        have PX := Lib.hid (show PgOk w ⟨o.A, o.c, o.b⟩ from ⟨OK.out.b, by show o.b.length ≤ 65536; omega⟩)
                        have VX := Lib.hid (show ∀ v, VAt V' (fs.set i ⟨f.name, v, setPg f.pg kk ⟨o.A, o.c, o.b⟩⟩) from fun v => by
                          rw [← D1]
                          have h1 := vat_over VF.out HF.out HFN.out v (setPg f.pg kk ⟨o.A, o.c, o.b⟩)
                          rw [setPg_b] at h1
                          rw [hkk, Int.toNat_natCast]
                          exact h1)
                        have PL2 := Lib.hid (show f.pg.length ≤ j from PE.out f (List.mem_of_getElem? HF.out))
                        obtain ⟨Al, cl, rfl, hcl, hclm, -⟩ := L10.out.row.form
                        obtain ⟨nf, hnf⟩ : ∃ nf, fs.length = nf := ⟨_, rfl⟩
                        have HNF := Lib.hid hnf
                        obtain ⟨gl, rfl, -, q1, z1, hgw, -⟩ := L10.out.cell rfl HF.out
                        obtain ⟨Ap, cp, hpv, hcp, hcpm, -⟩ := (L10.out.each f (List.mem_of_getElem? HF.out)).1.form
                        rw [hpv] at q1
                        rw [hnf] at hil L10 ⊢
                        obtain ⟨np, hnp⟩ : ∃ np, f.pg.length = np := ⟨_, rfl⟩
                        have HNP := Lib.hid hnp
                        rw [hnp] at q1
                        have hil2 : (i : Int) < (nf : Int) := by omega
                        have HPV := Lib.hid hpv
                        rw [OK.out.len] at BO10
                        obtain ⟨bl, hbl⟩ : ∃ bl, o.b.length = bl := ⟨_, rfl⟩
                        have HBL := Lib.hid hbl
                        rw [hbl] at BO10
                        rw [hkk] at BO10
                        rw [hnp] at hkf PL2
                        rw [hbl] at hbig
                        have ek0 : decide ((0 : Int) ≤ (kk : Int)) = true := decide_eq_true (by omega)
                        have ek1 : decide ((kk : Int) ≤ (np : Int)) = true := decide_eq_true (by omega)
                        have ek2 : decide (kk ≤ np) = true := decide_eq_true (by omega)
                        have ek3 : decide ((bl : Int) ≤ 240) = true := decide_eq_true (by omega)
                        have ek4 : decide (bl ≤ 240) = true := decide_eq_true (by omega)
                        have np150 : np ≤ 150 := by have := PL2.out; omega
                        have PW := Lib.hid (show Own w10 w.heap.size 34 1 (.slice Ap np cp) np (f.pg.map pgV) from by
                          have h1 := (L10.out.each f (List.mem_of_getElem? HF.out)).1
                          rw [hpv, hnp] at h1
                          exact h1)
                        rw [ek] at BO10
                        have a0 := BO10.out.cell 0 rfl
                        have a1 := BO10.out.cell 1 rfl
                        have a2 := BO10.out.cell 2 rfl
                        have a3 := BO10.out.cell 3 rfl
                        have x0 := BT10.out.cell 0 rfl
                        have x1 := BT10.out.cell 1 rfl
                        have x2 := BT10.out.cell 2 rfl
                        clear D1 D2 D3 D4 ek hnf hpv hnp hbl
                        go_wp2_with fail
                        go_quiet (fail)
                        have J11 := Lib.hid (J10.out.keep (keeps_drewN w10 nq))
                        have L11 := Lib.hid (L10.out.keep (keeps_drewN w10 nq))
                        have BO11 := Lib.hid (BO10.out.keep (keeps_drewN w10 nq))
                        have BT11 := Lib.hid (BT10.out.keep (keeps_drewN w10 nq))
                        have PW11 := Lib.hid (PW.out.keep (keeps_drewN w10 nq))
                        have q1' := (keeps_drewN w10 nq).cellOf q1
                        clear a0 a1 a2 a3 x0 x1 x2 q1 z1
                        generalize w10.drewN nq = w11 at *
                        have a0 := BO11.out.cell 0 rfl
                        have a1 := BO11.out.cell 1 rfl
                        have a2 := BO11.out.cell 2 rfl
                        have a3 := BO11.out.cell 3 rfl
                        have x0 := BT11.out.cell 0 rfl
                        have x1 := BT11.out.cell 1 rfl
                        have x2 := BT11.out.cell 2 rfl
                        have O0 := Lib.hid (own_emptyP w11 34 1)
                        have KE := Lib.hid (keeps_alloc w11 (.cells #[] 34))
                        have AT1 := Lib.hid PW11.out.at_
                        have E1 := Lib.hid (show (f.pg.map pgV).length = np * 1 by rw [List.length_map, HNP.out, Nat.mul_one])
                        have ON1 := Lib.hid (pgV_one f.pg)
                        have qe := KE.out.cellOf q1'
                        have nn0 : (false != false) = false := rfl
                        have nn1 : (true != true) = false := rfl
                        clear a0 a1 x0 x1
                        by_cases hend : kk = np
                        · subst hend
                          have ee : ((kk : Int) == (kk : Int)) = true := by simp
                          have hk61 : (kk : Int) < ((kk + 1 : Nat) : Int) := by omega
                          have hk62 : (kk : Int) < (kk : Int) + 1 := by omega
                          have HJ := Lib.hid (show kk < (f.pg.map pgV ++ [Value.slice none 0 0]).length by rw [List.length_append, List.length_map, HNP.out]; exact Nat.lt_succ_self _)
                          have HX := Lib.hid (show (f.pg.map pgV ++ [Value.slice none 0 0])[kk]? = some (.slice none 0 0) by rw [List.getElem?_append_right (by rw [List.length_map, HNP.out]; exact Nat.le_refl _), List.length_map, HNP.out, Nat.sub_self]; rfl)
                          go_wp2_with (first
                            | (at_builtin; refine wpList_app _ rfl _ _ 77 rfl w11.heap.size 34 i1 (.slice none 0 0) 1 24 Tryz.underlying77 hi1 hy0 hy1 hy2 rfl (by decide) _ 0 [] rfl O0.out _ Ap kk cp (f.pg.map pgV) rfl E1.out (AT1.out.keep KE.out) ON1.out (by unfold maxLen; omega) (by omega) KE.out.size ?_; intro v5 w5 o5 g5 b5; have k5 : Keeps w11 w5 := Below.grown KE.out g5 KE.out.size (fun g hg => (O0.out.lt g hg).1); rw [Nat.zero_add, List.nil_append] at o5; have O5 := Lib.hid o5; have K5 := Lib.hid k5; have r2 := (BO11.out.keep k5).cell 2 rfl; have r3 := (BO11.out.keep k5).cell 3 rfl; obtain ⟨A5, c5, rfl, -⟩ := o5.form; have O5K := Lib.hid (O5.out.keep (keeps_alloc w5 (.cells #[.slice none 0 0] 34))); have KS5 := Lib.hid (keeps_trans K5.out (keeps_alloc w5 (.cells #[.slice none 0 0] 34))); clear o5 g5 b5 k5)
                            | (at_builtin; refine wpList_app _ rfl _ _ 77 rfl w11.heap.size 34 i1 (.slice none 0 0) 1 24 Tryz.underlying77 hi1 hy0 hy1 hy2 rfl (by decide) _ kk _ rfl O5K.out _ (some ⟨w5.heap.size, 0, none⟩) 1 1 [.slice none 0 0] rfl rfl (at_newP w5 34 #[.slice none 0 0]) (by intro u hu; simp only [List.mem_cons, List.not_mem_nil, or_false] at hu; subst hu; rfl) (by unfold maxLen; omega) (by omega) KS5.out.size ?_; intro v6 w6 o6 g6' b6; have k6 : Keeps w11 w6 := Below.grown KS5.out g6' KS5.out.size (fun g hg => (O5K.out.lt g hg).1); have O6 := Lib.hid o6; have K6 := Lib.hid k6; have r4 := (BO11.out.keep k6).cell 2 rfl; have r5 := (BO11.out.keep k6).cell 3 rfl; obtain ⟨A6, c6, rfl, -⟩ := o6.form; obtain ⟨g6, rfl, y6, y7, y8⟩ := o6.cell (j := kk) HJ.out; have HG6 := Lib.hid y8; rw [HX.out] at y6; obtain ⟨gl', egl, -, q7, z7, -, -⟩ := (L11.out.keep (keeps_put k6 (a := ⟨g6, kk, none⟩) y8 (.slice o.A bl o.c))).cell HNF.out.symm HF.out; obtain rfl : gl = gl' := (by injection egl with egl; injection egl); clear egl o6 g6' b6 k6))
                          have K7 := Lib.hid (keeps_put K6.out (a := ⟨g6, kk, none⟩) HG6.out (.slice o.A bl o.c))
                          have O7 := Lib.hid (show Own (w6.setCell ⟨g6, kk, none⟩ (.slice o.A bl o.c)) w11.heap.size 34 1 (.slice (some ⟨g6, 0, none⟩) (kk + 1) c6) (kk + 1) ((setPg f.pg kk ⟨o.A, o.c, o.b⟩).map pgV) from by
                            have e1 : setPg f.pg kk ⟨o.A, o.c, o.b⟩ = f.pg ++ [⟨o.A, o.c, o.b⟩] := by rw [← HNP.out]; exact setPg_end _ _
                            rw [e1, List.map_append]
                            have h1 := O6.out.store (j := kk) (by rw [List.length_append, List.length_map, HNP.out]; exact Nat.lt_succ_self _) (.slice o.A bl o.c)
                            rw [List.set_append_right _ _ (by rw [List.length_map, HNP.out]; exact Nat.le_refl _), List.length_map, HNP.out, Nat.sub_self] at h1
                            rw [← HBL.out] at h1 ⊢
                            exact h1
                          )
                          have L9 := Lib.hid (L11.out.over HNF.out.symm (fun i hi => J11.out.lt i hi) J11.out.kp.size K7.out HF.out (m := (kk + 1)) (by unfold setPg; rw [List.length_append, List.length_cons, List.length_take, List.length_drop, HNP.out]; omega) O7.out (fun x hx => by
                            rcases setPg_mem hx with rfl | hx
                            · exact PX.out
                            · exact L11.out.pg f (List.mem_of_getElem? HF.out) x hx))
                          have J9 := Lib.hid ((J11.out.keep K7.out).put ⟨gl, i * 2 + 1, none⟩ (.slice (some ⟨g6, 0, none⟩) (kk + 1) c6) hgw (L11.out.far gl rfl))
                          go_roundw
                          case rel => exact ⟨j + 1, V', p', S8, fs.set i ⟨f.name, .slice (some ⟨g6, 0, none⟩) (kk + 1) c6, setPg f.pg kk ⟨o.A, o.c, o.b⟩⟩, _, by omega, by go_num, rfl, J9, Q1', H1', L9, Lib.hid (VX.out _), Lib.hid (by rw [List.length_set]; have := LE.out; omega), Lib.hid (fun x hx => by
                            rcases List.mem_or_eq_of_mem_set hx with hx | rfl
                            · have := PE.out x hx; omega
                            · show (setPg f.pg kk ⟨o.A, o.c, o.b⟩).length ≤ _
                              have := PL2.out
                              unfold setPg; rw [List.length_append, List.length_cons, List.length_take, List.length_drop, HNP.out]; omega)⟩
                          case measure => simp [intOf] <;> omega
                        · have hkl : kk < np := by omega
                          have hkl2 : (kk : Int) < (np : Int) := by omega
                          have ee : ((kk : Int) == (np : Int)) = false := by rw [beq_eq_false_iff_ne]; omega
                          obtain ⟨x, hx⟩ : ∃ x, f.pg[kk]? = some x := ⟨_, List.getElem?_eq_getElem (by rw [HNP.out]; exact hkl)⟩
                          have HJ := Lib.hid (show kk < (f.pg.map pgV).length by rw [List.length_map, HNP.out]; exact hkl)
                          have HX := Lib.hid (show (f.pg.map pgV)[kk]? = some (.slice x.A x.b.length x.c) by rw [List.getElem?_map, hx]; rfl)
                          have HKL := Lib.hid hkl
                          clear hx
                          go_wp2_with (at_builtin; refine wpList_app _ rfl _ _ 77 rfl w11.heap.size 34 i1 (.slice none 0 0) 1 24 Tryz.underlying77 hi1 hy0 hy1 hy2 rfl (by decide) _ 0 [] rfl O0.out _ Ap np cp (f.pg.map pgV) rfl E1.out (AT1.out.keep KE.out) ON1.out (by unfold maxLen; omega) (by omega) KE.out.size ?_; intro v5 w5 o5 g5 b5; have k5 : Keeps w11 w5 := Below.grown KE.out g5 KE.out.size (fun g hg => (O0.out.lt g hg).1); rw [Nat.zero_add, List.nil_append] at o5; have O5 := Lib.hid o5; have K5 := Lib.hid k5; have r2 := (BO11.out.keep k5).cell 2 rfl; have r3 := (BO11.out.keep k5).cell 3 rfl; obtain ⟨A5, c5, rfl, -⟩ := o5.form; obtain ⟨g6, rfl, y6, y7, y8⟩ := o5.cell (j := kk) HJ.out; have HG6 := Lib.hid y8; rw [HX.out] at y6; obtain ⟨gl', egl, -, q7, z7, -, -⟩ := (L11.out.keep (keeps_put k5 (a := ⟨g6, kk, none⟩) y8 (.slice o.A bl o.c))).cell HNF.out.symm HF.out; obtain rfl : gl = gl' := (by injection egl with egl; injection egl); clear egl; clear o5 g5 b5 k5)
                          have K7 := Lib.hid (keeps_put K5.out (a := ⟨g6, kk, none⟩) HG6.out (.slice o.A bl o.c))
                          have O7 := Lib.hid (show Own (w5.setCell ⟨g6, kk, none⟩ (.slice o.A bl o.c)) w11.heap.size 34 1 (.slice (some ⟨g6, 0, none⟩) np c5) np ((setPg f.pg kk ⟨o.A, o.c, o.b⟩).map pgV) from by
                            rw [setPg_set (by rw [HNP.out]; exact HKL.out), List.map_set]
                            have h1 := O5.out.store (j := kk) (by rw [List.length_map, HNP.out]; exact HKL.out) (.slice o.A bl o.c)
                            rw [← HBL.out] at h1 ⊢
                            exact h1
                          )
                          have L9 := Lib.hid (L11.out.over HNF.out.symm (fun i hi => J11.out.lt i hi) J11.out.kp.size K7.out HF.out (m := np) (by unfold setPg; rw [List.length_append, List.length_cons, List.length_take, List.length_drop, HNP.out]; omega) O7.out (fun x hx => by
                            rcases setPg_mem hx with rfl | hx
                            · exact PX.out
                            · exact L11.out.pg f (List.mem_of_getElem? HF.out) x hx))
                          have J9 := Lib.hid ((J11.out.keep K7.out).put ⟨gl, i * 2 + 1, none⟩ (.slice (some ⟨g6, 0, none⟩) np c5) hgw (L11.out.far gl rfl))
                          go_roundw
                          case rel => exact ⟨j + 1, V', p', S8, fs.set i ⟨f.name, .slice (some ⟨g6, 0, none⟩) np c5, setPg f.pg kk ⟨o.A, o.c, o.b⟩⟩, _, by omega, by go_num, rfl, J9, Q1', H1', L9, Lib.hid (VX.out _), Lib.hid (by rw [List.length_set]; have := LE.out; omega), Lib.hid (fun x hx => by
                            rcases List.mem_or_eq_of_mem_set hx with hx | rfl
                            · have := PE.out x hx; omega
                            · show (setPg f.pg kk ⟨o.A, o.c, o.b⟩).length ≤ _
                              have := PL2.out
                              unfold setPg; rw [List.length_append, List.length_cons, List.length_take, List.length_drop, HNP.out]; omega)⟩
                          case measure => simp [intOf] <;> omega
              · as_aux_lemma =>
                  have D := HDO.out
                  rw [ek, dv_flush] at D
                  injection D with D1 D2
                  injection D2 with D2 D3
                  injection D3 with D3 D4
                  have VX := Lib.hid (show VAt V' fs from by rw [← D1]; exact VF.out)
                  rw [ek] at BO10
                  have a0 := BO10.out.cell 0 rfl
                  have a1 := BO10.out.cell 1 rfl
                  have a2 := BO10.out.cell 2 rfl
                  have a3 := BO10.out.cell 3 rfl
                  have x0 := BT10.out.cell 0 rfl
                  have x1 := BT10.out.cell 1 rfl
                  have x2 := BT10.out.cell 2 rfl
                  clear D1 D2 D3 D4 ek
                  go_wp2_with fail
                  go_roundw
                  case rel => exact ⟨j + 1, V', p', S8, fs, _, by omega, by go_num, rfl, J10, Q1', H1', L10, VX, Lib.hid (by have := LE.out; omega), Lib.hid (fun f hf => by have := PE.out f hf; omega)⟩
                  case measure => simp [intOf] <;> omega
          · rw [decide_eq_false hpl]
            have Q1' := Lib.hid (show Runs p M (j + 1) from ⟨Q1.out.ok, Q1.out.len, Q1.out.b.more (by omega), Q1.out.t, Q1.out.R, Q1.out.P, by have := Q1.out.s; omega⟩)
            have H1' := Lib.hid (H1.out.more (Nat.le_succ j))
            have L7 := Lib.hid (L1.out.keep K7.out)
            clear Q1 H1 hpl
            go_wp2_with fail
            go_roundw
            case rel => exact ⟨j + 1, V, p, S1, fs, _, by omega, by go_num, rfl, I1', Q1', H1', L7, VF, Lib.hid (by have := LE.out; omega), Lib.hid (fun f hf => by have := PE.out f hf; omega)⟩
            case measure => simp [intOf] <;> omega
        · obtain rfl : j = len := by omega
          clear hlt hj
          as_aux_lemma =>
            have C0 := Lib.hid (H1.out.more hlen150)
            have NM := Lib.hid VF.out.named
            obtain ⟨Al, cl, rfl, -⟩ := L1.out.row.form
            obtain ⟨L, hL⟩ : ∃ L, fs.length = L := ⟨_, rfl⟩
            have HLL := Lib.hid hL
            rw [hL] at L1 ⊢
            have hL150 : L ≤ 150 := by have := LE.out; omega
            have hLi : (L : Int) ≤ 150 := by omega
            have PEX := Lib.hid (show ∀ f ∈ fs, f.pg.length ≤ 150 from fun f hf => by have := PE.out f hf; omega)
            clear hL H1 PE LE
            go_wp2_with fail
            go_loopw [17] (fun i wr => ∃ (t : Nat) (p : Pst) (S : Nat → Prop), t ≤ L ∧ i = .int .i64 t ∧ Hid (PJ K w B p S wr) ∧ Hid (Runs p M (j + t)) ∧ Hid (HealC p V 150) ∧ Hid (LAt w wr S (.slice Al L cl) fs) ∧ Hid (Flushed p (fs.map (·.name)) t)) (fun i _ => L - (intOf i).toNat)
            case atStart => exact ⟨0, p, S1, Nat.zero_le _, rfl, I1, Q1, C0, L1, Lib.hid (flushed_zero _ _)⟩
            case round =>
              obtain ⟨t, p, S, ht, rfl, J2, R2, C2, L2, F2⟩ := hrel
              by_cases htl : t < L
              · have htl2 : (t : Int) < (L : Int) := by omega
                obtain ⟨f, hf⟩ : ∃ f, fs[t]? = some f := ⟨_, List.getElem?_eq_getElem (by have := HLL.out; omega)⟩
                have hns : (fs.map (·.name))[t]? = some f.name := by rw [List.getElem?_map, hf]; rfl
                have hV := NM.out.at_ hns
                obtain ⟨e0, c3, f3⟩ := C2.out.flush (by omega) hns hV F2.out
                have FC := Lib.hid (flush_pj PK J2.out HZ.out HS.out R2.out (by omega) f.name (by have := C2.out.len24 hV; unfold maxLen; omega))
                rw [e0] at FC
                have R3 := Lib.hid (R2.out.flush J2.out.dok f.name)
                have C3 := Lib.hid c3
                have F3 := Lib.hid f3
                obtain ⟨gl, rfl, q0, -⟩ := L2.out.cell HLL.out.symm hf
                clear e0 c3 f3 hV hns hf
                go_wp2_with fail
                refine FC.out.mono ?_
                rintro e w9 ⟨rfl, S9, h9, t9⟩
                have J9 := Lib.hid h9
                have L9 := Lib.hid (L2.out.turn t9)
                clear h9 t9 FC q0
                go_wp2_with fail
                go_roundw
                case rel => exact ⟨t + 1, _, S9, by omega, by go_num, J9, R3, C3, L9, F3⟩
                case measure => simp [intOf] <;> omega
              · obtain rfl : t = L := by omega
                have AT := Lib.hid (show AllTidy p V from Flushed.all (by rw [List.length_map, HLL.out]; exact F2.out) NM.out)
                obtain ⟨p1, p2, p3⟩ := C2.out.power
                have CB := Lib.hid (C2.out.back (n := 1) J2.out.dok.rise AT.out ⟨by decide, by decide⟩)
                obtain ⟨Fd, Fp, X2, sl2, rfl, hp⟩ := J2.out
                have AR := K.arm 1 (hp.D.z HZ.out) hp.D.D (by decide) (by decide)
                rw [p1] at AR
                unfold dpt at AR
                have AR := Lib.hid AR
                have HD := Lib.hid hp.D
                have P2 := Lib.hid p2
                have P3 := Lib.hid p3
                have LF := Lib.hid (L2.out.re (S' := Fd) (fun i hi => .inl (.inl hi)))
                obtain ⟨bl, hbl⟩ : ∃ bl, backL [] p.d.l 0 = bl := ⟨_, rfl⟩
                rw [hbl] at CB P3
                clear p1 p2 p3 hp htl ht J2 L2 hbl R2 F2
                generalize p.d.l = pl at *
                generalize p.d.q = pq at *
                go_wp2_with fail
                refine AR.out.mono ?_
                rintro e w10 ⟨rfl, F10, d10, t10⟩
                have H10 := Lib.hid (HD.out.step d10 t10)
                have L10 := Lib.hid (LF.out.turn t10)
                have CR := K.create [122] (H10.out.z HZ.out) H10.out.D (by decide)
                rw [P2.out [122]] at CR
                unfold dpt strV at CR
                have CR := Lib.hid CR
                clear d10 t10 AR
                go_wp2_with fail
                refine CR.out.mono ?_
                rintro e w11 ⟨rfl, F11, d11, t11⟩
                have H11 := Lib.hid (H10.out.step d11 t11)
                have L11 := Lib.hid (L10.out.turn t11)
                have ON := K.on none 0 0 [] (H11.out.z HZ.out) H11.out.D (At.nil _ _ _) (fun ad ha => by cases ha) rfl (Nat.le_refl _) (by omega)
                rw [P3.out] at ON
                unfold dpt at ON
                have ON := Lib.hid ON
                clear d11 t11 CR
                go_wp2_with fail
                refine ON.out.mono ?_
                rintro e w12 ⟨rfl, F12, d12, t12⟩
                have H12 := Lib.hid (H11.out.step d12 t12)
                have L12 := Lib.hid (L11.out.turn t12)
                have PN := Lib.hid (new10_any H12.out 1 ⟨by decide, by decide⟩)
                clear d12 t12 ON
                go_wp2_with fail
                refine PN.out.mono ?_
                rintro e w13 ⟨k13, ⟨-, -, B2, Fp2, X3, sl3, hdb, rfl, h13, l13⟩ | ⟨hbad, -⟩⟩
                rotate_left
                · exfalso; omega
                have J13 := Lib.hid (show PJ K w B2 (newPl ⟨bl, pq, 0, false⟩ 1) (Both F12 Fp2) w13 from ⟨F12, Fp2, X3, sl3, rfl, h13⟩)
                have L13 := Lib.hid ((L12.out.re (S' := Both F12 Fp2) (fun i hi => hi.elim .inl (fun h => .inr (l13 i h)))).keep k13)
                have R13 := Lib.hid (runs_new ⟨bl, pq, 0, false⟩ (n := 1) ⟨by decide, by decide⟩)
                clear k13 h13 l13 PN hdb
                generalize newPl ⟨bl, pq, 0, false⟩ 1 = q0 at *
                generalize Both F12 Fp2 = T0 at *
                go_wp2_with fail
                go_loopw [20] (fun i wr => ∃ (t' : Nat) (q : Pst) (S : Nat → Prop) (r : Nat), t' ≤ t ∧ i = .int .i64 t' ∧ Hid (r ≤ 151 * t') ∧ Hid (PJ K w B2 q S wr) ∧ Hid (Runs q 1 r) ∧ Hid (HealC q V 150) ∧ Hid (LAt w wr S (.slice Al t cl) fs)) (fun i _ => t - (intOf i).toNat)
                case atStart => exact ⟨0, q0, T0, 0, Nat.zero_le _, rfl, Lib.hid (Nat.le_refl _), J13, R13, CB, L13⟩
                case round =>
                  obtain ⟨u, q, S, r, hu, rfl, hr, J3, R3, C3, L3⟩ := hrel
                  by_cases hut : u < t
                  · have hut2 : (u : Int) < (t : Int) := by omega
                    have hr2 : r ≤ 50000 := by have := hr.out; omega
                    obtain ⟨f, hf⟩ : ∃ f, fs[u]? = some f := ⟨_, List.getElem?_eq_getElem (by have := HLL.out; omega)⟩
                    have HF := Lib.hid hf
                    have hfm := List.mem_of_getElem? hf
                    have hV := VF.out.at_ hf
                    have HV := Lib.hid hV
                    have hnm : f.name.length ≤ maxLen := by have := C3.out.len24 (nm := f.name) (by rw [hV]; simp); unfold maxLen; omega
                    have PG := pages_pj J3.out HZ.out R3.out (by omega) f.name hnm
                    rw [C3.out.find hV] at PG
                    simp only [if_true, pages_len] at PG
                    have PG := Lib.hid PG
                    have NMX := Lib.hid hnm
                    obtain ⟨np, hnp⟩ : ∃ np, f.pg.length = np := ⟨_, rfl⟩
                    have HNP := Lib.hid hnp
                    have hnp150 : np ≤ 150 := by have := PEX.out f hfm; omega
                    have hnpi : (np : Int) ≤ 150 := by omega
                    rw [hnp] at PG
                    obtain ⟨gl, rfl, q0, q1, -⟩ := L3.out.cell HLL.out.symm hf
                    obtain ⟨Ap, cp, hpv, -⟩ := (L3.out.each f hfm).1.form
                    rw [hnp] at hpv
                    have HPV := Lib.hid hpv
                    have enp : ((np : Int) != (np : Int)) = false := by simp
                    clear hf hfm hV hnm hnp hpv q1
                    go_wp2_with fail
                    refine PG.out.mono ?_
                    rintro e w14 ⟨he, k14⟩
                    try simp only [if_true] at he
                    subst he
                    have J14 := Lib.hid (J3.out.keep k14)
                    have L14 := Lib.hid (L3.out.keep k14)
                    have q1 : w14.cell? ⟨gl, u * 2 + 1, none⟩ = some (.slice Ap np cp) := by
                      obtain ⟨g', e, -, q1, -⟩ := L14.out.cell HLL.out.symm HF.out
                      obtain rfl : gl = g' := by injection e with e; injection e
                      rw [HPV.out] at q1
                      exact q1
                    clear k14 PG q0
                    go_wp2_with fail
                    go_loopw [23] (fun i wr => ∃ (k : Nat) (q : Pst) (S : Nat → Prop), k ≤ np ∧ i = .int .i64 k ∧ Hid (PJ K w B2 q S wr) ∧ Hid (Runs q 1 (r + k)) ∧ Hid (HealC q V 150) ∧ Hid (LAt w wr S (.slice (some ⟨gl, 0, none⟩) t cl) fs)) (fun i _ => np - (intOf i).toNat)
                    case atStart => exact ⟨0, q, S, Nat.zero_le _, rfl, J14, R3, C3, L14⟩
                    case round =>
                      obtain ⟨k, q, S, hk, rfl, J4, R4, C4, L4⟩ := hrel
                      by_cases hkn : k < np
                      · have hkn2 : (k : Int) < (np : Int) := by omega
                        obtain ⟨x, hx⟩ : ∃ x, f.pg[k]? = some x := ⟨_, List.getElem?_eq_getElem (by have := HNP.out; omega)⟩
                        obtain ⟨a1, c1⟩ := C4.out.read (by omega) HV.out (pages_get hx)
                        have RD := read_pj PK J4.out HZ.out HS.out R4.out (by decide) (by omega) f.name NMX.out (k : Int) ⟨by omega, by omega⟩
                        rw [a1] at RD
                        have RD := Lib.hid RD
                        have R5 := Lib.hid (R4.out.read J4.out.dok f.name (k : Int))
                        have C5 := Lib.hid c1
                        have HX := Lib.hid hx
                        obtain ⟨g', e', q0, -⟩ := L4.out.cell HLL.out.symm HF.out
                        obtain rfl : gl = g' := by injection e' with e'; injection e'
                        clear a1 c1 hx e'
                        go_wp2_with fail
                        refine RD.out.mono ?_
                        rintro e w15 ⟨v15, rfl, o15, S15, h15, t15, n15⟩
                        have J15 := Lib.hid h15
                        have L15 := Lib.hid (L4.out.turn t15)
                        obtain ⟨A15, c15, rfl, -⟩ := o15.form
                        have hfm := List.mem_of_getElem? HF.out
                        have q1 : w15.cell? ⟨gl, u * 2 + 1, none⟩ = some (.slice Ap np cp) := by
                          obtain ⟨g', e, -, q1, -⟩ := L15.out.cell HLL.out.symm HF.out
                          obtain rfl : gl = g' := by injection e with e; injection e
                          rw [HPV.out] at q1
                          exact q1
                        have PC : ∃ gp, Ap = some ⟨gp, 0, none⟩ ∧ w15.cell? ⟨gp, k, none⟩ = some (.slice x.A x.b.length x.c) := by
                          have ow := (L15.out.each f hfm).1
                          rw [HPV.out, HNP.out] at ow
                          obtain ⟨gp, e, q2, -⟩ := ow.cell (j := k) (by rw [List.length_map, HNP.out]; exact hkn)
                          refine ⟨gp, e, q2.trans ?_⟩
                          rw [List.getElem?_map, HX.out]
                          rfl
                        obtain ⟨gp, rfl, q2⟩ := PC
                        have EQ := Lib.hid (eqBytes_one A15 x.b.length c15 x.b x.A x.b.length x.c w15 o15.at_ rfl ((L15.out.pg f hfm x (List.mem_of_getElem? HX.out)).at_.low J15.out.kp) rfl)
                        clear o15 h15 t15 n15 RD q0 hfm
                        generalize x.b.length = nx at *
                        go_wp2_with fail
                        refine EQ.out.mono ?_
                        rintro e w16 ⟨rfl, rfl⟩
                        go_wp2_with fail
                        go_roundw
                        case rel => exact ⟨k + 1, _, S15, by omega, by go_num, J15, R5, C5, L15⟩
                        case measure => simp [intOf] <;> omega
                      · obtain rfl : k = np := by omega
                        clear hkn hk
                        go_wp2_with fail
                        go_roundw
                        case rel => exact ⟨u + 1, q, S, r + k, by omega, by go_num, Lib.hid (by have := hr.out; omega), J4, R4, C4, L4⟩
                        case measure => simp [intOf] <;> omega
                  · obtain rfl : u = t := by omega
                    have KP := Lib.hid J3.out.kp
                    clear hut hu
                    go_wp2_with fail
                    refine (WK.out _ KP.out).mono ?_
                    rintro e w17 ⟨rfl, k17⟩
                    have K17 := Lib.hid (keeps_trans KP.out k17)
                    clear k17
                    go_wp2_with fail
                    go_ret
                    exact ⟨rfl, K17.out⟩
  · clear hv
    go_wp2_with fail
    refine (WK.out _ K1.out).mono ?_
    rintro e w9 ⟨rfl, k9⟩
    have K9 := Lib.hid (keeps_trans K1.out k9)
    clear k9
    go_wp2_with fail
    go_ret
    exact ⟨rfl, K9.out⟩
end Go.Proofs.YtamboappeahgpaaGreatDoor
