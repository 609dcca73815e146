/- StreamLeaves. (Written by mkleaves11.py.) -/
import Derived.Test.YtmholhjdpkfleaaDoorQStrE
import Derived.Test.YtmholhjdpkfleaaDoorQStreamMath
namespace Go.Proofs.YtmholhjdpkfleaaDoor
open Go.RowKit
set_option linter.unusedSimpArgs false
set_option linter.unusedVariables false
set_option maxRecDepth 100000

theorem made_zero (s : Nat) : madeCells #[Value.int .u8 0] s = (cel (List.replicate s 0)).toArray := by
  apply Array.ext'
  apply List.ext_getElem?
  intro j
  by_cases hj : j < s
  · simp [madeCells, cel, hj, Nat.mod_one]
  · simp [madeCells, cel, hj]
theorem bs_zero (w : World) (s : Nat) : Bs (w.alloc (.cells (madeCells #[Value.int .u8 0] s) 5)) (some ⟨w.heap.size, 0, none⟩) (List.replicate s 0) := by
  rw [made_zero]
  exact At.new w (cel (List.replicate s 0)) 5 _ (by simp)
/-- the records behind the Set -/
def leafR (n s : Nat) (i : Int) (l : List UInt8) : List (List UInt8) := if l.length = s ∧ 0 ≤ i ∧ i < n then (List.replicate n (List.replicate s 0)).set i.toNat l else List.replicate n (List.replicate s 0)
theorem leafR_len (n s : Nat) (i : Int) (l : List UInt8) : (leafR n s i l).length = n := by
  unfold leafR
  split <;> simp
/-- a byte of a page behind the Set -/
theorem leaf_byte {n s : Nat} {i : Int} {l : List UInt8} {per k q : Nat} (hs : 0 < s) (hrec : ∀ r ∈ leafR n s i l, r.length = s) (hq : q < (recsAt per (leafR n s i l) k).flatten.length) :
    (cel (recsAt per (leafR n s i l) k).flatten)[q]? = some (.int .u8 (if (l.length = s ∧ 0 ≤ i ∧ i < n) ∧ ((k * per + q / s : Nat) : Int) = i then ((l.getD (q % s) 0).toNat : Int) else 0)) := by
  have h1 := page_byte hs hrec hq
  rw [cel_get _ hq, List.getD_eq_getElem?_getD, h1]
  have hm : q % s < s := Nat.mod_lt _ hs
  have hk : k * per + q / s < n := by
    rcases Nat.lt_or_ge (k * per + q / s) n with h2 | h2
    · exact h2
    · exfalso
      rw [List.getElem?_eq_getElem hq, List.getElem?_eq_none (by rw [leafR_len]; exact h2)] at h1
      cases h1
  unfold leafR at h1 ⊢
  by_cases hf : l.length = s ∧ 0 ≤ i ∧ i < n
  · rw [if_pos hf]
    have e := set_byte (size := s) (n := n) (i := i.toNat) (at_ := k * per + q / s) (m := q % s) hf.1 hm hk (by omega)
    rw [e]
    by_cases e2 : k * per + q / s = i.toNat
    · rw [if_pos e2, if_pos ⟨hf, by omega⟩, List.getD_eq_getElem?_getD]
    · rw [if_neg e2, if_neg (fun h => e2 (by have := h.2; omega))]
      rfl
  · rw [if_neg hf, if_neg (fun h => hf h.1), zero_byte hm hk]
    rfl
set_option maxHeartbeats 64000000 in
theorem leaves11_walk (K : DiskOk) (PK : PageOk) (x y : Nat) (hx : x < 256) (hy : y < 256) (i : Int) (hi : IsI i) (A : Option Addr) (len c : Nat) (l : List UInt8) (w : World) (hZ : K.Z w) (hS : Sizes w) (hB : Bs w A l) (hlen : len = l.length) (hm : len ≤ 9223372036854775807) :
    Calls Tryd.prog 6 #[.int .u8 (x : Int), .int .u8 (y : Int), .int .i64 i, .slice A len c] w (Yes11 w) := by
  have WK := Lib.hid (fun (W : World) (q : Keeps w W) => works11 K PK W (K.keep hZ q) (hS.keep q))
  by_cases big : 1024 < len
  · have bi : (1024 : Int) < (len : Int) := by omega
    clear hB hlen
    go_enter Tryd.func6, Tryd.ntmps6
    go_wp2_with fail
    refine (WK.out _ (keeps_refl _)).mono ?_
    rintro e w9 ⟨rfl, k9⟩
    have K9 := Lib.hid k9
    clear k9
    go_wp2_with fail
    go_ret
    exact ⟨rfl, K9.out⟩
  · have bi : decide ((1024 : Int) < (len : Int)) = false := decide_eq_false (by omega)
    have bi2 : decide (1024 < len) = false := decide_eq_false big
    have blen : (len : Int) ≤ 1024 := by omega
    obtain ⟨n, hn⟩ : ∃ n : Nat, y % 101 = n := ⟨_, rfl⟩
    have hn1 : n ≤ 100 := by omega
    obtain ⟨r, hr⟩ : ∃ r : Nat, x % 240 = r := ⟨_, rfl⟩
    obtain ⟨s, hse⟩ : ∃ s : Nat, 1 + r = s := ⟨_, rfl⟩
    have hs : 1 ≤ s ∧ s ≤ 240 := by omega
    have c1 : IntKind.i64.wrap (x : Int) = (x : Int) := IntWalk.i64_in _ (by omega)
    have c2 : IntKind.i64.wrap (y : Int) = (y : Int) := IntWalk.i64_in _ (by omega)
    have c3 : Int.tmod (y : Int) 101 = (n : Int) := by rw [← hn]; exact (Int.ofNat_tmod y 101).symm
    have c4 : Int.tmod (x : Int) 240 = (r : Int) := by rw [← hr]; exact (Int.ofNat_tmod x 240).symm
    have c5 : (1 : Int) + (r : Int) = (s : Int) := by omega
    have c6 : (r : Int) ≤ 240 := by omega
    have BG := Lib.hid (begun_any K w hZ (n := 3) (size := s) ⟨by decide, by decide⟩ hs)
    have hmk := run_make_row' (P := Tryd.prog) 31 5 (.int .u8 0) 1 Tryd.underlying31 info_u8s rfl .i64 .i64 s (by omega) (by omega)
    have HZ := Lib.hid hZ
    have HS := Lib.hid hS
    have BL := Lib.hid hB
    have HLEN := Lib.hid hlen
    have HI := Lib.hid hi
    clear hZ hS hB hlen hi hn hr hse big hx hy
    go_enter Tryd.func6, Tryd.ntmps6
    go_wp2_with fail
    refine BG.out.mono ?_
    rintro e w1 ⟨B, S, p, sb, rfl, hJ, hBx, hnS, hlt, hR, hH⟩
    have J1 := Lib.hid hJ
    have B1 := Lib.hid hBx
    have N1 := Lib.hid hnS
    have R1 := Lib.hid hR
    have H1 := Lib.hid hH
    clear hJ hBx hnS hlt hR hH BG c1 c2 c3 c4 c5 c6
    go_wp2_with fail
    go_loopw [14] (fun k wr => ∃ (j : Nat) (q : Pst) (T : Nat → Prop), j ≤ n ∧ k = .int .i64 j ∧ Hid (PJ K w B q T wr) ∧ Hid (StrAt wr sb B.pb sN s) ∧ Hid (¬ T sb) ∧ Hid (Runs q 3 (1 + 2 * j)) ∧ Hid (HealS q s (List.replicate j (List.replicate s 0)) j)) (fun k _ => n - (intOf k).toNat)
    case atStart => exact ⟨0, p, S, Nat.zero_le _, rfl, J1, B1, N1, R1, H1⟩
    case round =>
      clear J1 B1 N1 R1 H1
      obtain ⟨j, q, T, hj, rfl, J2, B2, N2, R2, H2⟩ := hrel
      by_cases hlt : j < n
      · have hji : (j : Int) < (n : Int) := by omega
        have kb := keeps_alloc wr (.cells (madeCells #[Value.int .u8 0] s) 5)
        obtain ⟨a1, a2⟩ := H2.out.add (r := List.replicate s 0) (by omega) (List.length_replicate ..)
        have AD := Lib.hid (sadd_any PK (J2.out.keep kb) HZ.out HS.out R2.out (by decide) (by omega) (B2.out.keep kb) N2.out sN_len hs (by rw [H2.out.find]; simp only [List.length_replicate]; have := pages_le (per_pos hs) j; omega) (nr := s) (cr := s) (bs_zero wr s) (fun ad h hF => by cases h; exact Nat.lt_irrefl _ (J2.out.lt _ hF)) (List.length_replicate ..).symm (by omega))
        rw [a1] at AD
        rw [rep_push] at a2
        have H3 := Lib.hid a2
        have BK := Lib.hid (B2.out.keep kb)
        generalize (addT q sN s (List.replicate s 0)).1 = q2 at *
        clear a1 a2 kb J2 B2 R2 H2
        go_wp2_with fail
        refine AD.out.mono ?_
        rintro e w2 ⟨rfl, ⟨S2, j2, t2⟩, r2⟩
        have J3 := Lib.hid j2
        have B3 := Lib.hid (BK.out.turn t2 N2.out)
        have N3 := Lib.hid (t2.notIn BK.out.lt N2.out)
        have R3 := Lib.hid r2
        clear j2 t2 r2 AD BK N2
        go_wp2_with fail
        go_roundw
        case rel => exact ⟨j + 1, q2, S2, by omega, by go_num, J3, B3, N3, Lib.hid (R3.out.more (by omega)), H3⟩
        case measure => simp [intOf] <;> omega
      · obtain rfl : j = n := by omega
        have CB := Lib.hid (copyBytes_any A len c l wr (BL.out.keep J2.out.kp) HLEN.out (by unfold maxLen; omega))
        have SE := Lib.hid (fun (V : World) (kk : Keeps wr V) (A' : Option Addr) (c' : Nat) (o : Own V wr.heap.size 5 1 (.slice A' len c') len (cel l)) => sset_any PK (J2.out.keep kk) HZ.out HS.out R2.out (by decide) (by omega) (B2.out.keep kk) N2.out sN_len hs i HI.out (nr := len) (cr := c') (show Bs V A' l from o.at_) (fun ad ha hF => by
          subst ha
          have h1 := (o.lt ad.block rfl).1
          have h2 := J2.out.lt _ hF
          omega) HLEN.out (by omega))
        have SH := Lib.hid (show ∃ E cc, (setT q sN s i l).2 = E ∧ (E = 0 ↔ (l.length = s ∧ 0 ≤ i ∧ i < j)) ∧ HealS (setT q sN s i l).1 s (leafR j s i l) (j + 1) from by
          by_cases hf : l.length = s ∧ 0 ≤ i ∧ i < j
          · obtain ⟨m, rfl⟩ : ∃ m : Nat, i = (m : Int) := ⟨i.toNat, by omega⟩
            obtain ⟨e1, e2⟩ := H2.out.set (i := m) (r := l) (by omega) (by rw [List.length_replicate]; omega) hf.1
            refine ⟨_, 0, rfl, ⟨fun _ => hf, fun _ => e1⟩, ?_⟩
            unfold leafR
            rw [if_pos hf, Int.toNat_natCast]
            exact e2
          · obtain ⟨e1, e2⟩ := H2.out.set_no (i := i) (r := l) (by omega) (by rw [List.length_replicate]; omega)
            refine ⟨_, 0, rfl, ⟨fun h => absurd h e1, fun h => absurd h hf⟩, ?_⟩
            unfold leafR
            rw [if_neg hf]
            exact e2.more (by omega))
        clear hlt hj
        obtain ⟨E, cc, hE, hEf, hH8⟩ := SH.out
        have H8 := Lib.hid hH8
        rw [hE] at SE
        generalize (setT q sN s i l).1 = p8 at *
        clear SH hH8 hE
        go_wp2_with fail
        refine CB.out.mono ?_
        rintro e w7 ⟨v7, rfl, o7, k7⟩
        rw [← HLEN.out] at o7
        obtain ⟨A7, c7, rfl, -⟩ := o7.form
        have SE7 := Lib.hid (SE.out w7 k7 A7 c7 o7)
        have B7 := Lib.hid (B2.out.keep k7)
        clear o7 k7 SE CB
        go_wp2_with fail
        refine SE7.out.mono ?_
        rintro e w8 ⟨rfl, ⟨S8, j8, t8⟩, r8⟩
        have J8 := Lib.hid j8
        have R8 := Lib.hid (r8.more (show 1 + 2 * j + 2 ≤ 1 + 2 * j + 3 by omega))
        have B8 := Lib.hid (B7.out.turn t8 N2.out)
        have N8 := Lib.hid (t8.notIn B7.out.lt N2.out)
        clear j8 r8 t8 SE7 B7 J2 B2 N2 R2 H2
        have nb0 : (false != false) = false := rfl
        have nb1 : (true != true) = false := rfl
        obtain ⟨n, hjn⟩ : ∃ n, n = j := ⟨_, rfl⟩
        subst hjn
        by_cases f1 : l.length = s
        · have g1 : ((len : Int) == (s : Int)) = true := by rw [beq_iff_eq]; have := HLEN.out; omega
          by_cases f2 : 0 ≤ i
          · by_cases f3 : i < (n : Int)
            · have FIT := Lib.hid (show l.length = s ∧ 0 ≤ i ∧ i < (n : Int) from ⟨f1, f2, f3⟩)
              have e0 : ((E : Int) == 0) = true := by rw [beq_iff_eq]; have := hEf.2 FIT.out; omega
              clear f1 hEf
              have P8 := Lib.hid (pages_pj J8.out HZ.out R8.out (by omega) sN sN_len)
              rw [strS11, H8.out.find, leafR_len] at P8
              simp only [if_pos] at P8
              obtain ⟨pg, hpg⟩ : ∃ pg, pagesN (240 / s) n = pg := ⟨_, rfl⟩
              rw [hpg] at P8
              have hpgn : pg ≤ n := by rw [← hpg]; exact pages_le (per_pos hs) n
              have LN := Lib.hid (fun (V : World) (kk : Keeps w8 V) => slen_any PK (J8.out.keep kk) HZ.out HS.out R8.out (by decide) (by omega) (B8.out.keep kk) N8.out sN_len hs (by rw [H8.out.find, leafR_len, hpg]; simp only; omega))
              obtain ⟨l1, l2⟩ := H8.out.len (by omega)
              rw [l1, leafR_len] at LN
              have H9 := Lib.hid l2
              have R9 := Lib.hid (R8.out.lenS J8.out.dok sN s)
              have HPG := Lib.hid hpg
              generalize (lenT p8 sN s).1 = p9 at *
              clear l1 l2 hpg
              go_wp2_with fail
              refine P8.out.mono ?_
              rintro e w9 ⟨rfl, k9⟩
              have LN9 := Lib.hid (LN.out w9 k9)
              clear k9 P8 LN
              go_wp2_with fail
              refine LN9.out.mono ?_
              rintro e wa ⟨rfl, Sa, ja, ta⟩
              have JA := Lib.hid ja
              have nn0 : ((n : Int) != (n : Int)) = false := by simp
              obtain ⟨per, hper⟩ : ∃ per, 240 / s = per := ⟨_, rfl⟩
              have hpp : 0 < per := by rw [← hper]; exact per_pos hs
              have hps : per * s ≤ 240 := by rw [← hper]; exact per_le s
              have hp3 : (per : Int) ≤ 240 := by have := Nat.div_le_self 240 s; omega
              have dq : Int.tdiv 240 (s : Int) = (per : Int) := by rw [← hper]; exact (Int.ofNat_tdiv 240 s).symm
              have HPER := Lib.hid hper
              rw [hper] at HPG
              clear ja ta LN9 J8 R8 H8 B8 N8 hper
              go_wp2_with fail
              go_loopw [22] (fun k wr => ∃ (j : Nat) (q : Pst) (T : Nat → Prop), j ≤ pg ∧ k = .int .i64 j ∧ Hid (PJ K w B q T wr) ∧ Hid (Runs q 3 (1 + 2 * n + 4 + j)) ∧ Hid (HealS q s (leafR n s i l) (n + 1))) (fun k _ => pg - (intOf k).toNat)
              case atStart => exact ⟨0, p9, Sa, Nat.zero_le _, rfl, JA, Lib.hid (R9.out.more (by omega)), H9⟩
              case round =>
                clear JA R9 H9
                obtain ⟨j, q, T, hj, rfl, JB, RB, HB⟩ := hrel
                by_cases hlt : j < pg
                · have hji : (j : Int) < (pg : Int) := by omega
                  have hjb : (j : Int) ≤ 100 := by omega
                  have hkN : j < pagesN (240 / s) (leafR n s i l).length := by rw [leafR_len, HPER.out, HPG.out]; exact hlt
                  obtain ⟨r1, r2⟩ := HB.out.read (by omega) hkN
                  have RD := Lib.hid (read_pj PK JB.out HZ.out HS.out RB.out (by decide) (by omega) sN sN_len (j : Int) ⟨by omega, by omega⟩)
                  rw [r1, strS11] at RD
                  have RX := Lib.hid (RB.out.read JB.out.dok sN (j : Int))
                  have HX := Lib.hid r2
                  have BYT := Lib.hid (fun (qq : Nat) (hq : qq < (recsAt (240 / s) (leafR n s i l) j).flatten.length) => leaf_byte (k := j) (Nat.lt_of_lt_of_le Nat.zero_lt_one hs.1) HB.out.recs hq)
                  have hlen := page_le (per := 240 / s) HB.out.recs j
                  rw [HPER.out] at BYT RD hlen
                  generalize (recsAt per (leafR n s i l) j).flatten = tx at *
                  generalize (readPl q sN (j : Int)).1 = q2 at *
                  clear r1 r2 hkN
                  obtain ⟨kp, hkp⟩ : ∃ kp, j * per = kp := ⟨_, rfl⟩
                  have k1 : (j : Int) * (per : Int) = (kp : Int) := by rw [← hkp]; exact (Int.natCast_mul j per).symm
                  have k2 : kp ≤ 24000 := by
                    rw [← hkp]
                    exact Nat.le_trans (Nat.mul_le_mul (show j ≤ 100 by omega) (show per ≤ 240 by omega)) (by decide)
                  have k3 : (kp : Int) ≤ 24000 := by omega
                  rw [hkp] at BYT
                  obtain ⟨L, hL⟩ : ∃ L, tx.length = L := ⟨_, rfl⟩
                  have hL2 : L ≤ 240 := by omega
                  have hL3 : (L : Int) ≤ 240 := by omega
                  have HTL := Lib.hid hL
                  clear hkp hL
                  go_wp2_with fail
                  refine RD.out.mono ?_
                  rintro e wb ⟨v, rfl, ob, Sb, jb, tb, nb⟩
                  obtain ⟨Ab, cb, rfl, -⟩ := ob.form
                  rw [HTL.out] at ob ⊢
                  have OB := Lib.hid ob
                  have JC := Lib.hid jb
                  clear ob jb tb nb RD
                  go_wp2_with fail
                  go_loopw [25] (fun m wr => ∃ (jq : Nat), jq ≤ L ∧ m = .int .i64 jq ∧ Hid (Keeps wb wr)) (fun m _ => L - (intOf m).toNat)
                  case atStart => exact ⟨0, Nat.zero_le _, rfl, Lib.hid (keeps_refl _)⟩
                  case round =>
                    obtain ⟨qq, hqq, rfl, KB⟩ := hrel
                    by_cases hq : qq < L
                    · have hqi : (qq : Int) < (L : Int) := by omega
                      have hqb : (qq : Int) ≤ 240 := by omega
                      obtain ⟨g, rfl, hcell, -⟩ := (OB.out.keep KB.out).cell (j := qq) (by rw [cel_length, HTL.out]; exact hq)
                      rw [BYT.out qq (by rw [HTL.out]; exact hq)] at hcell
                      obtain ⟨qd, hqd⟩ : ∃ qd, qq / s = qd := ⟨_, rfl⟩
                      obtain ⟨qm, hqm⟩ : ∃ qm, qq % s = qm := ⟨_, rfl⟩
                      have d1 : Int.tdiv (qq : Int) (s : Int) = (qd : Int) := by rw [← hqd]; exact (Int.ofNat_tdiv qq s).symm
                      have d2 : Int.tmod (qq : Int) (s : Int) = (qm : Int) := by rw [← hqm]; exact (Int.ofNat_tmod qq s).symm
                      have d3 : (qd : Int) ≤ 240 := by have := Nat.div_le_self qq s; omega
                      have d4 : qm < s := by rw [← hqm]; exact Nat.mod_lt _ (by omega)
                      have d5 : (qm : Int) < (s : Int) := by omega
                      obtain ⟨at_, hat⟩ : ∃ at_, kp + qd = at_ := ⟨_, rfl⟩
                      have d6 : (kp : Int) + (qd : Int) = (at_ : Int) := by omega
                      rw [hqd, hqm, hat] at hcell
                      clear hqd hqm hat hq
                      by_cases hai : (at_ : Int) = i
                      · have ae : ((at_ : Int) == i) = true := by rw [hai]; simp
                        have d7 : (qm : Int) < (len : Int) := by have := FIT.out.1; have := HLEN.out; omega
                        rw [if_pos ⟨FIT.out, hai⟩] at hcell
                        obtain ⟨ad, hA, hb8⟩ := (BL.out.keep (keeps_trans JC.out.kp KB.out)).at_ (k := qm) (by have := FIT.out.1; omega)
                        subst hA
                        generalize ((l.getD qm 0).toNat : Int) = bv at *
                        have bb : (bv != bv) = false := by simp
                        clear hai
                        go_wp2_with fail
                        go_roundw
                        case rel => exact ⟨qq + 1, by omega, by go_num, KB⟩
                        case measure => simp [intOf] <;> omega
                      · have ae : ((at_ : Int) == i) = false := by rw [beq_eq_false_iff_ne]; exact hai
                        rw [if_neg (fun h => hai h.2)] at hcell
                        clear hai
                        go_wp2_with fail
                        go_roundw
                        case rel => exact ⟨qq + 1, by omega, by go_num, KB⟩
                        case measure => simp [intOf] <;> omega
                    · obtain rfl : qq = L := by omega
                      have JD := Lib.hid (JC.out.keep KB.out)
                      clear hq hqq
                      go_wp2_with fail
                      go_roundw
                      case rel => exact ⟨j + 1, q2, Sb, by omega, by go_num, JD, Lib.hid (RX.out.more (by omega)), HX⟩
                      case measure => simp [intOf] <;> omega
                · obtain rfl : j = pg := by omega
                  clear hlt hj
                  go_wp2_with fail
                  refine (WK.out _ JB.out.kp).mono ?_
                  rintro e wz ⟨rfl, kz⟩
                  have KZ := Lib.hid (keeps_trans JB.out.kp kz)
                  clear kz
                  go_wp2_with fail
                  go_ret
                  exact ⟨rfl, KZ.out⟩
            · have NFIT := Lib.hid (show ¬ (l.length = s ∧ 0 ≤ i ∧ i < (n : Int)) from fun h => f3 h.2.2)
              have e0 : ((E : Int) == 0) = false := by rw [beq_eq_false_iff_ne]; have := fun h => NFIT.out (hEf.1 h); omega
              have g3 : decide (i < (n : Int)) = false := decide_eq_false f3
              clear f1 f3 hEf
              have P8 := Lib.hid (pages_pj J8.out HZ.out R8.out (by omega) sN sN_len)
              rw [strS11, H8.out.find, leafR_len] at P8
              simp only [if_pos] at P8
              obtain ⟨pg, hpg⟩ : ∃ pg, pagesN (240 / s) n = pg := ⟨_, rfl⟩
              rw [hpg] at P8
              have hpgn : pg ≤ n := by rw [← hpg]; exact pages_le (per_pos hs) n
              have LN := Lib.hid (fun (V : World) (kk : Keeps w8 V) => slen_any PK (J8.out.keep kk) HZ.out HS.out R8.out (by decide) (by omega) (B8.out.keep kk) N8.out sN_len hs (by rw [H8.out.find, leafR_len, hpg]; simp only; omega))
              obtain ⟨l1, l2⟩ := H8.out.len (by omega)
              rw [l1, leafR_len] at LN
              have H9 := Lib.hid l2
              have R9 := Lib.hid (R8.out.lenS J8.out.dok sN s)
              have HPG := Lib.hid hpg
              generalize (lenT p8 sN s).1 = p9 at *
              clear l1 l2 hpg
              go_wp2_with fail
              refine P8.out.mono ?_
              rintro e w9 ⟨rfl, k9⟩
              have LN9 := Lib.hid (LN.out w9 k9)
              clear k9 P8 LN
              go_wp2_with fail
              refine LN9.out.mono ?_
              rintro e wa ⟨rfl, Sa, ja, ta⟩
              have JA := Lib.hid ja
              have nn0 : ((n : Int) != (n : Int)) = false := by simp
              obtain ⟨per, hper⟩ : ∃ per, 240 / s = per := ⟨_, rfl⟩
              have hpp : 0 < per := by rw [← hper]; exact per_pos hs
              have hps : per * s ≤ 240 := by rw [← hper]; exact per_le s
              have hp3 : (per : Int) ≤ 240 := by have := Nat.div_le_self 240 s; omega
              have dq : Int.tdiv 240 (s : Int) = (per : Int) := by rw [← hper]; exact (Int.ofNat_tdiv 240 s).symm
              have HPER := Lib.hid hper
              rw [hper] at HPG
              clear ja ta LN9 J8 R8 H8 B8 N8 hper
              go_wp2_with fail
              go_loopw [22] (fun k wr => ∃ (j : Nat) (q : Pst) (T : Nat → Prop), j ≤ pg ∧ k = .int .i64 j ∧ Hid (PJ K w B q T wr) ∧ Hid (Runs q 3 (1 + 2 * n + 4 + j)) ∧ Hid (HealS q s (leafR n s i l) (n + 1))) (fun k _ => pg - (intOf k).toNat)
              case atStart => exact ⟨0, p9, Sa, Nat.zero_le _, rfl, JA, Lib.hid (R9.out.more (by omega)), H9⟩
              case round =>
                clear JA R9 H9
                obtain ⟨j, q, T, hj, rfl, JB, RB, HB⟩ := hrel
                by_cases hlt : j < pg
                · have hji : (j : Int) < (pg : Int) := by omega
                  have hjb : (j : Int) ≤ 100 := by omega
                  have hkN : j < pagesN (240 / s) (leafR n s i l).length := by rw [leafR_len, HPER.out, HPG.out]; exact hlt
                  obtain ⟨r1, r2⟩ := HB.out.read (by omega) hkN
                  have RD := Lib.hid (read_pj PK JB.out HZ.out HS.out RB.out (by decide) (by omega) sN sN_len (j : Int) ⟨by omega, by omega⟩)
                  rw [r1, strS11] at RD
                  have RX := Lib.hid (RB.out.read JB.out.dok sN (j : Int))
                  have HX := Lib.hid r2
                  have BYT := Lib.hid (fun (qq : Nat) (hq : qq < (recsAt (240 / s) (leafR n s i l) j).flatten.length) => leaf_byte (k := j) (Nat.lt_of_lt_of_le Nat.zero_lt_one hs.1) HB.out.recs hq)
                  have hlen := page_le (per := 240 / s) HB.out.recs j
                  rw [HPER.out] at BYT RD hlen
                  generalize (recsAt per (leafR n s i l) j).flatten = tx at *
                  generalize (readPl q sN (j : Int)).1 = q2 at *
                  clear r1 r2 hkN
                  obtain ⟨kp, hkp⟩ : ∃ kp, j * per = kp := ⟨_, rfl⟩
                  have k1 : (j : Int) * (per : Int) = (kp : Int) := by rw [← hkp]; exact (Int.natCast_mul j per).symm
                  have k2 : kp ≤ 24000 := by
                    rw [← hkp]
                    exact Nat.le_trans (Nat.mul_le_mul (show j ≤ 100 by omega) (show per ≤ 240 by omega)) (by decide)
                  have k3 : (kp : Int) ≤ 24000 := by omega
                  rw [hkp] at BYT
                  obtain ⟨L, hL⟩ : ∃ L, tx.length = L := ⟨_, rfl⟩
                  have hL2 : L ≤ 240 := by omega
                  have hL3 : (L : Int) ≤ 240 := by omega
                  have HTL := Lib.hid hL
                  clear hkp hL
                  go_wp2_with fail
                  refine RD.out.mono ?_
                  rintro e wb ⟨v, rfl, ob, Sb, jb, tb, nb⟩
                  obtain ⟨Ab, cb, rfl, -⟩ := ob.form
                  rw [HTL.out] at ob ⊢
                  have OB := Lib.hid ob
                  have JC := Lib.hid jb
                  clear ob jb tb nb RD
                  go_wp2_with fail
                  go_loopw [25] (fun m wr => ∃ (jq : Nat), jq ≤ L ∧ m = .int .i64 jq ∧ Hid (Keeps wb wr)) (fun m _ => L - (intOf m).toNat)
                  case atStart => exact ⟨0, Nat.zero_le _, rfl, Lib.hid (keeps_refl _)⟩
                  case round =>
                    obtain ⟨qq, hqq, rfl, KB⟩ := hrel
                    by_cases hq : qq < L
                    · have hqi : (qq : Int) < (L : Int) := by omega
                      have hqb : (qq : Int) ≤ 240 := by omega
                      obtain ⟨g, rfl, hcell, -⟩ := (OB.out.keep KB.out).cell (j := qq) (by rw [cel_length, HTL.out]; exact hq)
                      rw [BYT.out qq (by rw [HTL.out]; exact hq)] at hcell
                      obtain ⟨qd, hqd⟩ : ∃ qd, qq / s = qd := ⟨_, rfl⟩
                      obtain ⟨qm, hqm⟩ : ∃ qm, qq % s = qm := ⟨_, rfl⟩
                      have d1 : Int.tdiv (qq : Int) (s : Int) = (qd : Int) := by rw [← hqd]; exact (Int.ofNat_tdiv qq s).symm
                      have d2 : Int.tmod (qq : Int) (s : Int) = (qm : Int) := by rw [← hqm]; exact (Int.ofNat_tmod qq s).symm
                      have d3 : (qd : Int) ≤ 240 := by have := Nat.div_le_self qq s; omega
                      have d4 : qm < s := by rw [← hqm]; exact Nat.mod_lt _ (by omega)
                      have d5 : (qm : Int) < (s : Int) := by omega
                      obtain ⟨at_, hat⟩ : ∃ at_, kp + qd = at_ := ⟨_, rfl⟩
                      have d6 : (kp : Int) + (qd : Int) = (at_ : Int) := by omega
                      rw [hqd, hqm, hat] at hcell
                      clear hqd hqm hat hq
                      rw [if_neg (fun h => NFIT.out h.1)] at hcell
                      go_wp2_with fail
                      go_roundw
                      case rel => exact ⟨qq + 1, by omega, by go_num, KB⟩
                      case measure => simp [intOf] <;> omega
                    · obtain rfl : qq = L := by omega
                      have JD := Lib.hid (JC.out.keep KB.out)
                      clear hq hqq
                      go_wp2_with fail
                      go_roundw
                      case rel => exact ⟨j + 1, q2, Sb, by omega, by go_num, JD, Lib.hid (RX.out.more (by omega)), HX⟩
                      case measure => simp [intOf] <;> omega
                · obtain rfl : j = pg := by omega
                  clear hlt hj
                  go_wp2_with fail
                  refine (WK.out _ JB.out.kp).mono ?_
                  rintro e wz ⟨rfl, kz⟩
                  have KZ := Lib.hid (keeps_trans JB.out.kp kz)
                  clear kz
                  go_wp2_with fail
                  go_ret
                  exact ⟨rfl, KZ.out⟩
          · have NFIT := Lib.hid (show ¬ (l.length = s ∧ 0 ≤ i ∧ i < (n : Int)) from fun h => f2 h.2.1)
            have e0 : ((E : Int) == 0) = false := by rw [beq_eq_false_iff_ne]; have := fun h => NFIT.out (hEf.1 h); omega
            have g2 : decide ((0 : Int) ≤ i) = false := decide_eq_false f2
            clear f1 f2 hEf
            have P8 := Lib.hid (pages_pj J8.out HZ.out R8.out (by omega) sN sN_len)
            rw [strS11, H8.out.find, leafR_len] at P8
            simp only [if_pos] at P8
            obtain ⟨pg, hpg⟩ : ∃ pg, pagesN (240 / s) n = pg := ⟨_, rfl⟩
            rw [hpg] at P8
            have hpgn : pg ≤ n := by rw [← hpg]; exact pages_le (per_pos hs) n
            have LN := Lib.hid (fun (V : World) (kk : Keeps w8 V) => slen_any PK (J8.out.keep kk) HZ.out HS.out R8.out (by decide) (by omega) (B8.out.keep kk) N8.out sN_len hs (by rw [H8.out.find, leafR_len, hpg]; simp only; omega))
            obtain ⟨l1, l2⟩ := H8.out.len (by omega)
            rw [l1, leafR_len] at LN
            have H9 := Lib.hid l2
            have R9 := Lib.hid (R8.out.lenS J8.out.dok sN s)
            have HPG := Lib.hid hpg
            generalize (lenT p8 sN s).1 = p9 at *
            clear l1 l2 hpg
            go_wp2_with fail
            refine P8.out.mono ?_
            rintro e w9 ⟨rfl, k9⟩
            have LN9 := Lib.hid (LN.out w9 k9)
            clear k9 P8 LN
            go_wp2_with fail
            refine LN9.out.mono ?_
            rintro e wa ⟨rfl, Sa, ja, ta⟩
            have JA := Lib.hid ja
            have nn0 : ((n : Int) != (n : Int)) = false := by simp
            obtain ⟨per, hper⟩ : ∃ per, 240 / s = per := ⟨_, rfl⟩
            have hpp : 0 < per := by rw [← hper]; exact per_pos hs
            have hps : per * s ≤ 240 := by rw [← hper]; exact per_le s
            have hp3 : (per : Int) ≤ 240 := by have := Nat.div_le_self 240 s; omega
            have dq : Int.tdiv 240 (s : Int) = (per : Int) := by rw [← hper]; exact (Int.ofNat_tdiv 240 s).symm
            have HPER := Lib.hid hper
            rw [hper] at HPG
            clear ja ta LN9 J8 R8 H8 B8 N8 hper
            go_wp2_with fail
            go_loopw [22] (fun k wr => ∃ (j : Nat) (q : Pst) (T : Nat → Prop), j ≤ pg ∧ k = .int .i64 j ∧ Hid (PJ K w B q T wr) ∧ Hid (Runs q 3 (1 + 2 * n + 4 + j)) ∧ Hid (HealS q s (leafR n s i l) (n + 1))) (fun k _ => pg - (intOf k).toNat)
            case atStart => exact ⟨0, p9, Sa, Nat.zero_le _, rfl, JA, Lib.hid (R9.out.more (by omega)), H9⟩
            case round =>
              clear JA R9 H9
              obtain ⟨j, q, T, hj, rfl, JB, RB, HB⟩ := hrel
              by_cases hlt : j < pg
              · have hji : (j : Int) < (pg : Int) := by omega
                have hjb : (j : Int) ≤ 100 := by omega
                have hkN : j < pagesN (240 / s) (leafR n s i l).length := by rw [leafR_len, HPER.out, HPG.out]; exact hlt
                obtain ⟨r1, r2⟩ := HB.out.read (by omega) hkN
                have RD := Lib.hid (read_pj PK JB.out HZ.out HS.out RB.out (by decide) (by omega) sN sN_len (j : Int) ⟨by omega, by omega⟩)
                rw [r1, strS11] at RD
                have RX := Lib.hid (RB.out.read JB.out.dok sN (j : Int))
                have HX := Lib.hid r2
                have BYT := Lib.hid (fun (qq : Nat) (hq : qq < (recsAt (240 / s) (leafR n s i l) j).flatten.length) => leaf_byte (k := j) (Nat.lt_of_lt_of_le Nat.zero_lt_one hs.1) HB.out.recs hq)
                have hlen := page_le (per := 240 / s) HB.out.recs j
                rw [HPER.out] at BYT RD hlen
                generalize (recsAt per (leafR n s i l) j).flatten = tx at *
                generalize (readPl q sN (j : Int)).1 = q2 at *
                clear r1 r2 hkN
                obtain ⟨kp, hkp⟩ : ∃ kp, j * per = kp := ⟨_, rfl⟩
                have k1 : (j : Int) * (per : Int) = (kp : Int) := by rw [← hkp]; exact (Int.natCast_mul j per).symm
                have k2 : kp ≤ 24000 := by
                  rw [← hkp]
                  exact Nat.le_trans (Nat.mul_le_mul (show j ≤ 100 by omega) (show per ≤ 240 by omega)) (by decide)
                have k3 : (kp : Int) ≤ 24000 := by omega
                rw [hkp] at BYT
                obtain ⟨L, hL⟩ : ∃ L, tx.length = L := ⟨_, rfl⟩
                have hL2 : L ≤ 240 := by omega
                have hL3 : (L : Int) ≤ 240 := by omega
                have HTL := Lib.hid hL
                clear hkp hL
                go_wp2_with fail
                refine RD.out.mono ?_
                rintro e wb ⟨v, rfl, ob, Sb, jb, tb, nb⟩
                obtain ⟨Ab, cb, rfl, -⟩ := ob.form
                rw [HTL.out] at ob ⊢
                have OB := Lib.hid ob
                have JC := Lib.hid jb
                clear ob jb tb nb RD
                go_wp2_with fail
                go_loopw [25] (fun m wr => ∃ (jq : Nat), jq ≤ L ∧ m = .int .i64 jq ∧ Hid (Keeps wb wr)) (fun m _ => L - (intOf m).toNat)
                case atStart => exact ⟨0, Nat.zero_le _, rfl, Lib.hid (keeps_refl _)⟩
                case round =>
                  obtain ⟨qq, hqq, rfl, KB⟩ := hrel
                  by_cases hq : qq < L
                  · have hqi : (qq : Int) < (L : Int) := by omega
                    have hqb : (qq : Int) ≤ 240 := by omega
                    obtain ⟨g, rfl, hcell, -⟩ := (OB.out.keep KB.out).cell (j := qq) (by rw [cel_length, HTL.out]; exact hq)
                    rw [BYT.out qq (by rw [HTL.out]; exact hq)] at hcell
                    obtain ⟨qd, hqd⟩ : ∃ qd, qq / s = qd := ⟨_, rfl⟩
                    obtain ⟨qm, hqm⟩ : ∃ qm, qq % s = qm := ⟨_, rfl⟩
                    have d1 : Int.tdiv (qq : Int) (s : Int) = (qd : Int) := by rw [← hqd]; exact (Int.ofNat_tdiv qq s).symm
                    have d2 : Int.tmod (qq : Int) (s : Int) = (qm : Int) := by rw [← hqm]; exact (Int.ofNat_tmod qq s).symm
                    have d3 : (qd : Int) ≤ 240 := by have := Nat.div_le_self qq s; omega
                    have d4 : qm < s := by rw [← hqm]; exact Nat.mod_lt _ (by omega)
                    have d5 : (qm : Int) < (s : Int) := by omega
                    obtain ⟨at_, hat⟩ : ∃ at_, kp + qd = at_ := ⟨_, rfl⟩
                    have d6 : (kp : Int) + (qd : Int) = (at_ : Int) := by omega
                    rw [hqd, hqm, hat] at hcell
                    clear hqd hqm hat hq
                    rw [if_neg (fun h => NFIT.out h.1)] at hcell
                    go_wp2_with fail
                    go_roundw
                    case rel => exact ⟨qq + 1, by omega, by go_num, KB⟩
                    case measure => simp [intOf] <;> omega
                  · obtain rfl : qq = L := by omega
                    have JD := Lib.hid (JC.out.keep KB.out)
                    clear hq hqq
                    go_wp2_with fail
                    go_roundw
                    case rel => exact ⟨j + 1, q2, Sb, by omega, by go_num, JD, Lib.hid (RX.out.more (by omega)), HX⟩
                    case measure => simp [intOf] <;> omega
              · obtain rfl : j = pg := by omega
                clear hlt hj
                go_wp2_with fail
                refine (WK.out _ JB.out.kp).mono ?_
                rintro e wz ⟨rfl, kz⟩
                have KZ := Lib.hid (keeps_trans JB.out.kp kz)
                clear kz
                go_wp2_with fail
                go_ret
                exact ⟨rfl, KZ.out⟩
        · have NFIT := Lib.hid (show ¬ (l.length = s ∧ 0 ≤ i ∧ i < (n : Int)) from fun h => f1 h.1)
          have g1 : ((len : Int) == (s : Int)) = false := by rw [beq_eq_false_iff_ne]; have := HLEN.out; omega
          have e0 : ((E : Int) == 0) = false := by rw [beq_eq_false_iff_ne]; have := fun h => NFIT.out (hEf.1 h); omega
          clear f1 hEf
          have P8 := Lib.hid (pages_pj J8.out HZ.out R8.out (by omega) sN sN_len)
          rw [strS11, H8.out.find, leafR_len] at P8
          simp only [if_pos] at P8
          obtain ⟨pg, hpg⟩ : ∃ pg, pagesN (240 / s) n = pg := ⟨_, rfl⟩
          rw [hpg] at P8
          have hpgn : pg ≤ n := by rw [← hpg]; exact pages_le (per_pos hs) n
          have LN := Lib.hid (fun (V : World) (kk : Keeps w8 V) => slen_any PK (J8.out.keep kk) HZ.out HS.out R8.out (by decide) (by omega) (B8.out.keep kk) N8.out sN_len hs (by rw [H8.out.find, leafR_len, hpg]; simp only; omega))
          obtain ⟨l1, l2⟩ := H8.out.len (by omega)
          rw [l1, leafR_len] at LN
          have H9 := Lib.hid l2
          have R9 := Lib.hid (R8.out.lenS J8.out.dok sN s)
          have HPG := Lib.hid hpg
          generalize (lenT p8 sN s).1 = p9 at *
          clear l1 l2 hpg
          go_wp2_with fail
          refine P8.out.mono ?_
          rintro e w9 ⟨rfl, k9⟩
          have LN9 := Lib.hid (LN.out w9 k9)
          clear k9 P8 LN
          go_wp2_with fail
          refine LN9.out.mono ?_
          rintro e wa ⟨rfl, Sa, ja, ta⟩
          have JA := Lib.hid ja
          have nn0 : ((n : Int) != (n : Int)) = false := by simp
          obtain ⟨per, hper⟩ : ∃ per, 240 / s = per := ⟨_, rfl⟩
          have hpp : 0 < per := by rw [← hper]; exact per_pos hs
          have hps : per * s ≤ 240 := by rw [← hper]; exact per_le s
          have hp3 : (per : Int) ≤ 240 := by have := Nat.div_le_self 240 s; omega
          have dq : Int.tdiv 240 (s : Int) = (per : Int) := by rw [← hper]; exact (Int.ofNat_tdiv 240 s).symm
          have HPER := Lib.hid hper
          rw [hper] at HPG
          clear ja ta LN9 J8 R8 H8 B8 N8 hper
          go_wp2_with fail
          go_loopw [22] (fun k wr => ∃ (j : Nat) (q : Pst) (T : Nat → Prop), j ≤ pg ∧ k = .int .i64 j ∧ Hid (PJ K w B q T wr) ∧ Hid (Runs q 3 (1 + 2 * n + 4 + j)) ∧ Hid (HealS q s (leafR n s i l) (n + 1))) (fun k _ => pg - (intOf k).toNat)
          case atStart => exact ⟨0, p9, Sa, Nat.zero_le _, rfl, JA, Lib.hid (R9.out.more (by omega)), H9⟩
          case round =>
            clear JA R9 H9
            obtain ⟨j, q, T, hj, rfl, JB, RB, HB⟩ := hrel
            by_cases hlt : j < pg
            · have hji : (j : Int) < (pg : Int) := by omega
              have hjb : (j : Int) ≤ 100 := by omega
              have hkN : j < pagesN (240 / s) (leafR n s i l).length := by rw [leafR_len, HPER.out, HPG.out]; exact hlt
              obtain ⟨r1, r2⟩ := HB.out.read (by omega) hkN
              have RD := Lib.hid (read_pj PK JB.out HZ.out HS.out RB.out (by decide) (by omega) sN sN_len (j : Int) ⟨by omega, by omega⟩)
              rw [r1, strS11] at RD
              have RX := Lib.hid (RB.out.read JB.out.dok sN (j : Int))
              have HX := Lib.hid r2
              have BYT := Lib.hid (fun (qq : Nat) (hq : qq < (recsAt (240 / s) (leafR n s i l) j).flatten.length) => leaf_byte (k := j) (Nat.lt_of_lt_of_le Nat.zero_lt_one hs.1) HB.out.recs hq)
              have hlen := page_le (per := 240 / s) HB.out.recs j
              rw [HPER.out] at BYT RD hlen
              generalize (recsAt per (leafR n s i l) j).flatten = tx at *
              generalize (readPl q sN (j : Int)).1 = q2 at *
              clear r1 r2 hkN
              obtain ⟨kp, hkp⟩ : ∃ kp, j * per = kp := ⟨_, rfl⟩
              have k1 : (j : Int) * (per : Int) = (kp : Int) := by rw [← hkp]; exact (Int.natCast_mul j per).symm
              have k2 : kp ≤ 24000 := by
                rw [← hkp]
                exact Nat.le_trans (Nat.mul_le_mul (show j ≤ 100 by omega) (show per ≤ 240 by omega)) (by decide)
              have k3 : (kp : Int) ≤ 24000 := by omega
              rw [hkp] at BYT
              obtain ⟨L, hL⟩ : ∃ L, tx.length = L := ⟨_, rfl⟩
              have hL2 : L ≤ 240 := by omega
              have hL3 : (L : Int) ≤ 240 := by omega
              have HTL := Lib.hid hL
              clear hkp hL
              go_wp2_with fail
              refine RD.out.mono ?_
              rintro e wb ⟨v, rfl, ob, Sb, jb, tb, nb⟩
              obtain ⟨Ab, cb, rfl, -⟩ := ob.form
              rw [HTL.out] at ob ⊢
              have OB := Lib.hid ob
              have JC := Lib.hid jb
              clear ob jb tb nb RD
              go_wp2_with fail
              go_loopw [25] (fun m wr => ∃ (jq : Nat), jq ≤ L ∧ m = .int .i64 jq ∧ Hid (Keeps wb wr)) (fun m _ => L - (intOf m).toNat)
              case atStart => exact ⟨0, Nat.zero_le _, rfl, Lib.hid (keeps_refl _)⟩
              case round =>
                obtain ⟨qq, hqq, rfl, KB⟩ := hrel
                by_cases hq : qq < L
                · have hqi : (qq : Int) < (L : Int) := by omega
                  have hqb : (qq : Int) ≤ 240 := by omega
                  obtain ⟨g, rfl, hcell, -⟩ := (OB.out.keep KB.out).cell (j := qq) (by rw [cel_length, HTL.out]; exact hq)
                  rw [BYT.out qq (by rw [HTL.out]; exact hq)] at hcell
                  obtain ⟨qd, hqd⟩ : ∃ qd, qq / s = qd := ⟨_, rfl⟩
                  obtain ⟨qm, hqm⟩ : ∃ qm, qq % s = qm := ⟨_, rfl⟩
                  have d1 : Int.tdiv (qq : Int) (s : Int) = (qd : Int) := by rw [← hqd]; exact (Int.ofNat_tdiv qq s).symm
                  have d2 : Int.tmod (qq : Int) (s : Int) = (qm : Int) := by rw [← hqm]; exact (Int.ofNat_tmod qq s).symm
                  have d3 : (qd : Int) ≤ 240 := by have := Nat.div_le_self qq s; omega
                  have d4 : qm < s := by rw [← hqm]; exact Nat.mod_lt _ (by omega)
                  have d5 : (qm : Int) < (s : Int) := by omega
                  obtain ⟨at_, hat⟩ : ∃ at_, kp + qd = at_ := ⟨_, rfl⟩
                  have d6 : (kp : Int) + (qd : Int) = (at_ : Int) := by omega
                  rw [hqd, hqm, hat] at hcell
                  clear hqd hqm hat hq
                  rw [if_neg (fun h => NFIT.out h.1)] at hcell
                  go_wp2_with fail
                  go_roundw
                  case rel => exact ⟨qq + 1, by omega, by go_num, KB⟩
                  case measure => simp [intOf] <;> omega
                · obtain rfl : qq = L := by omega
                  have JD := Lib.hid (JC.out.keep KB.out)
                  clear hq hqq
                  go_wp2_with fail
                  go_roundw
                  case rel => exact ⟨j + 1, q2, Sb, by omega, by go_num, JD, Lib.hid (RX.out.more (by omega)), HX⟩
                  case measure => simp [intOf] <;> omega
            · obtain rfl : j = pg := by omega
              clear hlt hj
              go_wp2_with fail
              refine (WK.out _ JB.out.kp).mono ?_
              rintro e wz ⟨rfl, kz⟩
              have KZ := Lib.hid (keeps_trans JB.out.kp kz)
              clear kz
              go_wp2_with fail
              go_ret
              exact ⟨rfl, KZ.out⟩
end Go.Proofs.YtmholhjdpkfleaaDoor
/- StreamShape. (Written by mkshape11.py.) -/
namespace Go.Proofs.YtmholhjdpkfleaaDoor
open Go.RowKit
set_option linter.unusedSimpArgs false
set_option linter.unusedVariables false
set_option maxRecDepth 100000

section
variable {K : DiskOk} {w0 w w' : World} {B : PB} {S : Nat → Prop} {p : Pst} {sb size : Nat} {nm : List UInt8}
theorem PJ.grown_ (h : PJ K w0 B p S w) {row : Option Nat} (hg : w.grownBy w' row) (hr : ∀ g, row = some g → w0.heap.size ≤ g ∧ ¬ S g) : PJ K w0 B p S w' :=
  (stay_pool K w0 B p).turn (T := fun i => row = some i) h ((Only.refl w _).grown hg (fun g hg => .inl hg)) (fun i hi => hr i hi)
theorem StrAt.grown_ {pb : Nat} (h : StrAt w sb pb nm size) {base n : Nat} {v : Value} {xs : List Value} (o : Own w base 5 1 v n xs) (hg : w.grownBy w' v.ownBlock) : StrAt w' sb pb nm size :=
  Box.only_ h ((Only.refl w (fun i => v.ownBlock = some i)).grown hg (fun g hg => .inl hg)) (fun e => o.not_box h str_u8 e)
/-- a byte that is reckoned is some byte -/
theorem some_byte (z : Int) : ∃ u : UInt8, z % 256 = (u.toNat : Int) := by
  refine ⟨UInt8.ofNat (z % 256).toNat, ?_⟩
  have : (UInt8.ofNat (z % 256).toNat).toNat = (z % 256).toNat := by simp; omega
  rw [this]
  omega
theorem own_fresh (w : World) (e : TypeId) (n : Nat) (xs : List Value) (h : xs.length = n) (hm : n ≤ maxLen) : Own (w.alloc (.cells xs.toArray e)) w.heap.size e 1 (.slice (some ⟨w.heap.size, 0, none⟩) n n) n xs :=
  ⟨by rw [h, Nat.mul_one], .inr ⟨w.heap.size, n, xs.toArray, (0, 0), rfl, Nat.le_refl _, heap_alloc_new w _, .inl rfl, Nat.le_refl _, hm, by simp [h], by simp [← h]⟩⟩
theorem keeps_put_ {W w6 : World} (k : Keeps W w6) {a : Addr} (h : W.heap.size ≤ a.block) (v : Value) : Keeps W (w6.setCell a v) :=
  ⟨k.os, k.tape, k.output, Nat.le_trans k.size (by simp), fun i hi => (Below.heap_setCell w6 a v i (by omega)).trans (k.block i hi)⟩
/-- where a row that grew may lie -/
theorem far_grown {S : Nat → Prop} {v v2 : Value} {z : Nat} (h : v2.ownBlock = v.ownBlock ∨ v2.ownBlock = some z) (hv : ∀ g, v.ownBlock = some g → ¬ S g) (hz : ¬ S z) : ∀ g, v2.ownBlock = some g → ¬ S g := fun g hg => by
  rcases h with e | e
  · exact hv g (by rw [← e]; exact hg)
  · rw [e] at hg
    injection hg with hg
    rw [← hg]
    exact hz
theorem take_flat_le {rs : List (List UInt8)} {s : Nat} (h : ∀ r ∈ rs, r.length = s) (k : Nat) : (rs.take k).flatten.length ≤ rs.length * s := by
  rw [flat_len (fun r hr => h r (List.mem_of_mem_take hr)), List.length_take]
  exact Nat.mul_le_mul_right _ (Nat.min_le_right _ _)
theorem cel_set11 (l : List UInt8) (j : Nat) (u : UInt8) : (cel l).set j (.int .u8 (u.toNat : Int)) = cel (l.set j u) := by simp [cel, List.map_set]
end
set_option maxHeartbeats 64000000 in
theorem shape11_walk (K : DiskOk) (PK : PageOk) (x y f : Nat) (hx : x < 256) (hy : y < 256) (hf : f < 256) (w : World) (hZ : K.Z w) (hS : Sizes w) :
    Calls Tryd.prog 5 #[.int .u8 (x : Int), .int .u8 (y : Int), .int .u8 (f : Int)] w (Yes11 w) := by
  have WK := Lib.hid (fun (W : World) (q : Keeps w W) => works11 K PK W (K.keep hZ q) (hS.keep q))
  obtain ⟨i0, hi, hz0, hz1, hz2⟩ := info_parts info_u8s
  obtain ⟨n, hn⟩ : ∃ n : Nat, y % 201 = n := ⟨_, rfl⟩
  have hn1 : n ≤ 200 := by omega
  obtain ⟨r, hr⟩ : ∃ r : Nat, x % 240 = r := ⟨_, rfl⟩
  obtain ⟨s, hse⟩ : ∃ s : Nat, 1 + r = s := ⟨_, rfl⟩
  have hs : 1 ≤ s ∧ s ≤ 240 := by omega
  have c1 : IntKind.i64.wrap (x : Int) = (x : Int) := IntWalk.i64_in _ (by omega)
  have c2 : IntKind.i64.wrap (y : Int) = (y : Int) := IntWalk.i64_in _ (by omega)
  have c3 : Int.tmod (y : Int) 201 = (n : Int) := by rw [← hn]; exact (Int.ofNat_tmod y 201).symm
  have c4 : Int.tmod (x : Int) 240 = (r : Int) := by rw [← hr]; exact (Int.ofNat_tmod x 240).symm
  have c5 : (1 : Int) + (r : Int) = (s : Int) := by omega
  have c6 : (r : Int) ≤ 240 := by omega
  have BG := Lib.hid (begun_any K w hZ (n := 3) (size := s) ⟨by decide, by decide⟩ hs)
  have hmk := run_make_row' (P := Tryd.prog) 31 5 (.int .u8 0) 1 Tryd.underlying31 info_u8s rfl .i64 .i64 s (by omega) (by omega)
  have HZ := Lib.hid hZ
  have HS := Lib.hid hS
  clear hZ hS hn hr hse hx hy
  go_enter Tryd.func5, Tryd.ntmps5
  go_wp2_with fail
  refine BG.out.mono ?_
  rintro e w1 ⟨B, S, p, sb, rfl, hJ, hBx, hnS, hlt, hR, hH⟩
  have J1 := Lib.hid hJ
  have B1 := Lib.hid hBx
  have N1 := Lib.hid hnS
  have R1 := Lib.hid hR
  have H1 := Lib.hid hH
  clear hJ hBx hnS hlt hR hH BG c1 c2 c3 c4 c5 c6
  go_wp2_with fail
  go_loopw [12, 13] (fun v k wr => ∃ (j : Nat) (q : Pst) (T : Nat → Prop) (rs : List (List UInt8)) (av : Value), j ≤ n ∧ k = .int .i64 j ∧ av = v ∧ Hid (rs.length = j) ∧ Hid (PJ K w B q T wr) ∧ Hid (StrAt wr sb B.pb sN s) ∧ Hid (¬ T sb) ∧ Hid (Runs q 3 (1 + 2 * j)) ∧ Hid (HealS q s rs j) ∧ Hid (Own wr w.heap.size 5 1 av (j * s) (cel rs.flatten)) ∧ Hid (∀ g, av.ownBlock = some g → ¬ T g)) (fun _ k _ => n - (intOf k).toNat)
  case atStart => exact ⟨0, p, S, [], _, Nat.zero_le _, rfl, rfl, Lib.hid rfl, J1, B1, N1, R1, H1, Lib.hid (by rw [Nat.zero_mul]; exact Own.nil _ _ _ _), Lib.hid (fun g hg => by cases hg)⟩
  case round =>
    clear J1 B1 N1 R1 H1
    rename World => wo
    obtain ⟨j, q, T, rs, av, hj, rfl, rfl, RL, J2, B2, N2, R2, H2, A2, F2⟩ := hrel
    by_cases hlt : j < n
    · have hji : (j : Int) < (n : Int) := by omega
      have hjb : (j : Int) ≤ 200 := by omega
      have kb := keeps_alloc wo (.cells (madeCells #[Value.int .u8 0] s) 5)
      have OZ := Lib.hid (show Own (wo.alloc (.cells (madeCells #[Value.int .u8 0] s) 5)) wo.heap.size 5 1 (.slice (some ⟨wo.heap.size, 0, none⟩) s s) s (cel (List.replicate s 0)) by
        rw [made_zero]
        exact own_fresh wo 5 s (cel (List.replicate s 0)) (by rw [cel_length, List.length_replicate]) (by unfold maxLen; omega))
      have KB := Lib.hid kb
      have HA := Lib.hid (show wo.heap.size < (wo.alloc (.cells (madeCells #[Value.int .u8 0] s) 5)).heap.size by simp)
      clear kb
      go_wp2_with fail
      go_loopw [15] (fun m wr => ∃ (jq : Nat) (l : List UInt8), jq ≤ s ∧ m = .int .i64 jq ∧ Hid (l.length = s) ∧ Hid (Own wr wo.heap.size 5 1 (.slice (some ⟨wo.heap.size, 0, none⟩) s s) s (cel l)) ∧ Hid (Keeps wo wr)) (fun m _ => s - (intOf m).toNat)
      case atStart => exact ⟨0, _, Nat.zero_le _, rfl, Lib.hid (List.length_replicate ..), OZ, KB⟩
      case round =>
        clear OZ KB HA
        obtain ⟨m, l, hm, rfl, LL, OL, KL⟩ := hrel
        by_cases hq : m < s
        · have hqi : (m : Int) < (s : Int) := by omega
          have hqb : (m : Int) ≤ 240 := by omega
          obtain ⟨g, hg, hcell, hfz, -⟩ := OL.out.cell (j := m) (by rw [cel_length, LL.out]; exact hq)
          obtain rfl : wo.heap.size = g := by injection hg with hg; injection hg
          obtain ⟨u0, hu0⟩ : ∃ u, (cel l)[m]? = some u := ⟨_, List.getElem?_eq_getElem (by rw [cel_length, LL.out]; exact hq)⟩
          rw [hu0] at hcell
          obtain ⟨u2, hu2⟩ := some_byte ((f : Int) + (j : Int) + 3 * (m : Int))
          have NX := Lib.hid (show Own (wr.setCell ⟨wo.heap.size, m, none⟩ (.int .u8 (((f : Int) + (j : Int) + 3 * (m : Int)) % 256))) wo.heap.size 5 1 (.slice (some ⟨wo.heap.size, 0, none⟩) s s) s (cel (l.set m u2)) by
            rw [hu2, ← cel_set11]
            exact OL.out.store (j := m) (by rw [cel_length, LL.out]; exact hq) _)
          have NL := Lib.hid (show (l.set m u2).length = s by rw [List.length_set]; exact LL.out)
          have NK := Lib.hid (show Keeps wo (wr.setCell ⟨wo.heap.size, m, none⟩ (.int .u8 (((f : Int) + (j : Int) + 3 * (m : Int)) % 256))) from keeps_put_ KL.out (a := ⟨wo.heap.size, m, none⟩) (Nat.le_refl _) _)
          clear hu0 hu2 hg hq
          go_wp2_with fail
          go_roundw
          case rel => exact ⟨m + 1, l.set m u2, by omega, by go_num, NL, NX, NK⟩
          case measure => simp [intOf] <;> omega
        · obtain rfl : m = s := by omega
          have hjs : j * m ≤ 48000 := Nat.le_trans (Nat.mul_le_mul (show j ≤ 200 by omega) (show m ≤ 240 by omega)) (by decide)
          have hjm : (j + 1) * m = j * m + m := Nat.succ_mul j m
          clear hq hm
          go_wp2_with (at_builtin; refine wpList_app _ rfl _ _ 31 rfl w.heap.size 5 i0 (.int .u8 0) 1 1 Tryd.underlying31 hi hz0 hz1 hz2 rfl (by decide) _ (j * m) (cel rs.flatten) rfl (A2.out.keep KL.out) _ (some ⟨wo.heap.size, 0, none⟩) m m (cel l) rfl (by rw [cel_length, LL.out, Nat.mul_one]) OL.out.at_ (cel_one l) (by unfold maxLen; omega) (by omega) (Nat.le_trans J2.out.kp.size KL.out.size) ?_; intro v2 w2 ho2 hg2 hb2; have J3 := Lib.hid ((J2.out.keep KL.out).grown_ hg2 (fun g hg => ⟨(A2.out.lt g hg).1, F2.out g hg⟩)); have B3 := Lib.hid ((B2.out.keep KL.out).grown_ (A2.out.keep KL.out) hg2); have O3 := Lib.hid (OL.out.grown hg2 (.inr (fun e => by have h1 := (A2.out.lt _ e.symm).2; exact Nat.lt_irrefl _ h1))); have A3 := Lib.hid ho2; have F3 := Lib.hid (far_grown hb2 F2.out (fun e => by have h1 := J2.out.lt _ e; have h2 := KL.out.size; omega)); have NS3 := Lib.hid (show ¬ T wo.heap.size from fun e => Nat.lt_irrefl _ (J2.out.lt _ e)); have AA := H2.out.add (r := l) (by omega) LL.out; have AD := Lib.hid (sadd_any PK J3.out HZ.out HS.out R2.out (by decide) (by omega) B3.out N2.out sN_len hs (by rw [H2.out.find, RL.out]; have := pages_le (per_pos hs) j; simp only; omega) (nr := m) (cr := m) (show Bs w2 (some ⟨wo.heap.size, 0, none⟩) l from O3.out.at_) (fun ad h hF => by cases h; exact NS3.out hF) LL.out.symm (by omega)); rw [AA.1] at AD; have H3 := Lib.hid AA.2; clear ho2 hg2 hb2 AA)
          generalize (addT q sN m l).1 = q2 at *
          refine AD.out.mono ?_
          rintro e w3 ⟨rfl, ⟨S3, j3, t3⟩, r3⟩
          have J4 := Lib.hid j3
          have B4 := Lib.hid (B3.out.turn t3 N2.out)
          have N4 := Lib.hid (t3.notIn B3.out.lt N2.out)
          have R4 := Lib.hid r3
          obtain ⟨a1, a2⟩ := own_far A3.out F3.out t3
          have A4 := Lib.hid a1
          have F4 := Lib.hid a2
          clear j3 t3 r3 AD a1 a2 J3 B3 O3 A3 F3 NS3
          go_wp2_with fail
          go_roundw
          case rel => exact ⟨j + 1, q2, S3, rs ++ [l], _, by omega, by go_num, rfl, Lib.hid (by rw [List.length_append, RL.out]; rfl), J4, B4, N4, Lib.hid (R4.out.more (by omega)), H3, Lib.hid (by rw [hjm, List.flatten_append, cel_append]; simpa using A4.out), F4⟩
          case measure => simp [intOf] <;> omega
    · obtain rfl : j = n := by omega
      have P8 := Lib.hid (pages_pj J2.out HZ.out R2.out (by omega) sN sN_len)
      rw [strS11, H2.out.find, RL.out] at P8
      simp only [if_pos] at P8
      obtain ⟨pg, hpg⟩ : ∃ pg, pagesN (240 / s) j = pg := ⟨_, rfl⟩
      rw [hpg] at P8
      have hpgn : pg ≤ j := by rw [← hpg]; exact pages_le (per_pos hs) j
      obtain ⟨per, hper⟩ : ∃ per, 240 / s = per := ⟨_, rfl⟩
      have hpp : 0 < per := by rw [← hper]; exact per_pos hs
      have hps : per * s ≤ 240 := by rw [← hper]; exact per_le s
      have hp4 : per ≤ 240 := by rw [← hper]; exact Nat.div_le_self 240 s
      have hp3 : (per : Int) ≤ 240 := by omega
      have dq : Int.tdiv 240 (s : Int) = (per : Int) := by rw [← hper]; exact (Int.ofNat_tdiv 240 s).symm
      rw [hper] at hpg
      have dq2 : Int.tdiv ((j : Int) + (per : Int) - 1) (per : Int) = (pg : Int) := by
        rw [← hpg, show ((j : Int) + (per : Int) - 1) = ((j + per - 1 : Nat) : Int) by omega]
        exact (Int.ofNat_tdiv _ _).symm
      have nn0 : ((pg : Int) != (pg : Int)) = false := by simp
      have p0 : ((per : Int) == 0) = false := by rw [beq_eq_false_iff_ne]; omega
      have p1 : (per : Int) ≠ 0 := by omega
      have p2 : (1 : Int) ≤ (per : Int) := by omega
      have sn0 : (s : Int) ≠ 0 := by omega
      have sn1 : ((s : Int) == 0) = false := by rw [beq_eq_false_iff_ne]; omega
      obtain ⟨ps, hpse⟩ : ∃ ps, per * s = ps := ⟨_, rfl⟩
      have d1 : (per : Int) * (s : Int) = (ps : Int) := by rw [← hpse]; exact (Int.natCast_mul per s).symm
      have d2 : (ps : Int) ≤ 240 := by omega
      have HPER := Lib.hid hper
      have HPG := Lib.hid hpg
      have HPS := Lib.hid hpse
      have RECS := Lib.hid H2.out.recs
      have hjs : j * s ≤ 48000 := Nat.le_trans (Nat.mul_le_mul (show j ≤ 200 by omega) hs.2) (by decide)
      clear hlt hj hpg hper hpse
      go_wp2_with fail
      refine P8.out.mono ?_
      rintro e wc ⟨rfl, kc⟩
      have JC := Lib.hid (J2.out.keep kc)
      have AC := Lib.hid (A2.out.keep kc)
      have LTA := Lib.hid (show ∀ g, av.ownBlock = some g → g < wc.heap.size from fun g hg => (AC.out.lt g hg).2)
      have KC := Lib.hid JC.out.kp.size
      clear kc P8 J2 A2 B2 N2
      go_wp2_with fail
      go_loopw [19, 20] (fun v k wr => ∃ (i : Nat) (q : Pst) (T : Nat → Prop) (gv : Value), i ≤ pg ∧ k = .int .i64 i ∧ gv = v ∧ Hid (PJ K w B q T wr) ∧ Hid (Runs q 3 (1 + 2 * j + i)) ∧ Hid (HealS q s rs j) ∧ Hid (Own wr wc.heap.size 5 1 gv (rs.take (i * per)).flatten.length (cel (rs.take (i * per)).flatten)) ∧ Hid (∀ g, gv.ownBlock = some g → ¬ T g) ∧ Hid (Own wr w.heap.size 5 1 av (j * s) (cel rs.flatten)) ∧ Hid (∀ g, av.ownBlock = some g → ¬ T g) ∧ Hid (wc.heap.size ≤ wr.heap.size)) (fun _ k _ => pg - (intOf k).toNat)
      case atStart => exact ⟨0, q, T, _, Nat.zero_le _, rfl, rfl, JC, R2, H2, Lib.hid (by rw [Nat.zero_mul]; exact Own.nil _ _ _ _), Lib.hid (fun g hg => by cases hg), AC, F2, Lib.hid (Nat.le_refl _)⟩
      case round =>
        clear JC R2 H2 AC F2
        obtain ⟨i, q, T, gv, hj, rfl, rfl, JB, RB, HB, GB, FG, AB, FA, GBS⟩ := hrel
        by_cases hlt : i < pg
        · have hii : (i : Int) < (pg : Int) := by omega
          have hib : (i : Int) ≤ 200 := by omega
          have hkN : i < pagesN (240 / s) rs.length := by rw [RL.out, HPER.out, HPG.out]; exact hlt
          obtain ⟨r1, r2⟩ := HB.out.read (by omega) hkN
          have RD := Lib.hid (read_pj PK JB.out HZ.out HS.out RB.out (by decide) (by omega) sN sN_len (i : Int) ⟨by omega, by omega⟩)
          rw [r1, strS11] at RD
          have RX := Lib.hid (RB.out.read JB.out.dok sN (i : Int))
          have HX := Lib.hid r2
          have hle := page_le (per := 240 / s) HB.out.recs i
          have hln := page_len (per := 240 / s) HB.out.recs i
          have TP := Lib.hid (take_page (per := per) rs i)
          have XL := take_flat_le HB.out.recs (i * per)
          have XL2 := take_flat_le HB.out.recs ((i + 1) * per)
          rw [RL.out] at XL XL2
          rw [HPER.out] at RD hle hln
          rw [RL.out] at hln
          have hk1 := (pagesN_lt (k := i) (n := j) hpp).1 (by rw [HPG.out]; exact hlt)
          have hpos : 0 < (recsAt per rs i).flatten.length := by
            rw [hln]
            exact Nat.mul_pos (by omega) (by omega)
          have hful : i + 1 < pg → (recsAt per rs i).flatten.length = ps := fun h => by
            have h2 := (pagesN_lt (k := i + 1) (n := j) hpp).1 (by rw [HPG.out]; exact h)
            rw [Nat.succ_mul] at h2
            rw [hln, ← HPS.out, Nat.min_eq_left (by omega)]
          rw [HPS.out] at hle
          have TL := Lib.hid (show (rs.take ((i + 1) * per)).flatten.length = (rs.take (i * per)).flatten.length + (recsAt per rs i).flatten.length by rw [← take_page, List.length_append])
          generalize (recsAt per rs i).flatten = tx at *
          generalize (readPl q sN (i : Int)).1 = q2 at *
          obtain ⟨XX, hXX⟩ : ∃ XX, (rs.take (i * per)).flatten = XX := ⟨_, rfl⟩
          rw [hXX] at GB TP XL TL
          obtain ⟨L, hL⟩ : ∃ L, tx.length = L := ⟨_, rfl⟩
          rw [hL] at hle hpos hful TL
          have l1 : (L : Int) ≤ (ps : Int) := by omega
          have l2 : ((L : Int) == 0) = false := by rw [beq_eq_false_iff_ne]; omega
          have l3 : decide ((ps : Int) < (L : Int)) = false := decide_eq_false (by omega)
          have HTL := Lib.hid hL
          have XLL := Lib.hid XL
          clear r1 r2 hkN hk1 hln hXX hL
          by_cases hlast : i + 1 < pg
          · have g1 : (i : Int) < (pg : Int) - 1 := by omega
            have g2 : ((L : Int) != (ps : Int)) = false := by rw [hful hlast]; simp
            clear hful hlast
            go_wp2_with fail
            refine RD.out.mono ?_
            rintro e wb ⟨v, rfl, ob, Sb, jb, tb, nb⟩
            obtain ⟨Ab, cb, rfl, -⟩ := ob.form
            rw [HTL.out] at ob ⊢
            have OB := Lib.hid ob
            have JD := Lib.hid jb
            obtain ⟨a1, a2⟩ := own_far GB.out FG.out tb
            obtain ⟨a3, a4⟩ := own_far AB.out FA.out tb
            have GD := Lib.hid a1
            have FGD := Lib.hid a2
            have AD := Lib.hid a3
            have FAD := Lib.hid a4
            have WBS := Lib.hid (show wc.heap.size ≤ wb.heap.size from Nat.le_trans GBS.out tb.only.size)
            clear ob jb tb nb RD a1 a2 a3 a4 GB FG AB FA JB
            go_wp2_with (at_builtin; refine wpList_app _ rfl _ _ 31 rfl wc.heap.size 5 i0 (.int .u8 0) 1 1 Tryd.underlying31 hi hz0 hz1 hz2 rfl (by decide) _ XX.length (cel XX) rfl GD.out _ Ab L cb (cel tx) rfl (by rw [cel_length, HTL.out, Nat.mul_one]) OB.out.at_ (cel_one tx) (by have := XLL.out; unfold maxLen; omega) (by have := XLL.out; omega) WBS.out ?_; intro v2 w2 ho2 hg2 hb2; have JE := Lib.hid (JD.out.grown_ hg2 (fun g hg => ⟨Nat.le_trans KC.out (GD.out.lt g hg).1, FGD.out g hg⟩)); have GE := Lib.hid (show Own w2 wc.heap.size 5 1 v2 (rs.take ((i + 1) * per)).flatten.length (cel (rs.take ((i + 1) * per)).flatten) by rw [TL.out, ← TP.out, cel_append]; exact ho2); have FGE := Lib.hid (far_grown hb2 FGD.out (fun e => Nat.lt_irrefl _ (JD.out.lt _ e))); have AE := Lib.hid (AD.out.grown hg2 (by
                cases ha : av.ownBlock with
                | none => exact .inl rfl
                | some g => exact .inr (fun e => by
                    have h1 := LTA.out g ha
                    have h2 := (GD.out.lt g e.symm).1
                    omega))); have WES := Lib.hid (Nat.le_trans WBS.out hg2.size); clear ho2 hg2 hb2)
            go_roundw
            case rel => exact ⟨i + 1, q2, Sb, _, by omega, by go_num, rfl, JE, Lib.hid (RX.out.more (by omega)), HX, GE, FGE, AE, FAD, WES⟩
            case measure => simp [intOf] <;> omega
          · have g1 : decide ((i : Int) < (pg : Int) - 1) = false := decide_eq_false (by omega)
            clear hful
            go_wp2_with fail
            refine RD.out.mono ?_
            rintro e wb ⟨v, rfl, ob, Sb, jb, tb, nb⟩
            obtain ⟨Ab, cb, rfl, -⟩ := ob.form
            rw [HTL.out] at ob ⊢
            have OB := Lib.hid ob
            have JD := Lib.hid jb
            obtain ⟨a1, a2⟩ := own_far GB.out FG.out tb
            obtain ⟨a3, a4⟩ := own_far AB.out FA.out tb
            have GD := Lib.hid a1
            have FGD := Lib.hid a2
            have AD := Lib.hid a3
            have FAD := Lib.hid a4
            have WBS := Lib.hid (show wc.heap.size ≤ wb.heap.size from Nat.le_trans GBS.out tb.only.size)
            clear ob jb tb nb RD a1 a2 a3 a4 GB FG AB FA JB
            go_wp2_with (at_builtin; refine wpList_app _ rfl _ _ 31 rfl wc.heap.size 5 i0 (.int .u8 0) 1 1 Tryd.underlying31 hi hz0 hz1 hz2 rfl (by decide) _ XX.length (cel XX) rfl GD.out _ Ab L cb (cel tx) rfl (by rw [cel_length, HTL.out, Nat.mul_one]) OB.out.at_ (cel_one tx) (by have := XLL.out; unfold maxLen; omega) (by have := XLL.out; omega) WBS.out ?_; intro v2 w2 ho2 hg2 hb2; have JE := Lib.hid (JD.out.grown_ hg2 (fun g hg => ⟨Nat.le_trans KC.out (GD.out.lt g hg).1, FGD.out g hg⟩)); have GE := Lib.hid (show Own w2 wc.heap.size 5 1 v2 (rs.take ((i + 1) * per)).flatten.length (cel (rs.take ((i + 1) * per)).flatten) by rw [TL.out, ← TP.out, cel_append]; exact ho2); have FGE := Lib.hid (far_grown hb2 FGD.out (fun e => Nat.lt_irrefl _ (JD.out.lt _ e))); have AE := Lib.hid (AD.out.grown hg2 (by
                cases ha : av.ownBlock with
                | none => exact .inl rfl
                | some g => exact .inr (fun e => by
                    have h1 := LTA.out g ha
                    have h2 := (GD.out.lt g e.symm).1
                    omega))); have WES := Lib.hid (Nat.le_trans WBS.out hg2.size); clear ho2 hg2 hb2)
            go_roundw
            case rel => exact ⟨i + 1, q2, Sb, _, by omega, by go_num, rfl, JE, Lib.hid (RX.out.more (by omega)), HX, GE, FGE, AE, FAD, WES⟩
            case measure => simp [intOf] <;> omega
        · obtain rfl : i = pg := by omega
          have EX : (rs.take (i * per)).flatten = rs.flatten := by
            have h := take_all hpp rs
            rw [RL.out, HPG.out] at h
            rw [h]
          rw [EX] at GB
          obtain ⟨Ag, cg, rfl, -⟩ := GB.out.form
          obtain ⟨Aa, ca, rfl, -⟩ := AB.out.form
          have EQ := Lib.hid (eqBytes_any Ag rs.flatten.length cg rs.flatten Aa (j * s) ca rs.flatten wr GB.out.at_ rfl AB.out.at_ (by have := AB.out.1; rw [cel_length, Nat.mul_one] at this; exact this.symm))
          rw [decide_eq_true rfl] at EQ
          have KW := Lib.hid JB.out.kp
          generalize rs.flatten.length = nf at *
          clear hlt hj GB AB FG FA EX
          go_wp2_with fail
          refine EQ.out.mono ?_
          rintro e wy ⟨rfl, rfl⟩
          go_wp2_with fail
          refine (WK.out _ KW.out).mono ?_
          rintro e wz ⟨rfl, kz⟩
          have KZ := Lib.hid (keeps_trans KW.out kz)
          clear kz
          go_wp2_with fail
          go_ret
          exact ⟨rfl, KZ.out⟩
end Go.Proofs.YtmholhjdpkfleaaDoor
