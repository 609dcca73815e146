/- The walk of InputFaults. -/
import Derived.Test.YtbalejfloieiiaaDoorLawInput6
import Derived.Test.YtbalejfloieiiaaDoorFaultMath
namespace Go.Proofs.YtbalejfloieiiaaDoor
open Go.RowKit
set_option linter.unusedSimpArgs false
set_option linter.unusedVariables false
set_option maxRecDepth 100000

theorem byteF (x k : Nat) : ((x : Int) / 2 ^ (8 * k) % 256) = ((UInt8.ofNat (x / 256 ^ k % 256)).toNat : Int) := by
  have e : (256 : Nat) ^ k = 2 ^ (8 * k) := by rw [Nat.pow_mul]
  have e2 : ((x : Int) / 2 ^ (8 * k)) = ((x / 256 ^ k : Nat) : Int) := by
    rw [e, Int.natCast_ediv, Int.natCast_pow]
    rfl
  rw [e2]
  simp
theorem celF_set (l : List UInt8) (k : Nat) (v : UInt8) : (cel l).set k (.int .u8 (v.toNat : Int)) = cel (l.set k v) := by simp [cel, List.map_set]
theorem own_over {w : World} {B g c n P X j : Nat} {b : List UInt8} (h : Own w B 5 1 (.slice (some ⟨g, 0, none⟩) n c) n (cel (over b P (nb j X)))) (hb : b.length = n) (hj : P + j < n) :
    Own (w.setCell ⟨g, P + j, none⟩ (.int .u8 ((X : Int) / 2 ^ (8 * j) % 256))) B 5 1 (.slice (some ⟨g, 0, none⟩) n c) n (cel (over b P (nb (j + 1) X))) := by
  have hl : (over b P (nb j X)).length = n := by rw [over_length _ _ _ (by rw [nb_length]; omega), hb]
  have := h.store (j := P + j) (by rw [cel_length, hl]; exact hj) (.int .u8 ((X : Int) / 2 ^ (8 * j) % 256))
  rw [byteF, celF_set, over_nb _ _ _ _ (by rw [hb]; exact hj)] at this
  rw [byteF]
  exact this
theorem below_set {w w' : World} {B g j : Nat} {v : Value} (h : Below B w w') (hg : B ≤ g) : Below B w (w'.setCell ⟨g, j, none⟩ v) :=
  ⟨h.os, h.tape, h.output, by simpa using h.size, fun i hi => by
    have hne : i ≠ g := by omega
    rw [Below.heap_setCell _ ⟨g, j, none⟩ _ i hne]
    exact h.block i hi⟩

set_option maxHeartbeats 8000000 in
theorem faults_0 (K : InputOk) (N : Nat) (hN : N < 4294967296) (A : Option Addr) (n c : Nat) (l : List Ed) (p wh X : Nat) (hX : X < 18446744073709551616) (w : World) (hZ : K.Z w) (hB : At w w.heap.size A (edsC l)) (hok : ∀ e ∈ l, EdOk e) (hn : n = l.length) (hc : n ≤ c)
    (h1 : n ≤ 1024) (h0 : 0 < n) (hw : WOk N l) (hwh : wh % 3 = 0) (hwl : wh < 65536) (hp : p < 65536) :
    Calls Tryd.prog 10 #[.int .u32 (N : Int), .slice A n c, .agg #[.int .u16 (p : Int), .int .u16 (wh : Int), .int .u64 (X : Int)]] w (Yes w) := by
  have hlen2 : (writeB N l).length = 12 + 16 * n := by rw [writeB_length, hn]
  have k0 := keeps_alloc w (.cells #[.int .u16 (p : Int), .int .u16 (wh : Int), .int .u64 (X : Int)] 52)
  have BX := Lib.hid (Box.new w 52 #[.int .u16 (p : Int), .int .u16 (wh : Int), .int .u64 (X : Int)])
  have C1 := Lib.hid (K.write N A n c l _ (K.keep hZ k0) hN ((hB.keep k0).more k0.size) hok hn hc (by omega))
  obtain ⟨q, hq⟩ : ∃ q : Nat, q = 0 := ⟨_, rfl⟩
  obtain ⟨k, hk⟩ : ∃ k, k = p % n := ⟨_, rfl⟩
  have hkn : k < n := by rw [hk]; exact Nat.mod_lt _ h0
  obtain ⟨P, hP⟩ : ∃ P, P = 12 + 16 * k + 4 * q := ⟨_, rfl⟩
  obtain ⟨Y, hY⟩ : ∃ Y, Y = X % 4294967296 := ⟨_, rfl⟩
  obtain ⟨Z, hZd⟩ : ∃ Z, Z = 9223372036854775807 / N := ⟨_, rfl⟩
  have FR := fault_res hok hw (k := k) (q := q) (X := X) (by omega) (by omega) hX
  rw [← hP] at FR
  have hfs : fSize q = 4 := by rw [hq]; rfl
  rw [hfs] at FR
  obtain ⟨e', he'⟩ : ∃ e', e' = fSet q X (l.getD k zeroEd) := ⟨_, rfl⟩
  rw [← he'] at FR
  have hE' : nomid e' = ⟨(nomid e').t, (nomid e').h, (nomid e').x, 4294967295⟩ := rfl
  have hF : (nomid e').t = Y := by rw [he', hq, hY]; rfl
  have hget : ((l.set k e').map nomid)[k]? = some (nomid e') := by
    rw [List.getElem?_map, List.getElem?_set_self (by omega)]
    rfl
  have hll : ((l.set k e').map nomid).length = n := by rw [List.length_map, List.length_set, hn]
  have hs1 : (n : Int) ≤ 1024 := by omega
  have hs0 : (0 : Int) < (n : Int) := by omega
  have hs2 : decide ((1024 : Int) < (n : Int)) = false := decide_eq_false (by omega)
  have hz : ((n : Int) == 0) = false := by rw [beq_eq_false_iff_ne]; omega
  have hk1 : (0 : Int) ≤ (k : Int) := by omega
  have hk2 : (k : Int) < (n : Int) := by omega
  have hk3 : (k : Int) < 1024 := by omega
  have hPi : 12 + 16 * (k : Int) + 0 = (P : Int) := by omega
  have hPb : (P : Int) + 4 ≤ 12 + 16 * (n : Int) := by omega
  have hPc : (P : Int) < 17000 := by omega
  have hPn : P + 4 ≤ 12 + 16 * n := by omega
  have hN0 : 0 < N := by
    rcases Nat.eq_zero_or_pos N with e | e
    · have := hw.1.2.2 e
      omega
    · exact e
  have hZi : (Z : Int) < 18446744073709551616 := by rw [hZd]; have := Nat.div_le_self 9223372036854775807 N; omega
  have hdiv : (9223372036854775807 : Int).tdiv (N : Int) = (Z : Int) := by rw [hZd]; exact (Int.ofNat_tdiv _ _).symm
  have hrem : ((X : Int)).tmod 4294967296 = (Y : Int) := by rw [hY]; exact (Int.ofNat_tmod X 4294967296).symm
  have hmod1 : ((p : Int)).tmod (n : Int) = (k : Int) := by rw [hk]; exact (Int.ofNat_tmod p n).symm
  have hmod2 : ((wh : Int)).tmod 3 = 0 := by
    have := (Int.ofNat_tmod wh 3).symm
    rw [hwh] at this
    exact this
  have hpi : (p : Int) < 65536 := by omega
  have hwi : (wh : Int) < 65536 := by omega
  have HDR := Lib.hid (And.intro hdiv hrem)
  have HF := Lib.hid (And.intro hF (And.intro hget hll))
  have FRH := Lib.hid FR
  have HW := Lib.hid hw
  have HL2 := Lib.hid hlen2
  have HZ := Lib.hid hZ
  have K0 := Lib.hid k0
  have HQ := Lib.hid (And.intro hq (And.intro hP (And.intro hPn (And.intro hY hZd))))
  have HN0 := Lib.hid hN0
  have HZI := Lib.hid hZi
  clear hZ hB hok hn hc hw hlen2 h1 h0 k0 FR hget hll hF hE' he' hfs hq hP hk hkn hwh hPn hY hZd hN0 hZi hp hX hwl hdiv hrem
  go_enter Tryd.func10, Tryd.ntmps10
  go_wp2_with fail
  generalize w.alloc (.cells #[.int .u16 (p : Int), .int .u16 (wh : Int), .int .u64 (X : Int)] 52) = W0 at *
  refine C1.out.mono ?_
  rintro e w1 hv
  obtain ⟨A1, c1, rfl, hc1, hm1, o1, k1⟩ := hv.yes HW.out
  rw [HL2.out] at o1 hc1 ⊢
  obtain ⟨g, rfl, -, -, hgb⟩ := o1.cell (j := 0) (by rw [cel_length, HL2.out]; omega)
  have O1 := Lib.hid o1
  have K1 := Lib.hid k1
  have BX1 := Lib.hid (BX.out.keep k1)
  have HGB := Lib.hid hgb
  have HC1 := Lib.hid hc1
  have b0 := BX1.out.cell 0 rfl
  have b1 := BX1.out.cell 1 rfl
  clear hv o1 k1 hgb hc1
  go_wp2_with fail
  clear b0 b1
  go_loopw [13] (fun i wr => ∃ j : Nat, j ≤ 4 ∧ i = .int .i64 j ∧ Own wr W0.heap.size 5 1 (.slice (some ⟨g, 0, none⟩) (12 + 16 * n) c1) (12 + 16 * n) (cel (over (writeB N l) P (nb j X))) ∧ Keeps W0 wr) (fun i _ => 4 - (intOf i).toNat)
  case atStart => exact ⟨0, Nat.zero_le _, rfl, by simpa [nb, over_nil] using O1.out, K1.out⟩
  case round =>
    obtain ⟨j, hj, rfl, ho, hk⟩ := hrel
    have bx := (BX.out.keep hk).cell 2 rfl
    have bl := (BX.out.keep hk).lt
    have lg := (ho.lt g rfl).2
    by_cases hlt : j < 4
    · obtain ⟨g', e', x0, z0, -⟩ := ho.cell (j := P + j) (by rw [cel_length, over_length _ _ _ (by rw [nb_length, HL2.out]; have := HQ.out.2.2.1; omega), HL2.out]; have := HQ.out.2.2.1; omega)
      injection e' with e'; injection e' with e'; subst e'
      rw [cel_get _ (by rw [over_length _ _ _ (by rw [nb_length, HL2.out]; have := HQ.out.2.2.1; omega), HL2.out]; have := HQ.out.2.2.1; omega)] at x0
      have ST := Lib.hid (And.intro (own_over ho HL2.out (by have := HQ.out.2.2.1; omega)) (below_set (j := P + j) (v := .int .u8 ((X : Int) / 2 ^ (8 * j) % 256)) hk HGB.out))
      have j0 : (0 : Int) ≤ (j : Int) := by omega
      have j1 : (j : Int) < 4 := by omega
      have HJ := Lib.hid hlt
      clear ho hk hlt hj
      go_wp2_with fail
      go_roundw
      case rel => exact ⟨j + 1, by have := HJ.out; omega, by go_num, ST.out.1, ST.out.2⟩
      case measure => have := HJ.out; simp [intOf]; omega
    · obtain rfl : j = 4 := by omega
      have C2 := Lib.hid (K.check (some ⟨g, 0, none⟩) (12 + 16 * n) c1 _ wr (K.keep HZ.out (keeps_trans K0.out hk)) ho.at_ (by rw [over_length _ _ _ (by rw [nb_length, HL2.out]; have := HQ.out.2.2.1; omega), HL2.out]) HC1.out (by omega))
      rw [FRH.out] at C2
      have KR := Lib.hid hk
      clear ho hk hlt hj lg bx bl
      by_cases hb : fBad N q X = true
      · rw [if_pos hb, if_pos (show q < 2 from by have := HQ.out.1; omega)] at C2
        have hb2 : decide (N ≤ Y) = true := by
          have h := hb
          rw [HQ.out.1] at h
          simp only [fBad, fVal] at h
          rw [HQ.out.2.2.2.1]
          simpa using h
        clear hb
        go_wp2_with fail
        refine C2.out.mono ?_
        rintro e w2 hv
        obtain ⟨A2, c2, rfl, hc2, hm2, o2, k2⟩ := hv.form
        have b2 := (BX.out.keep (keeps_trans KR.out k2)).cell 2 rfl
        have bl := (BX.out.keep (keeps_trans KR.out k2)).lt
        have WW := Lib.hid (works_input K w2 (K.keep HZ.out (keeps_trans K0.out (keeps_trans KR.out k2))))
        have K2 := Lib.hid k2
        have hrem := HDR.out.2
        have hYb : (Y : Int) < 4294967296 := by have := HQ.out.2.2.2.1; omega
        clear hv o2 k2 hPi
        go_wp2_with fail
        refine WW.out.mono ?_
        rintro e w3 ⟨rfl, k3⟩
        go_wp2_with fail
        go_ret
        exact ⟨rfl, keeps_trans K0.out (keeps_trans KR.out (keeps_trans K2.out k3))⟩
      · rw [if_neg hb] at C2
        have hb2 : decide (N ≤ Y) = false := by
          have h := hb
          rw [HQ.out.1] at h
          simp only [fBad, fVal] at h
          rw [HQ.out.2.2.2.1]
          simpa using h
        have hb3 : decide ((N : Int) ≤ (Y : Int)) = false := decide_eq_false (by have := of_decide_eq_false hb2; omega)
        clear hb
        go_wp2_with fail
        refine C2.out.mono ?_
        rintro e w2 hv
        obtain ⟨A2, c2, rfl, hc2, hm2, o2, k2⟩ := hv.form
        simp only at o2 hc2 ⊢
        obtain ⟨hF, hget, hll⟩ := HF.out
        generalize (l.set k e').map nomid = L at *
        rw [hll] at o2 hc2 ⊢
        obtain ⟨g2, rfl, -, -, -⟩ := o2.cell (j := 0) (by rw [edsC_length, hll]; omega)
        obtain ⟨⟨y0, y1, y2, y3⟩, -⟩ := own_edge' o2 hget
        have lg2 := (o2.lt g2 rfl).2
        have b2 := (BX.out.keep (keeps_trans KR.out k2)).cell 2 rfl
        have bl := (BX.out.keep (keeps_trans KR.out k2)).lt
        have K2 := Lib.hid k2
        generalize (nomid e').t = T at *
        generalize (nomid e').h = Hd at *
        generalize (nomid e').x = Wt at *
        generalize (nomid e').m = Md at *
        have hrem := HDR.out.2
        have hYb : (Y : Int) < 4294967296 := by have := HQ.out.2.2.2.1; omega
        subst hF
        have k3 := keeps_alloc w2 (.cells #[.int .u32 (T : Int), .int .u32 (Hd : Int), .int .u64 (Wt : Int), .int .u32 (Md : Int)] 31)
        have WW := Lib.hid (works_input K _ (K.keep HZ.out (keeps_trans K0.out (keeps_trans KR.out (keeps_trans k2 k3)))))
        have K3 := Lib.hid k3
        have E3 := Box.new w2 31 #[.int .u32 (T : Int), .int .u32 (Hd : Int), .int .u64 (Wt : Int), .int .u32 (Md : Int)]
        have z0 := E3.cell 0 rfl
        have z1 := E3.cell 1 rfl
        have z2 := E3.cell 2 rfl
        clear hv o2 k2 hPi hget hll E3 k3
        go_wp2_with fail
        refine WW.out.mono ?_
        rintro e w3 ⟨rfl, k3⟩
        go_wp2_with fail
        go_ret
        exact ⟨rfl, keeps_trans K0.out (keeps_trans KR.out (keeps_trans K2.out (keeps_trans K3.out k3)))⟩

set_option maxHeartbeats 8000000 in
theorem faults_1 (K : InputOk) (N : Nat) (hN : N < 4294967296) (A : Option Addr) (n c : Nat) (l : List Ed) (p wh X : Nat) (hX : X < 18446744073709551616) (w : World) (hZ : K.Z w) (hB : At w w.heap.size A (edsC l)) (hok : ∀ e ∈ l, EdOk e) (hn : n = l.length) (hc : n ≤ c)
    (h1 : n ≤ 1024) (h0 : 0 < n) (hw : WOk N l) (hwh : wh % 3 = 1) (hwl : wh < 65536) (hp : p < 65536) :
    Calls Tryd.prog 10 #[.int .u32 (N : Int), .slice A n c, .agg #[.int .u16 (p : Int), .int .u16 (wh : Int), .int .u64 (X : Int)]] w (Yes w) := by
  have hlen2 : (writeB N l).length = 12 + 16 * n := by rw [writeB_length, hn]
  have k0 := keeps_alloc w (.cells #[.int .u16 (p : Int), .int .u16 (wh : Int), .int .u64 (X : Int)] 52)
  have BX := Lib.hid (Box.new w 52 #[.int .u16 (p : Int), .int .u16 (wh : Int), .int .u64 (X : Int)])
  have C1 := Lib.hid (K.write N A n c l _ (K.keep hZ k0) hN ((hB.keep k0).more k0.size) hok hn hc (by omega))
  obtain ⟨q, hq⟩ : ∃ q : Nat, q = 1 := ⟨_, rfl⟩
  obtain ⟨k, hk⟩ : ∃ k, k = p % n := ⟨_, rfl⟩
  have hkn : k < n := by rw [hk]; exact Nat.mod_lt _ h0
  obtain ⟨P, hP⟩ : ∃ P, P = 12 + 16 * k + 4 * q := ⟨_, rfl⟩
  obtain ⟨Y, hY⟩ : ∃ Y, Y = X % 4294967296 := ⟨_, rfl⟩
  obtain ⟨Z, hZd⟩ : ∃ Z, Z = 9223372036854775807 / N := ⟨_, rfl⟩
  have FR := fault_res hok hw (k := k) (q := q) (X := X) (by omega) (by omega) hX
  rw [← hP] at FR
  have hfs : fSize q = 4 := by rw [hq]; rfl
  rw [hfs] at FR
  obtain ⟨e', he'⟩ : ∃ e', e' = fSet q X (l.getD k zeroEd) := ⟨_, rfl⟩
  rw [← he'] at FR
  have hE' : nomid e' = ⟨(nomid e').t, (nomid e').h, (nomid e').x, 4294967295⟩ := rfl
  have hF : (nomid e').h = Y := by rw [he', hq, hY]; rfl
  have hget : ((l.set k e').map nomid)[k]? = some (nomid e') := by
    rw [List.getElem?_map, List.getElem?_set_self (by omega)]
    rfl
  have hll : ((l.set k e').map nomid).length = n := by rw [List.length_map, List.length_set, hn]
  have hs1 : (n : Int) ≤ 1024 := by omega
  have hs0 : (0 : Int) < (n : Int) := by omega
  have hs2 : decide ((1024 : Int) < (n : Int)) = false := decide_eq_false (by omega)
  have hz : ((n : Int) == 0) = false := by rw [beq_eq_false_iff_ne]; omega
  have hk1 : (0 : Int) ≤ (k : Int) := by omega
  have hk2 : (k : Int) < (n : Int) := by omega
  have hk3 : (k : Int) < 1024 := by omega
  have hPi : 12 + 16 * (k : Int) + 4 = (P : Int) := by omega
  have hPb : (P : Int) + 4 ≤ 12 + 16 * (n : Int) := by omega
  have hPc : (P : Int) < 17000 := by omega
  have hPn : P + 4 ≤ 12 + 16 * n := by omega
  have hN0 : 0 < N := by
    rcases Nat.eq_zero_or_pos N with e | e
    · have := hw.1.2.2 e
      omega
    · exact e
  have hZi : (Z : Int) < 18446744073709551616 := by rw [hZd]; have := Nat.div_le_self 9223372036854775807 N; omega
  have hdiv : (9223372036854775807 : Int).tdiv (N : Int) = (Z : Int) := by rw [hZd]; exact (Int.ofNat_tdiv _ _).symm
  have hrem : ((X : Int)).tmod 4294967296 = (Y : Int) := by rw [hY]; exact (Int.ofNat_tmod X 4294967296).symm
  have hmod1 : ((p : Int)).tmod (n : Int) = (k : Int) := by rw [hk]; exact (Int.ofNat_tmod p n).symm
  have hmod2 : ((wh : Int)).tmod 3 = 1 := by
    have := (Int.ofNat_tmod wh 3).symm
    rw [hwh] at this
    exact this
  have hpi : (p : Int) < 65536 := by omega
  have hwi : (wh : Int) < 65536 := by omega
  have HDR := Lib.hid (And.intro hdiv hrem)
  have HF := Lib.hid (And.intro hF (And.intro hget hll))
  have FRH := Lib.hid FR
  have HW := Lib.hid hw
  have HL2 := Lib.hid hlen2
  have HZ := Lib.hid hZ
  have K0 := Lib.hid k0
  have HQ := Lib.hid (And.intro hq (And.intro hP (And.intro hPn (And.intro hY hZd))))
  have HN0 := Lib.hid hN0
  have HZI := Lib.hid hZi
  clear hZ hB hok hn hc hw hlen2 h1 h0 k0 FR hget hll hF hE' he' hfs hq hP hk hkn hwh hPn hY hZd hN0 hZi hp hX hwl hdiv hrem
  go_enter Tryd.func10, Tryd.ntmps10
  go_wp2_with fail
  generalize w.alloc (.cells #[.int .u16 (p : Int), .int .u16 (wh : Int), .int .u64 (X : Int)] 52) = W0 at *
  refine C1.out.mono ?_
  rintro e w1 hv
  obtain ⟨A1, c1, rfl, hc1, hm1, o1, k1⟩ := hv.yes HW.out
  rw [HL2.out] at o1 hc1 ⊢
  obtain ⟨g, rfl, -, -, hgb⟩ := o1.cell (j := 0) (by rw [cel_length, HL2.out]; omega)
  have O1 := Lib.hid o1
  have K1 := Lib.hid k1
  have BX1 := Lib.hid (BX.out.keep k1)
  have HGB := Lib.hid hgb
  have HC1 := Lib.hid hc1
  have b0 := BX1.out.cell 0 rfl
  have b1 := BX1.out.cell 1 rfl
  clear hv o1 k1 hgb hc1
  go_wp2_with fail
  clear b0 b1
  go_loopw [13] (fun i wr => ∃ j : Nat, j ≤ 4 ∧ i = .int .i64 j ∧ Own wr W0.heap.size 5 1 (.slice (some ⟨g, 0, none⟩) (12 + 16 * n) c1) (12 + 16 * n) (cel (over (writeB N l) P (nb j X))) ∧ Keeps W0 wr) (fun i _ => 4 - (intOf i).toNat)
  case atStart => exact ⟨0, Nat.zero_le _, rfl, by simpa [nb, over_nil] using O1.out, K1.out⟩
  case round =>
    obtain ⟨j, hj, rfl, ho, hk⟩ := hrel
    have bx := (BX.out.keep hk).cell 2 rfl
    have bl := (BX.out.keep hk).lt
    have lg := (ho.lt g rfl).2
    by_cases hlt : j < 4
    · obtain ⟨g', e', x0, z0, -⟩ := ho.cell (j := P + j) (by rw [cel_length, over_length _ _ _ (by rw [nb_length, HL2.out]; have := HQ.out.2.2.1; omega), HL2.out]; have := HQ.out.2.2.1; omega)
      injection e' with e'; injection e' with e'; subst e'
      rw [cel_get _ (by rw [over_length _ _ _ (by rw [nb_length, HL2.out]; have := HQ.out.2.2.1; omega), HL2.out]; have := HQ.out.2.2.1; omega)] at x0
      have ST := Lib.hid (And.intro (own_over ho HL2.out (by have := HQ.out.2.2.1; omega)) (below_set (j := P + j) (v := .int .u8 ((X : Int) / 2 ^ (8 * j) % 256)) hk HGB.out))
      have j0 : (0 : Int) ≤ (j : Int) := by omega
      have j1 : (j : Int) < 4 := by omega
      have HJ := Lib.hid hlt
      clear ho hk hlt hj
      go_wp2_with fail
      go_roundw
      case rel => exact ⟨j + 1, by have := HJ.out; omega, by go_num, ST.out.1, ST.out.2⟩
      case measure => have := HJ.out; simp [intOf]; omega
    · obtain rfl : j = 4 := by omega
      have C2 := Lib.hid (K.check (some ⟨g, 0, none⟩) (12 + 16 * n) c1 _ wr (K.keep HZ.out (keeps_trans K0.out hk)) ho.at_ (by rw [over_length _ _ _ (by rw [nb_length, HL2.out]; have := HQ.out.2.2.1; omega), HL2.out]) HC1.out (by omega))
      rw [FRH.out] at C2
      have KR := Lib.hid hk
      clear ho hk hlt hj lg bx bl
      by_cases hb : fBad N q X = true
      · rw [if_pos hb, if_pos (show q < 2 from by have := HQ.out.1; omega)] at C2
        have hb2 : decide (N ≤ Y) = true := by
          have h := hb
          rw [HQ.out.1] at h
          simp only [fBad, fVal] at h
          rw [HQ.out.2.2.2.1]
          simpa using h
        clear hb
        go_wp2_with fail
        refine C2.out.mono ?_
        rintro e w2 hv
        obtain ⟨A2, c2, rfl, hc2, hm2, o2, k2⟩ := hv.form
        have b2 := (BX.out.keep (keeps_trans KR.out k2)).cell 2 rfl
        have bl := (BX.out.keep (keeps_trans KR.out k2)).lt
        have WW := Lib.hid (works_input K w2 (K.keep HZ.out (keeps_trans K0.out (keeps_trans KR.out k2))))
        have K2 := Lib.hid k2
        have hrem := HDR.out.2
        have hYb : (Y : Int) < 4294967296 := by have := HQ.out.2.2.2.1; omega
        clear hv o2 k2 hPi
        go_wp2_with fail
        refine WW.out.mono ?_
        rintro e w3 ⟨rfl, k3⟩
        go_wp2_with fail
        go_ret
        exact ⟨rfl, keeps_trans K0.out (keeps_trans KR.out (keeps_trans K2.out k3))⟩
      · rw [if_neg hb] at C2
        have hb2 : decide (N ≤ Y) = false := by
          have h := hb
          rw [HQ.out.1] at h
          simp only [fBad, fVal] at h
          rw [HQ.out.2.2.2.1]
          simpa using h
        have hb3 : decide ((N : Int) ≤ (Y : Int)) = false := decide_eq_false (by have := of_decide_eq_false hb2; omega)
        clear hb
        go_wp2_with fail
        refine C2.out.mono ?_
        rintro e w2 hv
        obtain ⟨A2, c2, rfl, hc2, hm2, o2, k2⟩ := hv.form
        simp only at o2 hc2 ⊢
        obtain ⟨hF, hget, hll⟩ := HF.out
        generalize (l.set k e').map nomid = L at *
        rw [hll] at o2 hc2 ⊢
        obtain ⟨g2, rfl, -, -, -⟩ := o2.cell (j := 0) (by rw [edsC_length, hll]; omega)
        obtain ⟨⟨y0, y1, y2, y3⟩, -⟩ := own_edge' o2 hget
        have lg2 := (o2.lt g2 rfl).2
        have b2 := (BX.out.keep (keeps_trans KR.out k2)).cell 2 rfl
        have bl := (BX.out.keep (keeps_trans KR.out k2)).lt
        have K2 := Lib.hid k2
        generalize (nomid e').t = T at *
        generalize (nomid e').h = Hd at *
        generalize (nomid e').x = Wt at *
        generalize (nomid e').m = Md at *
        have hrem := HDR.out.2
        have hYb : (Y : Int) < 4294967296 := by have := HQ.out.2.2.2.1; omega
        subst hF
        have k3 := keeps_alloc w2 (.cells #[.int .u32 (T : Int), .int .u32 (Hd : Int), .int .u64 (Wt : Int), .int .u32 (Md : Int)] 31)
        have WW := Lib.hid (works_input K _ (K.keep HZ.out (keeps_trans K0.out (keeps_trans KR.out (keeps_trans k2 k3)))))
        have K3 := Lib.hid k3
        have E3 := Box.new w2 31 #[.int .u32 (T : Int), .int .u32 (Hd : Int), .int .u64 (Wt : Int), .int .u32 (Md : Int)]
        have z0 := E3.cell 0 rfl
        have z1 := E3.cell 1 rfl
        have z2 := E3.cell 2 rfl
        clear hv o2 k2 hPi hget hll E3 k3
        go_wp2_with fail
        refine WW.out.mono ?_
        rintro e w3 ⟨rfl, k3⟩
        go_wp2_with fail
        go_ret
        exact ⟨rfl, keeps_trans K0.out (keeps_trans KR.out (keeps_trans K2.out (keeps_trans K3.out k3)))⟩

set_option maxHeartbeats 8000000 in
theorem faults_2 (K : InputOk) (N : Nat) (hN : N < 4294967296) (A : Option Addr) (n c : Nat) (l : List Ed) (p wh X : Nat) (hX : X < 18446744073709551616) (w : World) (hZ : K.Z w) (hB : At w w.heap.size A (edsC l)) (hok : ∀ e ∈ l, EdOk e) (hn : n = l.length) (hc : n ≤ c)
    (h1 : n ≤ 1024) (h0 : 0 < n) (hw : WOk N l) (hwh : wh % 3 = 2) (hwl : wh < 65536) (hp : p < 65536) :
    Calls Tryd.prog 10 #[.int .u32 (N : Int), .slice A n c, .agg #[.int .u16 (p : Int), .int .u16 (wh : Int), .int .u64 (X : Int)]] w (Yes w) := by
  have hlen2 : (writeB N l).length = 12 + 16 * n := by rw [writeB_length, hn]
  have k0 := keeps_alloc w (.cells #[.int .u16 (p : Int), .int .u16 (wh : Int), .int .u64 (X : Int)] 52)
  have BX := Lib.hid (Box.new w 52 #[.int .u16 (p : Int), .int .u16 (wh : Int), .int .u64 (X : Int)])
  have C1 := Lib.hid (K.write N A n c l _ (K.keep hZ k0) hN ((hB.keep k0).more k0.size) hok hn hc (by omega))
  obtain ⟨q, hq⟩ : ∃ q : Nat, q = 2 := ⟨_, rfl⟩
  obtain ⟨k, hk⟩ : ∃ k, k = p % n := ⟨_, rfl⟩
  have hkn : k < n := by rw [hk]; exact Nat.mod_lt _ h0
  obtain ⟨P, hP⟩ : ∃ P, P = 12 + 16 * k + 4 * q := ⟨_, rfl⟩
  obtain ⟨Y, hY⟩ : ∃ Y, Y = X % 4294967296 := ⟨_, rfl⟩
  obtain ⟨Z, hZd⟩ : ∃ Z, Z = 9223372036854775807 / N := ⟨_, rfl⟩
  have FR := fault_res hok hw (k := k) (q := q) (X := X) (by omega) (by omega) hX
  rw [← hP] at FR
  have hfs : fSize q = 8 := by rw [hq]; rfl
  rw [hfs] at FR
  obtain ⟨e', he'⟩ : ∃ e', e' = fSet q X (l.getD k zeroEd) := ⟨_, rfl⟩
  rw [← he'] at FR
  have hE' : nomid e' = ⟨(nomid e').t, (nomid e').h, (nomid e').x, 4294967295⟩ := rfl
  have hF : (nomid e').x = X := by rw [he', hq]; rfl
  have hget : ((l.set k e').map nomid)[k]? = some (nomid e') := by
    rw [List.getElem?_map, List.getElem?_set_self (by omega)]
    rfl
  have hll : ((l.set k e').map nomid).length = n := by rw [List.length_map, List.length_set, hn]
  have hs1 : (n : Int) ≤ 1024 := by omega
  have hs0 : (0 : Int) < (n : Int) := by omega
  have hs2 : decide ((1024 : Int) < (n : Int)) = false := decide_eq_false (by omega)
  have hz : ((n : Int) == 0) = false := by rw [beq_eq_false_iff_ne]; omega
  have hk1 : (0 : Int) ≤ (k : Int) := by omega
  have hk2 : (k : Int) < (n : Int) := by omega
  have hk3 : (k : Int) < 1024 := by omega
  have hPi : 12 + 16 * (k : Int) + 8 = (P : Int) := by omega
  have hPb : (P : Int) + 8 ≤ 12 + 16 * (n : Int) := by omega
  have hPc : (P : Int) < 17000 := by omega
  have hPn : P + 8 ≤ 12 + 16 * n := by omega
  have hN0 : 0 < N := by
    rcases Nat.eq_zero_or_pos N with e | e
    · have := hw.1.2.2 e
      omega
    · exact e
  have hZi : (Z : Int) < 18446744073709551616 := by rw [hZd]; have := Nat.div_le_self 9223372036854775807 N; omega
  have hdiv : (9223372036854775807 : Int).tdiv (N : Int) = (Z : Int) := by rw [hZd]; exact (Int.ofNat_tdiv _ _).symm
  have hrem : ((X : Int)).tmod 4294967296 = (Y : Int) := by rw [hY]; exact (Int.ofNat_tmod X 4294967296).symm
  have hmod1 : ((p : Int)).tmod (n : Int) = (k : Int) := by rw [hk]; exact (Int.ofNat_tmod p n).symm
  have hmod2 : ((wh : Int)).tmod 3 = 2 := by
    have := (Int.ofNat_tmod wh 3).symm
    rw [hwh] at this
    exact this
  have hpi : (p : Int) < 65536 := by omega
  have hwi : (wh : Int) < 65536 := by omega
  have HDR := Lib.hid (And.intro hdiv hrem)
  have HF := Lib.hid (And.intro hF (And.intro hget hll))
  have FRH := Lib.hid FR
  have HW := Lib.hid hw
  have HL2 := Lib.hid hlen2
  have HZ := Lib.hid hZ
  have K0 := Lib.hid k0
  have HQ := Lib.hid (And.intro hq (And.intro hP (And.intro hPn (And.intro hY hZd))))
  have HN0 := Lib.hid hN0
  have HZI := Lib.hid hZi
  clear hZ hB hok hn hc hw hlen2 h1 h0 k0 FR hget hll hF hE' he' hfs hq hP hk hkn hwh hPn hY hZd hN0 hZi hp hX hwl hdiv hrem
  go_enter Tryd.func10, Tryd.ntmps10
  go_wp2_with fail
  generalize w.alloc (.cells #[.int .u16 (p : Int), .int .u16 (wh : Int), .int .u64 (X : Int)] 52) = W0 at *
  refine C1.out.mono ?_
  rintro e w1 hv
  obtain ⟨A1, c1, rfl, hc1, hm1, o1, k1⟩ := hv.yes HW.out
  rw [HL2.out] at o1 hc1 ⊢
  obtain ⟨g, rfl, -, -, hgb⟩ := o1.cell (j := 0) (by rw [cel_length, HL2.out]; omega)
  have O1 := Lib.hid o1
  have K1 := Lib.hid k1
  have BX1 := Lib.hid (BX.out.keep k1)
  have HGB := Lib.hid hgb
  have HC1 := Lib.hid hc1
  have b0 := BX1.out.cell 0 rfl
  have b1 := BX1.out.cell 1 rfl
  clear hv o1 k1 hgb hc1
  go_wp2_with fail
  clear b0 b1
  go_loopw [13] (fun i wr => ∃ j : Nat, j ≤ 8 ∧ i = .int .i64 j ∧ Own wr W0.heap.size 5 1 (.slice (some ⟨g, 0, none⟩) (12 + 16 * n) c1) (12 + 16 * n) (cel (over (writeB N l) P (nb j X))) ∧ Keeps W0 wr) (fun i _ => 8 - (intOf i).toNat)
  case atStart => exact ⟨0, Nat.zero_le _, rfl, by simpa [nb, over_nil] using O1.out, K1.out⟩
  case round =>
    obtain ⟨j, hj, rfl, ho, hk⟩ := hrel
    have bx := (BX.out.keep hk).cell 2 rfl
    have bl := (BX.out.keep hk).lt
    have lg := (ho.lt g rfl).2
    by_cases hlt : j < 8
    · obtain ⟨g', e', x0, z0, -⟩ := ho.cell (j := P + j) (by rw [cel_length, over_length _ _ _ (by rw [nb_length, HL2.out]; have := HQ.out.2.2.1; omega), HL2.out]; have := HQ.out.2.2.1; omega)
      injection e' with e'; injection e' with e'; subst e'
      rw [cel_get _ (by rw [over_length _ _ _ (by rw [nb_length, HL2.out]; have := HQ.out.2.2.1; omega), HL2.out]; have := HQ.out.2.2.1; omega)] at x0
      have ST := Lib.hid (And.intro (own_over ho HL2.out (by have := HQ.out.2.2.1; omega)) (below_set (j := P + j) (v := .int .u8 ((X : Int) / 2 ^ (8 * j) % 256)) hk HGB.out))
      have j0 : (0 : Int) ≤ (j : Int) := by omega
      have j1 : (j : Int) < 8 := by omega
      have HJ := Lib.hid hlt
      clear ho hk hlt hj
      go_wp2_with fail
      go_roundw
      case rel => exact ⟨j + 1, by have := HJ.out; omega, by go_num, ST.out.1, ST.out.2⟩
      case measure => have := HJ.out; simp [intOf]; omega
    · obtain rfl : j = 8 := by omega
      have C2 := Lib.hid (K.check (some ⟨g, 0, none⟩) (12 + 16 * n) c1 _ wr (K.keep HZ.out (keeps_trans K0.out hk)) ho.at_ (by rw [over_length _ _ _ (by rw [nb_length, HL2.out]; have := HQ.out.2.2.1; omega), HL2.out]) HC1.out (by omega))
      rw [FRH.out] at C2
      have KR := Lib.hid hk
      clear ho hk hlt hj lg bx bl
      by_cases hb : fBad N q X = true
      · rw [if_pos hb, if_neg (show ¬ q < 2 from by have := HQ.out.1; omega)] at C2
        have hb2 : 9223372036854775808 ≤ X ∨ Z < X := by
          have h := hb
          rw [HQ.out.1] at h
          simp only [fBad, fVal] at h
          rw [HQ.out.2.2.2.2]
          simpa using h
        clear hb
        go_wp2_with fail
        refine C2.out.mono ?_
        rintro e w2 hv
        obtain ⟨A2, c2, rfl, hc2, hm2, o2, k2⟩ := hv.form
        have b2 := (BX.out.keep (keeps_trans KR.out k2)).cell 2 rfl
        have bl := (BX.out.keep (keeps_trans KR.out k2)).lt
        have WW := Lib.hid (works_input K w2 (K.keep HZ.out (keeps_trans K0.out (keeps_trans KR.out k2))))
        have K2 := Lib.hid k2
        have hdiv := HDR.out.1
        clear hv o2 k2 hPi
        rcases (show (decide ((9223372036854775808 : Int) ≤ (X : Int)) = true) ∨ (decide ((9223372036854775808 : Int) ≤ (X : Int)) = false ∧ decide (Z < X) = true) from by
          by_cases h : (9223372036854775808 : Int) ≤ (X : Int)
          · exact .inl (decide_eq_true h)
          · exact .inr ⟨decide_eq_false h, decide_eq_true (by rcases hb2 with h2 | h2; omega; exact h2)⟩) with c1 | ⟨c1, c2⟩
        all_goals
          have hN0 : decide (0 < N) = true := decide_eq_true HN0.out
          have hN1 : (0 : Int) < (N : Int) := by have := HN0.out; omega
          have hN2 : ((N : Int) == 0) = false := by rw [beq_eq_false_iff_ne]; omega
          have hN3 : (Z : Int) < 18446744073709551616 := HZI.out
          clear hb2
          go_wp2_with fail
          refine WW.out.mono ?_
          rintro e w3 ⟨rfl, k3⟩
          go_wp2_with fail
          go_ret
          exact ⟨rfl, keeps_trans K0.out (keeps_trans KR.out (keeps_trans K2.out k3))⟩
      · rw [if_neg hb] at C2
        have hb2 : decide ((9223372036854775808 : Int) ≤ (X : Int)) = false ∧ decide (Z < X) = false := by
          have h := hb
          rw [HQ.out.1] at h
          simp only [fBad, fVal] at h
          rw [HQ.out.2.2.2.2]
          have h' : ¬ (9223372036854775808 ≤ X ∨ 9223372036854775807 / N < X) := by simpa using h
          exact ⟨decide_eq_false (by omega), decide_eq_false (fun e => h' (.inr e))⟩
        obtain ⟨c1, c2⟩ := hb2
        have c3 : decide ((Z : Int) < (X : Int)) = false := decide_eq_false (by have := of_decide_eq_false c2; omega)
        have hN0 : decide (0 < N) = true := decide_eq_true HN0.out
        have hN1 : (0 : Int) < (N : Int) := by have := HN0.out; omega
        have hN2 : ((N : Int) == 0) = false := by rw [beq_eq_false_iff_ne]; omega
        have hN3 : (Z : Int) < 18446744073709551616 := HZI.out
        clear hb
        go_wp2_with fail
        refine C2.out.mono ?_
        rintro e w2 hv
        obtain ⟨A2, c2, rfl, hc2, hm2, o2, k2⟩ := hv.form
        simp only at o2 hc2 ⊢
        obtain ⟨hF, hget, hll⟩ := HF.out
        generalize (l.set k e').map nomid = L at *
        rw [hll] at o2 hc2 ⊢
        obtain ⟨g2, rfl, -, -, -⟩ := o2.cell (j := 0) (by rw [edsC_length, hll]; omega)
        obtain ⟨⟨y0, y1, y2, y3⟩, -⟩ := own_edge' o2 hget
        have lg2 := (o2.lt g2 rfl).2
        have b2 := (BX.out.keep (keeps_trans KR.out k2)).cell 2 rfl
        have bl := (BX.out.keep (keeps_trans KR.out k2)).lt
        have K2 := Lib.hid k2
        generalize (nomid e').t = T at *
        generalize (nomid e').h = Hd at *
        generalize (nomid e').x = Wt at *
        generalize (nomid e').m = Md at *
        have hdiv := HDR.out.1
        subst hF
        have k3 := keeps_alloc w2 (.cells #[.int .u32 (T : Int), .int .u32 (Hd : Int), .int .u64 (Wt : Int), .int .u32 (Md : Int)] 31)
        have WW := Lib.hid (works_input K _ (K.keep HZ.out (keeps_trans K0.out (keeps_trans KR.out (keeps_trans k2 k3)))))
        have K3 := Lib.hid k3
        have E3 := Box.new w2 31 #[.int .u32 (T : Int), .int .u32 (Hd : Int), .int .u64 (Wt : Int), .int .u32 (Md : Int)]
        have z0 := E3.cell 0 rfl
        have z1 := E3.cell 1 rfl
        have z2 := E3.cell 2 rfl
        clear hv o2 k2 hPi hget hll E3 k3
        go_wp2_with fail
        refine WW.out.mono ?_
        rintro e w3 ⟨rfl, k3⟩
        go_wp2_with fail
        go_ret
        exact ⟨rfl, keeps_trans K0.out (keeps_trans KR.out (keeps_trans K2.out (keeps_trans K3.out k3)))⟩

set_option maxHeartbeats 4000000 in
theorem faults_walk (K : InputOk) (N : Nat) (hN : N < 4294967296) (A : Option Addr) (n c : Nat) (l : List Ed) (p wh X : Nat) (hp : p < 65536) (hwl : wh < 65536) (hX : X < 18446744073709551616) (w : World) (hZ : K.Z w) (hB : At w w.heap.size A (edsC l)) (hok : ∀ e ∈ l, EdOk e) (hn : n = l.length) (hc : n ≤ c) (hlen : n ≤ maxLen) :
    Calls Tryd.prog 10 #[.int .u32 (N : Int), .slice A n c, .agg #[.int .u16 (p : Int), .int .u16 (wh : Int), .int .u64 (X : Int)]] w (Yes w) := by
  unfold maxLen at hlen
  have k0 := keeps_alloc w (.cells #[.int .u16 (p : Int), .int .u16 (wh : Int), .int .u64 (X : Int)] 52)
  by_cases h : n ≤ 1024 ∧ 0 < n ∧ WOk N l
  · rcases (show wh % 3 = 0 ∨ wh % 3 = 1 ∨ wh % 3 = 2 by omega) with e | e | e
    · exact faults_0 K N hN A n c l p wh X hX w hZ hB hok hn hc h.1 h.2.1 h.2.2 e hwl hp
    · exact faults_1 K N hN A n c l p wh X hX w hZ hB hok hn hc h.1 h.2.1 h.2.2 e hwl hp
    · exact faults_2 K N hN A n c l p wh X hX w hZ hB hok hn hc h.1 h.2.1 h.2.2 e hwl hp
  · have W := Lib.hid (works_input K _ (K.keep hZ k0))
    by_cases h1 : (1024 : Int) < n
    · have K0 := Lib.hid k0
      clear hn hB hlen k0 hp hwl hX h
      go_enter Tryd.func10, Tryd.ntmps10
      go_wp2_with (go_at_call 14; refine W.out.mono ?_; rintro e w1 ⟨rfl, k1⟩)
      go_ret
      exact ⟨rfl, keeps_trans K0.out k1⟩
    · rcases Nat.eq_zero_or_pos n with h2 | h2
      · subst h2
        have K0 := Lib.hid k0
        clear hn hB hlen k0 hp hwl hX h h1
        go_enter Tryd.func10, Tryd.ntmps10
        go_wp2_with (go_at_call 14; refine W.out.mono ?_; rintro e w1 ⟨rfl, k1⟩)
        go_ret
        exact ⟨rfl, keeps_trans K0.out k1⟩
      · have hw : ¬ WOk N l := fun e => h ⟨by omega, h2, e⟩
        have C1 := Lib.hid (K.write N A n c l _ (K.keep hZ k0) hN ((hB.keep k0).more k0.size) hok hn hc (by omega))
        have hz : ((n : Int) == 0) = false := by rw [beq_eq_false_iff_ne]; omega
        have hs2 : decide ((1024 : Int) < (n : Int)) = false := decide_eq_false (by omega)
        have HW := Lib.hid hw
        have HZ := Lib.hid hZ
        have K0 := Lib.hid k0
        clear hn hB hw hZ hlen k0 hp hwl hX h h1 h2
        go_enter Tryd.func10, Tryd.ntmps10
        go_wp2_with fail
        refine C1.out.mono ?_
        rintro e w1 hv
        obtain ⟨rfl, k1⟩ := hv.no HW.out
        have WW := Lib.hid (works_input K w1 (K.keep HZ.out (keeps_trans K0.out k1)))
        clear hv
        go_wp2_with fail
        refine WW.out.mono ?_
        rintro e w4 ⟨rfl, k4⟩
        go_wp2_with fail
        go_ret
        exact ⟨rfl, keeps_trans K0.out (keeps_trans k1 k4)⟩
end Go.Proofs.YtbalejfloieiiaaDoor
