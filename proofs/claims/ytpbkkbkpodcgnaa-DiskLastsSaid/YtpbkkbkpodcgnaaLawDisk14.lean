/- DiskReads. -/
import Derived.Test.YtpbkkbkpodcgnaaLawDisk13
namespace Go.Proofs.Ytpbkkbkpodcgnaa
open Go.RowKit
set_option linter.unusedSimpArgs false
set_option linter.unusedVariables false
set_option maxRecDepth 100000

theorem getF_set_self {l : List Fl} {nm : List UInt8} {f f' : Fl} (h : getF l nm = some f) (hn : f'.name = nm) : getF (setF l f') nm = some f' := by
  induction l with
  | nil => cases h
  | cons g l ih =>
    rw [getF_cons] at h
    show getF ((if g.name = f'.name then f' else g) :: setF l f') nm = _
    by_cases e : g.name = nm
    · rw [if_pos (by rw [e, hn]), getF_cons, if_pos hn]
    · rw [if_neg e] at h
      rw [if_neg (by rw [hn]; exact e), getF_cons, if_neg e]
      exact ih h
theorem nameOk_of {s : Ds} (ok : DsOk s) {nm : List UInt8} {f : Fl} (h : getF s.l nm = some f) : nameOk nm = true := by
  have h1 := (ok.files f (getF_mem h)).name
  rwa [getF_name h] at h1
theorem read_none6 (s : Ds) (nm : List UInt8) (off n : Int) (h : s.off = false) (hg : getF s.l nm = none) : ∃ E, readS s nm off n = ([], E) ∧ (E = 1 ∨ E = 3) := by
  unfold readS
  rw [h, if_neg (by decide), hg]
  split
  · exact ⟨1, rfl, .inl rfl⟩
  · exact ⟨3, rfl, .inr rfl⟩
theorem size_none6 (s : Ds) (nm : List UInt8) (h : s.off = false) (hg : getF s.l nm = none) : ∃ E, sizeS s nm = (0, E) ∧ (E = 1 ∨ E = 3) := by
  unfold sizeS
  rw [h, if_neg (by decide), hg]
  split
  · exact ⟨1, rfl, .inl rfl⟩
  · exact ⟨3, rfl, .inr rfl⟩
theorem size_some6 (s : Ds) (nm : List UInt8) (f : Fl) (h : s.off = false) (hn : nameOk nm = true) (hg : getF s.l nm = some f) : sizeS s nm = (f.now.length, 0) := by
  unfold sizeS
  rw [h, if_neg (by decide), hg, hn, if_neg (by decide)]
theorem read_bad6 (s : Ds) (nm : List UInt8) (off n : Int) (h : s.off = false) (hb : off < 0 ∨ n < 0) : readS s nm off n = ([], 1) := by
  unfold readS
  rw [h, if_neg (by decide), if_pos (.inr hb)]
theorem read_some6 (s : Ds) (nm : List UInt8) (off n : Int) (f : Fl) (h : s.off = false) (hn : nameOk nm = true) (hg : getF s.l nm = some f) (h1 : 0 ≤ off) (h2 : 0 ≤ n) : readS s nm off n = ((f.now.drop off.toNat).take n.toNat, 0) := by
  unfold readS
  rw [h, if_neg (by decide), hg, hn, if_neg (by rintro (e | e | e) <;> first | cases e | omega)]
/-- what a write of it leaves -/
structure Wrote (s s2 : Ds) (nm now lb : List UInt8) (o E : Nat) : Prop where
  few : s2.l.length = s.l.length
  how : (E ≠ 0 ∧ (getF s2.l nm).map (·.now) = some now) ∨ (E = 0 ∧ o ≤ now.length ∧ o + lb.length ≤ 16777216 ∧ (getF s2.l nm).map (·.now) = some (layB now o lb))
theorem write_some6 (s : Ds) (nm : List UInt8) (o : Nat) (lb : List UInt8) (f : Fl) (h : s.off = false) (ha : s.armed = 0) (hg : getF s.l nm = some f) : ∃ s2 E, writeS s nm (o : Int) lb = (s2, E) ∧ Wrote s s2 nm f.now lb o E := by
  have h0 : goneS s = s := by unfold goneS; rw [if_neg (by omega)]
  have hf : (getF s.l nm).map (·.now) = some f.now := by rw [hg]; rfl
  unfold writeS
  rw [h0, h, if_neg (by decide), hg]
  split
  · exact ⟨_, _, rfl, rfl, .inl ⟨by decide, hf⟩⟩
  · simp only [Int.toNat_natCast]
    split
    · exact ⟨_, _, rfl, rfl, .inl ⟨by decide, hf⟩⟩
    · split
      · exact ⟨_, _, rfl, rfl, .inl ⟨by decide, hf⟩⟩
      · split
        · exact ⟨_, _, rfl, rfl, .inl ⟨by decide, hf⟩⟩
        · refine ⟨_, _, rfl, setF_len _ _, .inr ⟨rfl, by omega, by omega, ?_⟩⟩
          show (getF (setF s.l (writeF f o lb)) nm).map (·.now) = _
          rw [getF_set_self hg (f' := writeF f o lb) (by have := getF_name hg; exact this)]
          rfl
theorem arm_zero6 (s : Ds) (h : s.off = false) : armS s 0 = ({ s with armed := 0 }, 0) := by
  unfold armS
  rw [if_neg (by decide), h, if_neg (by decide)]
  rfl
theorem take_min6 (l : List UInt8) (o n : Nat) : (l.drop o).take n = (l.drop (min o l.length)).take (min n (l.length - min o l.length)) := by
  by_cases h : o ≤ l.length
  · rw [Nat.min_eq_left h]
    apply List.ext_getElem?
    intro i
    simp only [List.getElem?_take, List.getElem?_drop]
    by_cases h1 : i < n
    · by_cases h2 : i < l.length - o
      · rw [if_pos h1, if_pos (by omega)]
      · rw [if_pos h1, if_neg (by omega), List.getElem?_eq_none (by omega)]
    · rw [if_neg h1, if_neg (by omega)]
  · rw [Nat.min_eq_right (show l.length ≤ o by omega), List.drop_eq_nil_of_le (show l.length ≤ o by omega), List.drop_eq_nil_of_le (Nat.le_refl _)]
    simp
theorem Have.writeT_ {K : DiskOk} {w0 w : World} {b : Nat} {F : Nat → Prop} {s : Ds} (h : Have K w0 w b F s) (hZ : K.Z w0) (nm : List UInt8) (off : Int) (hn : IsI off) {W : World} {A : Option Addr} {c n : Nat} {l : List UInt8} (hO : Own W w.heap.size 5 1 (.slice A n c) n (cel l)) (hl : n = l.length) (hk : Keeps w W) (hm : n ≤ 70000) {s' : Ds} {E : Nat} (hs : writeS s nm off l = (s', E)) (hnm : nm.length ≤ maxLen) :
    Calls Try.prog 23 #[.pointer (some ⟨b, 0, none⟩), .string (str nm), .int .i64 off, .slice A n c] W (fun e w' => e = .returned (.int .i64 (E : Int)) ∧ ∃ F', K.D w' b F' s' ∧ Turns W w' F F') := by
  have h2 := h.keep hk
  obtain ⟨A', c', hv, hc, -, -, hb⟩ := hO.form
  injection hv with h3 h4 h5
  subst h3
  subst h5
  have := K.write nm off A n c l (h2.z hZ) h2.D hnm hn.1 hn.2 hO.at_ (fun ad ha hf => by have h6 := (hb ad ha).2.1; have h7 := K.lt h.D _ hf; omega) hl hc hm
  rw [hs] at this
  exact this
theorem sizeU8r : (Try.prog.info? 5).map (·.size) = some 1 := by kernel_rfl
set_option maxHeartbeats 16000000 in
theorem reads6_walk (K : DiskOk) (q : Int) (hq : IsI q) (A : Option Addr) (n c : Nat) (l : List OpS) (nm : List UInt8) (hnm : nm.length ≤ maxLen) (off cnt : Int) (hoff : IsI off) (hcnt : IsI cnt) (B : Option Addr) (m d : Nat) (lb : List UInt8) (w : World) (hZ : K.Z w) (h : OpsAt w A l) (hn : n = l.length) (hm : n ≤ 9223372036854775807)
    (hB : Bs w B lb) (hmb : m = lb.length) (hmd : m ≤ d) (hd : d ≤ maxLen) :
    Calls Try.prog 10 #[.int .i64 q, .slice A n c, .string (str nm), .int .i64 off, .int .i64 cnt, .slice B m d] w (Yes w) := by
  have WK := Lib.hid (fun (W : World) (q : Keeps w W) => works6 K W (K.keep hZ q))
  have VA := Lib.hid (vast_any A n c l _ h hn hm)
  have H := Lib.hid h
  have HN := Lib.hid hn
  have HZ := Lib.hid hZ
  have HQ := Lib.hid hq
  have HB := Lib.hid hB
  have HMB := Lib.hid hmb
  have HMD := Lib.hid hmd
  have HD := Lib.hid hd
  have HNM := Lib.hid hnm
  have HM := Lib.hid hm
  have HOFF := Lib.hid hoff
  have HCNT := Lib.hid hcnt
  have mi : (m : Int) ≤ 9223372036854775807 := by unfold maxLen at hd; omega
  clear h hn hZ hq hB hmb hmd hd hnm hm hoff hcnt
  obtain ⟨o, ho⟩ : ∃ o : OpS, o = ⟨⟨0, nm, [], 0, 0, lb, 0, []⟩, B, m, d, none, 0, 0⟩ := ⟨_, rfl⟩
  have HO := Lib.hid (show OpOk w o by
    rw [ho]
    exact ⟨i0_ok, HNM.out, by simp [maxLen], i0_ok, i0_ok, HMB.out, HMD.out, HD.out, HB.out, rfl, Nat.le_refl _, by simp [maxLen], At.nil _ _ _⟩)
  go_enter Try.func10, Try.ntmps10
  go_wp2_with fail
  refine VA.out.mono ?_
  rintro e w1 ⟨vv, rfl, k1, hv⟩
  have K1 := Lib.hid k1
  clear k1
  rcases vv with _ | _
  · have FW := Lib.hid (hv rfl)
    clear hv
    have VB := Lib.hid (vast_any (some ⟨w1.heap.size, 0, none⟩) 1 1 [o] _ (opsAt_one (HO.out.keep_ K1.out)) rfl (by decide))
    unfold opA strV at VB
    rw [ho] at VB
    have HOE := Lib.hid ho
    clear ho
    go_wp2_with fail
    refine VB.out.mono ?_
    rintro e w2 ⟨v2, rfl, k2, hv2⟩
    have K2 := Lib.hid (keeps_trans K1.out (keeps_trans (keeps_alloc _ _) k2))
    clear k2
    have WORKS := Lib.hid (WK.out _ K2.out)
    rcases v2 with _ | _
    · have F1 := Lib.hid (show m ≤ 65536 from ((hv2 rfl).each _ (List.mem_singleton.2 rfl)).1)
      clear hv2
      have BH := Lib.hid (behind_any K q HQ.out A n c l w2 (K.keep HZ.out K2.out) (H.out.keep K2.out) HN.out HM.out FW.out)
      go_wp2_with fail
      refine BH.out.mono ?_
      rintro e w3 (⟨b, F, hq0, hq1, rfl, hh⟩ | ⟨hq0, rfl, k3⟩)
      · have HH := Lib.hid hh
        have SL := Lib.hid (show (runS ⟨[], q.toNat, 0, false⟩ l).l.length ≤ 150 by have h1 := runS_len ⟨[], q.toNat, 0, false⟩ l; have h2 := FW.out.most; simp only [List.length_nil] at h1; omega)
        have Z2 := Lib.hid (K.keep HZ.out K2.out)
        clear hh
        generalize runS ⟨[], q.toNat, 0, false⟩ l = s at *
        have OKS := Lib.hid (K.ok HH.out.D)
        have DE := Lib.hid (K.dead (HH.out.z Z2.out) HH.out.D)
        unfold dpt at DE
        obtain ⟨dd, hdd⟩ : ∃ dd, s.off = dd := ⟨_, rfl⟩
        rw [hdd] at DE
        have HDD := Lib.hid hdd
        clear hdd
        go_wp2_with fail
        refine DE.out.mono ?_
        rintro e w4 ⟨rfl, k4⟩
        have H4 := Lib.hid (HH.out.keep k4)
        clear k4
        rcases dd with _ | _
        · obtain ⟨s1, hs1⟩ : ∃ s1 : Ds, s1 = { s with armed := 0 } := ⟨_, rfl⟩
          have AR := Lib.hid (arm_zero6 s HDD.out)
          rw [← hs1] at AR
          have SL1 := Lib.hid (show s1.l.length ≤ 150 by rw [hs1]; exact SL.out)
          have OFF1 := Lib.hid (show s1.off = false by rw [hs1]; exact HDD.out)
          have ARM1 := Lib.hid (show s1.armed = 0 by rw [hs1])
          clear hs1
          go_wp2_with fail
          refine (H4.out.arm_ Z2.out 0 i0_ok AR.out).mono ?_
          rintro e w5 ⟨rfl, F5, h5⟩
          have H5 := Lib.hid h5
          have OK1 := Lib.hid (K.ok h5.D)
          clear h5
          have FI := Lib.hid (K.files (H5.out.z Z2.out) H5.out.D (by have := SL1.out; omega))
          unfold dpt at FI
          go_wp2_with fail
          refine FI.out.mono ?_
          rintro e w6 ⟨fv, rfl, f6, k6⟩
          have hlk : lookF (s1.l.map fun f => (f.name, f.now)) nm = (getF s1.l nm).map (·.now) := lookF_fls s1 nm
          have FO := Lib.hid (fileOf_any w5.heap.size fv _ nm (str nm) rfl w6 f6 (by rw [List.length_map]; have := SL1.out; omega))
          rw [hlk] at FO
          have H6 := Lib.hid (H5.out.keep k6)
          clear f6 k6 hlk
          obtain ⟨g, hg⟩ : ∃ g, getF s1.l nm = g := ⟨_, rfl⟩
          rw [hg] at FO
          have HG := Lib.hid hg
          clear hg
          go_wp2_with fail
          refine FO.out.mono ?_
          intro e w7 lv
          rcases g with _ | f
          · obtain ⟨k7, rfl⟩ := lv
            have H7 := Lib.hid (H6.out.keep k7)
            clear k7
            obtain ⟨E1, hr1, he1⟩ := read_none6 s1 nm off cnt OFF1.out HG.out
            obtain ⟨E2, hr2, he2⟩ := size_none6 s1 nm OFF1.out HG.out
            have RD := Lib.hid (H7.out.read_ Z2.out nm off cnt HOFF.out HCNT.out _ rfl hr1 HNM.out)
            have e1 : ((E1 : Int) != 0) = true := by rw [bne_iff_ne]; omega
            have e2 : ((E2 : Int) != 0) = true := by rw [bne_iff_ne]; omega
            have HR2 := Lib.hid hr2
            clear hr1 hr2 he1 he2
            go_wp2_with fail
            refine RD.out.mono ?_
            rintro e w8 ⟨A8, c8, rfl, -, -, h8, -⟩
            have H8 := Lib.hid h8
            clear h8
            simp only [List.length_nil]
            have SZ := Lib.hid (show Calls Try.prog 31 #[.pointer (some ⟨b, 0, none⟩), .string (str nm)] w8 (fun e w' => e = .returned (.tuple #[.int .i64 0, .int .i64 (E2 : Int)]) ∧ Have K w2 w' b F5 s1 ∧ Keeps w8 w') from H8.out.size_ Z2.out nm _ rfl HR2.out HNM.out)
            go_wp2_with fail
            refine SZ.out.mono ?_
            rintro e w9 ⟨rfl, h9, -⟩
            have WF := Lib.hid (WK.out w9 (keeps_trans K2.out h9.kp))
            have H9 := Lib.hid h9
            clear h9
            go_wp2_with fail
            refine WF.out.mono ?_
            rintro e w10 ⟨rfl, k10⟩
            go_wp2_with fail
            go_ret
            exact ⟨rfl, keeps_trans (keeps_trans K2.out H9.out.kp) k10⟩
          · obtain ⟨k7, A1, c1, rfl, o1⟩ := lv
            have H7 := Lib.hid (H6.out.keep k7)
            have O17 := Lib.hid o1
            have NOK := Lib.hid (nameOk_of OK1.out HG.out)
            have LE := Lib.hid (show f.now.length ≤ 16777216 from (OK1.out.files f (getF_mem HG.out)).size)
            have HR2 := Lib.hid (size_some6 s1 nm f OFF1.out NOK.out HG.out)
            have hc1 : f.now.length ≤ c1 := by obtain ⟨A', c', hv, hc, -⟩ := o1.form; injection hv with h3 h4 h5; subst h5; exact hc
            have HC1 := Lib.hid hc1
            clear k7 o1 hc1
            obtain ⟨L, hL⟩ : ∃ L, L = f.now.length := ⟨_, rfl⟩
            have HL := Lib.hid hL
            rw [← hL] at HR2 O17
            rw [← hL]
            have Li : (L : Int) ≤ 16777216 := by have := LE.out; omega
            clear hL
            have hLL : ((L : Int) != (L : Int)) = false := by simp
            by_cases hbad : off < 0 ∨ cnt < 0
            · have RD := Lib.hid (H7.out.read_ Z2.out nm off cnt HOFF.out HCNT.out _ rfl (read_bad6 s1 nm off cnt OFF1.out hbad) HNM.out)
              have ways : off < 0 ∨ (¬ off < 0 ∧ cnt < 0) := by omega
              clear hbad
              go_wp2_with fail
              refine RD.out.mono ?_
              rintro e w8 ⟨A8, c8, rfl, -, -, h8, -⟩
              have H8 := Lib.hid h8
              clear h8
              simp only [List.length_nil]
              have SZ := Lib.hid (show Calls Try.prog 31 #[.pointer (some ⟨b, 0, none⟩), .string (str nm)] w8 (fun e w' => e = .returned (.tuple #[.int .i64 (L : Int), .int .i64 0]) ∧ Have K w2 w' b F5 s1 ∧ Keeps w8 w') from H8.out.size_ Z2.out nm _ rfl HR2.out HNM.out)
              go_wp2_with fail
              refine SZ.out.mono ?_
              rintro e w9 ⟨rfl, h9, -⟩
              have WF := Lib.hid (WK.out w9 (keeps_trans K2.out h9.kp))
              have H9 := Lib.hid h9
              clear h9
              rcases ways with w1 | ⟨w1, w2⟩
              all_goals
                go_wp2_with fail
                refine WF.out.mono ?_
                rintro e w10 ⟨rfl, k10⟩
                go_wp2_with fail
                go_ret
                exact ⟨rfl, keeps_trans (keeps_trans K2.out H9.out.kp) k10⟩
            · obtain ⟨o, rfl⟩ := Int.eq_ofNat_of_zero_le (show 0 ≤ off by omega)
              obtain ⟨k, rfl⟩ := Int.eq_ofNat_of_zero_le (show 0 ≤ cnt by omega)
              clear hbad
              have HOFF2 := Lib.hid (show IsI (o : Int) from HOFF.out)
              have oi : (o : Int) ≤ 9223372036854775807 := HOFF.out.2
              have ki : (k : Int) ≤ 9223372036854775807 := HCNT.out.2
              have hno1 : decide ((o : Int) < 0) = false := decide_eq_false (by omega)
              have hno2 : decide ((k : Int) < 0) = false := decide_eq_false (by omega)
              obtain ⟨fr, hfr⟩ : ∃ fr, fr = min o L := ⟨_, rfl⟩
              obtain ⟨mm, hmm⟩ : ∃ mm, mm = min k (L - fr) := ⟨_, rfl⟩
              obtain ⟨hi, hhi⟩ : ∃ hi, hi = fr + mm := ⟨_, rfl⟩
              obtain ⟨re, hre⟩ : ∃ re, re = L - fr := ⟨_, rfl⟩
              have frL : fr ≤ L := by omega
              have hiL : hi ≤ L := by omega
              have hrd : readS s1 nm (o : Int) (k : Int) = ((f.now.drop fr).take mm, 0) := by
                rw [read_some6 s1 nm (o : Int) (k : Int) f OFF1.out NOK.out HG.out (by omega) (by omega), hmm, hfr, HL.out]
                simp only [Int.toNat_natCast]
                rw [take_min6]
              have hln : ((f.now.drop fr).take mm).length = mm := by rw [List.length_take, List.length_drop, ← HL.out]; omega
              have RD := Lib.hid (H7.out.read_ Z2.out nm (o : Int) (k : Int) HOFF.out HCNT.out _ rfl hrd HNM.out)
              have m1 : ∀ (ts : Array TypeId) (t : TypeId) (w : World), (Builtin.min_ ts t #[.int .i64 (o : Int), .int .i64 (L : Int)]).run Try.prog w = .ok (.int .i64 (fr : Int)) w := by
                intro ts t w
                rw [run_min_int2]
                congr 2
                split <;> omega
              have m2 : (L : Int) - (fr : Int) = (re : Int) := by omega
              have m3 : ∀ (ts : Array TypeId) (t : TypeId) (w : World), (Builtin.min_ ts t #[.int .i64 (k : Int), .int .i64 (re : Int)]).run Try.prog w = .ok (.int .i64 (mm : Int)) w := by
                intro ts t w
                rw [run_min_int2]
                congr 2
                split <;> omega
              have m4 : (fr : Int) + (mm : Int) = (hi : Int) := by omega
              have rei : (re : Int) ≤ 16777216 := by omega
              have fri : (fr : Int) ≤ 16777216 := by omega
              have mmi : (mm : Int) ≤ 16777216 := by omega
              have hii : (hi : Int) ≤ 16777216 := by omega
              have hsl := run_lohi (P := Try.prog) 22 5 Try.underlying22 sizeU8r A1 L c1 fr hi (by omega) (by have := HC1.out; have := HL.out; omega)
              have hd2 : hi - fr = mm := by omega
              rw [hd2] at hsl
              have SM := Lib.hid (fun (W : World) (k : Keeps w7 W) (A2 : Option Addr) (c2 : Nat) (h2 : Bs W A2 ((f.now.drop fr).take mm)) => same6_any A2 mm c2 ((f.now.drop fr).take mm) (dropA A1 c1 fr) mm (c1 - fr) ((f.now.drop fr).take mm) W h2 hln.symm (by
                have h3 : Bs W A1 f.now := Bs.keep O17.out.at_ k
                exact (h3.dropA (n := L) (c := c1) (k := fr) HL.out (by have := HC1.out; have := HL.out; omega)).take mm) hln.symm (by omega))
              rw [decide_eq_true rfl] at SM
              have HLN := Lib.hid hln
              clear hfr hmm hhi hre frL hiL hrd hln hd2
              generalize dropA A1 c1 fr = DA at *
              go_wp2_with fail
              refine RD.out.mono ?_
              rintro e w8 ⟨A8, c8, rfl, -, o8, h8, k8⟩
              have H8 := Lib.hid h8
              have B8 : Bs w8 A8 ((f.now.drop fr).take mm) := o8.at_
              rw [HLN.out]
              have HB8 := Lib.hid B8
              have K8 := Lib.hid k8
              clear h8 o8 B8 k8
              have SZ := Lib.hid (show Calls Try.prog 31 #[.pointer (some ⟨b, 0, none⟩), .string (str nm)] w8 (fun e w' => e = .returned (.tuple #[.int .i64 (L : Int), .int .i64 0]) ∧ Have K w2 w' b F5 s1 ∧ Keeps w8 w') from H8.out.size_ Z2.out nm _ rfl HR2.out HNM.out)
              go_wp2_with fail
              refine SZ.out.mono ?_
              rintro e w9 ⟨rfl, h9, k9⟩
              have H9 := Lib.hid h9
              have S9 := Lib.hid (SM.out w9 (keeps_trans K8.out k9) A8 c8 (HB8.out.keep k9))
              have O19 := Lib.hid (O17.out.keep (keeps_trans K8.out k9))
              clear h9 k9
              go_wp2_with fail
              refine S9.out.mono ?_
              rintro e w10 ⟨rfl, k10⟩
              have H10 := Lib.hid (H9.out.keep k10)
              have O110 := Lib.hid (O19.out.keep k10)
              clear k10 hsl m1 m2 m3 m4
              have TW := Lib.hid (twin6_any B m d lb w10 (HB.out.keep (keeps_trans K2.out H10.out.kp)) HMB.out (by have := F1.out; omega))
              go_wp2_with fail
              refine TW.out.mono ?_
              rintro e w11 ⟨v11, rfl, o11, k11⟩
              obtain ⟨A11, c11, rfl, -⟩ := o11.form
              obtain ⟨s2, E, hw, hs2⟩ := write_some6 s1 nm o lb f OFF1.out ARM1.out HG.out
              have WR := Lib.hid (H10.out.writeT_ Z2.out nm (o : Int) HOFF2.out o11 rfl k11 (by have := F1.out; have := HMB.out; omega) hw HNM.out)
              have H11 := Lib.hid (H10.out.keep k11)
              have O111 := Lib.hid (O110.out.keep k11)
              have WS := Lib.hid hs2
              clear o11 k11 hw hs2
              go_wp2_with fail
              refine WR.out.mono ?_
              rintro e w12 ⟨rfl, F12, hD12, ht12⟩
              have H12 := Lib.hid (H11.out.step hD12 ht12)
              have O112 := Lib.hid (O111.out.turns ht12 (fun k hk hf => by have h1 := (O111.out.lt k hk).1; have h2 := K.lt H5.out.D k hf; omega))
              clear hD12 ht12
              have FI12 := Lib.hid (K.files (H12.out.z Z2.out) H12.out.D (by have := SL1.out; have := WS.out.few; omega))
              unfold dpt at FI12
              go_wp2_with fail
              refine FI12.out.mono ?_
              rintro e w13 ⟨fv13, rfl, f13, k13⟩
              have hlk : lookF (s2.l.map fun f => (f.name, f.now)) nm = (getF s2.l nm).map (·.now) := lookF_fls s2 nm
              have FO13 := Lib.hid (fileOf_any w12.heap.size fv13 _ nm (str nm) rfl w13 f13 (by rw [List.length_map]; have := SL1.out; have := WS.out.few; omega))
              rw [hlk] at FO13
              have H13 := Lib.hid (H12.out.keep k13)
              have O113 := Lib.hid (O112.out.keep k13)
              clear f13 k13 hlk
              rcases WS.out.how with ⟨hE, hL2⟩ | ⟨hE, hoL, hom, hL2⟩
              · rw [hL2] at FO13
                have e1 : ((E : Int) != 0) = true := by rw [bne_iff_ne]; omega
                clear hE hL2
                go_wp2_with fail
                refine FO13.out.mono ?_
                intro e w14 lv
                obtain ⟨k14, A2, c2, rfl, o2⟩ := lv
                rw [← HL.out]
                have H14 := Lib.hid (H13.out.keep k14)
                have S14 := Lib.hid (same6_any A2 L c2 f.now A1 L c1 f.now w14 (by have := o2.at_; exact this) HL.out (O113.out.keep k14).at_ HL.out (by omega))
                rw [decide_eq_true rfl] at S14
                clear k14 o2
                go_wp2_with fail
                refine S14.out.mono ?_
                rintro e w15 ⟨rfl, k15⟩
                have WF := Lib.hid (WK.out w15 (keeps_trans K2.out (keeps_trans H14.out.kp k15)))
                have K15 := Lib.hid k15
                clear k15
                go_wp2_with fail
                refine WF.out.mono ?_
                rintro e w16 ⟨rfl, k16⟩
                go_wp2_with fail
                go_ret
                exact ⟨rfl, keeps_trans (keeps_trans K2.out (keeps_trans H14.out.kp K15.out)) k16⟩
              · rw [hL2] at FO13
                subst hE
                obtain ⟨nw, hnw⟩ : ∃ nw, nw = layB f.now o lb := ⟨_, rfl⟩
                have GET := Lib.hid (fun i => layB_get f.now o lb hoL i)
                have LEN := Lib.hid (layB_length f.now o lb hoL)
                rw [← hnw] at FO13 GET LEN
                have OL := Lib.hid (show o ≤ L by rw [HL.out]; exact hoL)
                have OM := Lib.hid (show o + m ≤ 16777216 by rw [HMB.out]; exact hom)
                clear hL2 hnw hoL hom
                go_wp2_with fail
                refine FO13.out.mono ?_
                intro e w14 lv
                obtain ⟨k14, A2, c2, rfl, o2⟩ := lv
                have H14 := Lib.hid (H13.out.keep k14)
                have N14 := Lib.hid (show Bs w14 A2 nw from o2.at_)
                have A14 := Lib.hid (show Bs w14 A1 f.now from (O113.out.keep k14).at_)
                have B14 := Lib.hid (HB.out.keep (keeps_trans K2.out H14.out.kp))
                clear k14 o2
                obtain ⟨LN, hLN⟩ : ∃ LN, LN = nw.length := ⟨_, rfl⟩
                have HLN2 := Lib.hid hLN
                rw [← hLN]
                clear hLN
                have lmax : LN = max L (o + m) := by rw [HLN2.out, LEN.out, HL.out, HMB.out]
                obtain ⟨om, hom⟩ : ∃ om, om = o + m := ⟨_, rfl⟩
                have x1 : (o : Int) + (m : Int) = (om : Int) := by omega
                have x2 : ∀ (ts : Array TypeId) (t : TypeId) (w : World), (Builtin.max_ ts t #[.int .i64 (L : Int), .int .i64 (om : Int)]).run Try.prog w = .ok (.int .i64 (LN : Int)) w := by
                  intro ts t w
                  rw [run_max_int2]
                  congr 2
                  split <;> omega
                have x3 : ((LN : Int) != (LN : Int)) = false := by simp
                have x4 : decide ((L : Int) < (o : Int)) = false := decide_eq_false (by have := OL.out; omega)
                have x5 : decide (L < o) = false := decide_eq_false (by have := OL.out; omega)
                have omi : (om : Int) ≤ 16777216 := by have := OM.out; omega
                have lni : (LN : Int) ≤ 16777216 := by have := OM.out; omega
                have HOM := Lib.hid hom
                have HLM := Lib.hid lmax
                clear lmax hom
                go_wp2_with fail
                go_loopw [24] (fun i wr => ∃ j : Nat, j ≤ LN ∧ i = .int .i64 j ∧ Keeps w14 wr) (fun i _ => LN - (intOf i).toNat)
                case atStart => exact ⟨0, Nat.zero_le _, rfl, keeps_refl _⟩
                case round =>
                  obtain ⟨j, hj, rfl, kr⟩ := hrel
                  have KR := Lib.hid kr
                  clear kr
                  by_cases hlt : j < LN
                  · have hjn : (j : Int) < (LN : Int) := by omega
                    obtain ⟨ad, rfl, ha⟩ := (N14.out.keep KR.out).at_ (k := j) (by have := HLN2.out; omega)
                    have G1 := GET.out j
                    have g1 : nw[j]? = some (nw.getD j 0) := by simp [List.getD, show j < nw.length by have := HLN2.out; omega]
                    rw [g1] at G1
                    clear g1
                    generalize nw.getD j 0 = x at *
                    by_cases hin : o ≤ j ∧ j < om
                    · rw [if_pos (by have := HOM.out; have := HMB.out; omega)] at G1
                      obtain ⟨p, hp⟩ : ∃ p, p = j - o := ⟨_, rfl⟩
                      rw [← hp] at G1
                      have hpm : p < lb.length := by have := HOM.out; have := HMB.out; omega
                      obtain ⟨bd, hB1, hb⟩ := (B14.out.keep KR.out).at_ (k := p) hpm
                      have g2 : lb[p]? = some (lb.getD p 0) := by simp [List.getD, hpm]
                      rw [g2] at G1
                      have g3 : x = lb.getD p 0 := Option.some.inj G1
                      rw [← g3] at hb
                      subst hB1
                      have y1 : (j : Int) - (o : Int) = (p : Int) := by omega
                      have y2 : decide ((o : Int) ≤ (j : Int)) = true := decide_eq_true (by omega)
                      have y3 : decide ((j : Int) < (om : Int)) = true := decide_eq_true (by omega)
                      have y4 : ((x.toNat : Int) != (x.toNat : Int)) = false := by simp
                      have y5 : (p : Int) < (m : Int) := by have := HMB.out; omega
                      clear G1 g2 g3 hp hpm hin
                      go_wp2_with fail
                      go_quiet (fail)
                      go_wp2_with fail
                      first
                        | exact ⟨⟨j + 1, by omega, by go_num, keeps_trans KR.out (keeps_drewN _ _)⟩, by simp [intOf]; omega⟩
                        | (refine ⟨?_, ?measure1⟩
                           (repeat apply Exists.intro)
                           refine ⟨?rel1, rfl⟩
                           case rel1 => exact ⟨j + 1, by omega, by go_num, keeps_trans KR.out (keeps_drewN _ _)⟩
                           case measure1 => simp [intOf]; omega)
                    · rw [if_neg (by have := HOM.out; have := HMB.out; omega)] at G1
                      have hjl : j < f.now.length := (List.getElem?_eq_some_iff.1 G1.symm).1
                      obtain ⟨bd, hA1, hb⟩ := (A14.out.keep KR.out).at_ (k := j) hjl
                      have g2 : f.now[j]? = some (f.now.getD j 0) := by simp [List.getD, hjl]
                      rw [g2] at G1
                      have g3 : x = f.now.getD j 0 := Option.some.inj G1
                      rw [← g3] at hb
                      subst hA1
                      have y4 : ((x.toNat : Int) != (x.toNat : Int)) = false := by simp
                      have y5 : (j : Int) < (L : Int) := by have := HL.out; omega
                      clear G1 g2 g3 hjl
                      by_cases hin2 : o ≤ j
                      · have y2 : decide ((o : Int) ≤ (j : Int)) = true := decide_eq_true (by omega)
                        have y2n : decide (o ≤ j) = true := decide_eq_true (by omega)
                        have y2p : (o : Int) ≤ (j : Int) := by omega
                        have y3 : decide ((j : Int) < (om : Int)) = false := decide_eq_false (by omega)
                        have y3n : decide (j < om) = false := decide_eq_false (by omega)
                        clear hin hin2
                        go_wp2_with fail
                        go_quiet (fail)
                        go_wp2_with fail
                        first
                          | exact ⟨⟨j + 1, by omega, by go_num, keeps_trans KR.out (keeps_drewN _ _)⟩, by simp [intOf]; omega⟩
                          | (refine ⟨?_, ?measure2⟩
                             (repeat apply Exists.intro)
                             refine ⟨?rel2, rfl⟩
                             case rel2 => exact ⟨j + 1, by omega, by go_num, keeps_trans KR.out (keeps_drewN _ _)⟩
                             case measure2 => simp [intOf]; omega)
                      · have y2 : decide ((o : Int) ≤ (j : Int)) = false := decide_eq_false (by omega)
                        have y2n : decide (o ≤ j) = false := decide_eq_false (by omega)
                        clear hin hin2
                        go_wp2_with fail
                        go_quiet (fail)
                        go_wp2_with fail
                        first
                          | exact ⟨⟨j + 1, by omega, by go_num, keeps_trans KR.out (keeps_drewN _ _)⟩, by simp [intOf]; omega⟩
                          | (refine ⟨?_, ?measure3⟩
                             (repeat apply Exists.intro)
                             refine ⟨?rel3, rfl⟩
                             case rel3 => exact ⟨j + 1, by omega, by go_num, keeps_trans KR.out (keeps_drewN _ _)⟩
                             case measure3 => simp [intOf]; omega)
                  · obtain rfl : j = LN := by omega
                    clear hlt hj
                    have WF := Lib.hid (WK.out wr (keeps_trans K2.out (keeps_trans H14.out.kp KR.out)))
                    go_wp2_with fail
                    refine WF.out.mono ?_
                    rintro e w16 ⟨rfl, k16⟩
                    go_wp2_with fail
                    go_ret
                    exact ⟨rfl, keeps_trans (keeps_trans K2.out (keeps_trans H14.out.kp KR.out)) k16⟩
        · go_wp2_with fail
          refine (WK.out _ (keeps_trans K2.out H4.out.kp)).mono ?_
          rintro e w5 ⟨rfl, k5⟩
          go_wp2_with fail
          go_ret
          exact ⟨rfl, keeps_trans (keeps_trans K2.out H4.out.kp) k5⟩
      · go_wp2_with fail
        refine (WK.out _ (keeps_trans K2.out k3)).mono ?_
        rintro e w4 ⟨rfl, k4⟩
        go_wp2_with fail
        go_ret
        exact ⟨rfl, keeps_trans (keeps_trans K2.out k3) k4⟩
    · clear hv2
      go_wp2_with fail
      refine WORKS.out.mono ?_
      rintro e w3 ⟨rfl, k3⟩
      go_wp2_with fail
      go_ret
      exact ⟨rfl, keeps_trans K2.out k3⟩
  · clear hv
    go_wp2_with fail
    refine (WK.out _ K1.out).mono ?_
    rintro e w2 ⟨rfl, k2⟩
    go_wp2_with fail
    go_ret
    exact ⟨rfl, keeps_trans K1.out k2⟩
end Go.Proofs.Ytpbkkbkpodcgnaa
