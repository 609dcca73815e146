/- DiskLasts. -/
import Derived.Test.YtpbkkbkpodcgnaaLawDisk14
namespace Go.Proofs.Ytpbkkbkpodcgnaa
open Go.RowKit
set_option linter.unusedSimpArgs false
set_option linter.unusedVariables false
set_option maxRecDepth 100000

/-- a file that lasts as it is -/
def lastF (nm l : List UInt8) : Fl := ⟨nm, l, l, fun _ => false⟩
/-- a disk with power, not armed, that has such a file -/
structure Ready (s : Ds) (nm : List UInt8) (f : Fl) (n : Nat) : Prop where
  off : s.off = false
  armed : s.armed = 0
  get : getF s.l nm = some f
  len : s.l.length ≤ n
theorem gone_ready (s : Ds) (h : s.armed = 0) : goneS s = s := by unfold goneS; rw [if_neg (by omega)]
theorem getF_put_self {l : List Fl} {f : Fl} (h : getF l f.name = none) : getF (putF l f) f.name = some f := by
  induction l with
  | nil => show getF [f] f.name = _; rw [getF_cons, if_pos rfl]
  | cons g l ih =>
    rw [getF_cons] at h
    by_cases e : g.name = f.name
    · rw [if_pos e] at h; cases h
    · rw [if_neg e] at h
      show getF (if g.name < f.name then g :: putF l f else f :: g :: l) f.name = _
      split
      · rw [getF_cons, if_neg e]; exact ih h
      · rw [getF_cons, if_pos rfl]
theorem lasts_create (s : Ds) (nm : List UInt8) (n : Nat) (h : s.off = false) (ha : s.armed = 0) (hn : s.l.length ≤ n) :
    ∃ s' E, createS s nm = (s', E) ∧ (E = 1 ∨ ((E = 0 ∨ E = 4) ∧ nameOk nm = true ∧ ∃ f, Ready s' nm f (n + 1))) := by
  unfold createS
  rw [gone_ready s ha, h, if_neg (by decide)]
  by_cases hk : nameOk nm = false
  · rw [if_pos hk]; exact ⟨_, _, rfl, .inl rfl⟩
  · rw [if_neg hk]
    have hk' : nameOk nm = true := by simpa using hk
    cases hg : getF s.l nm with
    | some f => exact ⟨_, _, rfl, .inr ⟨.inr rfl, hk', f, h, ha, hg, by omega⟩⟩
    | none => exact ⟨_, _, rfl, .inr ⟨.inl rfl, hk', _, h, ha, getF_put_self (f := ⟨nm, [], [], fun _ => false⟩) hg, by show (putF s.l _).length ≤ _; rw [putF_len]; omega⟩⟩
theorem lasts_cut (s : Ds) (nm : List UInt8) (f : Fl) (n : Nat) (hk : nameOk nm = true) (h : Ready s nm f n) : ∃ s' f', cutS s nm 0 = (s', 0) ∧ Ready s' nm f' n ∧ f'.now = [] ∧ f'.name = nm := by
  unfold cutS
  rw [gone_ready s h.armed, h.off, if_neg (by decide), if_neg (by rintro (e | e) <;> first | (rw [hk] at e; cases e) | omega), h.get]
  simp only [Int.toNat_zero, Nat.not_lt_zero, if_false]
  exact ⟨_, cutF f 0, rfl, ⟨h.off, h.armed, getF_set_self h.get (by have := getF_name h.get; exact this), by show (setF _ _).length ≤ _; rw [setF_len]; exact h.len⟩, by simp [cutF], by have := getF_name h.get; exact this⟩
theorem lasts_write (s : Ds) (nm lb : List UInt8) (f : Fl) (n : Nat) (hk : nameOk nm = true) (h : Ready s nm f n) (hf : f.now = []) (hb : lb.length ≤ 4096) :
    ∃ s' E, writeS s nm 0 lb = (s', E) ∧ (E = 5 ∨ (E = 0 ∧ ∃ f', Ready s' nm f' n ∧ f'.now = lb)) := by
  unfold writeS
  rw [gone_ready s h.armed, h.off, if_neg (by decide), if_neg (by rintro (e | e) <;> first | (rw [hk] at e; cases e) | omega), h.get]
  simp only [Int.toNat_zero, Nat.not_lt_zero, if_false]
  rw [if_neg (by omega)]
  split
  · exact ⟨_, _, rfl, .inl rfl⟩
  · exact ⟨_, _, rfl, .inr ⟨rfl, writeF f 0 lb, ⟨h.off, h.armed, getF_set_self h.get (by have := getF_name h.get; exact this), by show (setF _ _).length ≤ _; rw [setF_len]; exact h.len⟩, by show layB f.now 0 lb = lb; rw [hf, layB_nil]⟩⟩
theorem lasts_sync (s : Ds) (nm lb : List UInt8) (f : Fl) (n : Nat) (hk : nameOk nm = true) (h : Ready s nm f n) (hf : f.now = lb) : ∃ s', syncS s nm = (s', 0) ∧ Ready s' nm (lastF nm lb) n := by
  unfold syncS
  rw [gone_ready s h.armed, h.off, if_neg (by decide), if_neg (by rw [hk]; decide), h.get]
  refine ⟨_, rfl, h.off, h.armed, ?_, by show (setF _ _).length ≤ _; rw [setF_len]; exact h.len⟩
  show getF (setF s.l (syncF f)) nm = _
  rw [getF_set_self h.get (show (syncF f).name = nm from getF_name (f := f) h.get)]
  show some (⟨f.name, f.now, f.now, fun _ => false⟩ : Fl) = some ⟨nm, lb, lb, fun _ => false⟩
  rw [hf, getF_name h.get]
theorem lasts_arm (s : Ds) (a : Nat) (h : s.off = false) : armS s (a : Int) = ({ s with armed := a }, 0) := by
  unfold armS
  rw [if_neg (by omega), h, if_neg (by decide)]
  simp
theorem lasts_dead (s : Ds) (nm : List UInt8) : syncS { s with armed := 1 } nm = ({ s with armed := 0, off := true }, 6) := by
  simp [syncS, goneS]
theorem lasts_on (s : Ds) (keep : List Int) (h : s.off = true) : onS s keep = (⟨backL keep s.l 0, s.q, 0, false⟩, 0) := by
  unfold onS
  rw [h, if_neg (by decide)]
theorem lasts_back (keep : List Int) (nm lb : List UInt8) : ∀ (l : List Fl) (base : Nat), getF l nm = some (lastF nm lb) → getF (backL keep l base) nm = some (lastF nm lb)
  | [], _, h => by cases h
  | f :: l, base, h => by
    rw [getF_cons] at h
    show getF (backF f base keep :: backL keep l _) nm = _
    rw [getF_cons]
    by_cases e : f.name = nm
    · rw [if_pos e] at h
      obtain rfl := Option.some.inj h
      rw [if_pos (show (backF (lastF nm lb) base keep).name = nm from rfl)]
      unfold backF
      rw [backB_none (lastF nm lb) _ (fun k => by simp [keptF, lastF])]
      rfl
    · rw [if_neg e] at h
      rw [if_neg (show ¬ (backF f base keep).name = nm from e)]
      exact lasts_back keep nm lb l _ h
theorem lasts_read (s : Ds) (nm lb : List UInt8) (m : Nat) (h : s.off = false) (hk : nameOk nm = true) (hg : getF s.l nm = some (lastF nm lb)) (hm : m = lb.length) : readS s nm 0 ((m : Int) + 1) = (lb, 0) := by
  rw [read_some6 s nm 0 ((m : Int) + 1) (lastF nm lb) h hk hg (by omega) (by omega)]
  have e : ((m : Int) + 1).toNat = m + 1 := by omega
  rw [e]
  show ((lb.drop 0).take (m + 1), 0) = (lb, 0)
  rw [List.drop_zero, List.take_of_length_le (by omega)]
theorem lasts_loose (keep : List Int) : ∀ (l : List Fl) (base : Nat), placesL (backL keep l base) = []
  | [], _ => rfl
  | f :: l, base => by
    show placesL (backF f base keep :: backL keep l _) = []
    have e1 : placesL (backF f base keep :: backL keep l (base + (looseF f).length)) = (looseF (backF f base keep)).map (fun k => ((backF f base keep).name, k)) ++ placesL (backL keep l (base + (looseF f).length)) := by unfold placesL; rw [List.flatMap_cons]
    rw [e1, lasts_loose keep l _]
    simp [looseF, backF]
set_option maxHeartbeats 16000000 in
theorem lasts6_walk (K : DiskOk) (q : Int) (hq : IsI q) (A : Option Addr) (n c : Nat) (l : List OpS) (nm : List UInt8) (hnm : nm.length ≤ maxLen) (B : Option Addr) (m d : Nat) (lb : List UInt8) (A3 : Option Addr) (n3 c3 : Nat) (l3 : List OpS) (cnt : Int) (hcnt : IsI cnt) (A4 : Option Addr) (n4 c4 : Nat) (l4 : List Int) (w : World) (hZ : K.Z w)
    (h : OpsAt w A l) (hn : n = l.length) (hm : n ≤ 9223372036854775807) (hB : Bs w B lb) (hmb : m = lb.length) (hmm : m ≤ 9223372036854775807) (h3 : OpsAt w A3 l3) (hn3 : n3 = l3.length) (hm3 : n3 ≤ 9223372036854775807) (hB4 : At w w.heap.size A4 (intC l4)) (hn4 : n4 = l4.length) (hc4 : n4 ≤ c4) (hm4 : n4 ≤ 9223372036854775807) :
    Calls Try.prog 4 #[.int .i64 q, .slice A n c, .string (str nm), .slice B m d, .slice A3 n3 c3, .int .i64 cnt, .slice A4 n4 c4] w (Yes w) := by
  have WK := Lib.hid (fun (W : World) (q : Keeps w W) => works6 K W (K.keep hZ q))
  have VA := Lib.hid (vast_any A n c l _ h hn hm)
  have VB := Lib.hid (fun (W : World) (q : Keeps w W) => vast_any A3 n3 c3 l3 W (h3.keep q) hn3 hm3)
  have H := Lib.hid h
  have HN := Lib.hid hn
  have HZ := Lib.hid hZ
  have HQ := Lib.hid hq
  have HB := Lib.hid hB
  have HMB := Lib.hid hmb
  have HNM := Lib.hid hnm
  have HM := Lib.hid hm
  have H3 := Lib.hid h3
  have HN3 := Lib.hid hn3
  have HB4 := Lib.hid hB4
  have HN4 := Lib.hid hn4
  have HC4 := Lib.hid hc4
  have HCNT := Lib.hid hcnt
  have mi : (m : Int) ≤ 9223372036854775807 := by omega
  have mi4 : (n4 : Int) ≤ 9223372036854775807 := by omega
  have SZE := str_size nm
  clear h hn hZ hq hB hmb hnm hm h3 hn3 hB4 hn4 hc4 hcnt hmm hm3 hm4
  go_enter Try.func4, Try.ntmps4
  go_wp2_with fail
  refine VA.out.mono ?_
  rintro e w1 ⟨vv, rfl, k1, hv⟩
  have K1 := Lib.hid k1
  clear k1
  rcases vv with _ | _
  · have FW := Lib.hid (hv rfl)
    clear hv
    go_wp2_with fail
    refine (VB.out w1 K1.out).mono ?_
    rintro e w2 ⟨v2, rfl, k2, hv2⟩
    have K2 := Lib.hid (keeps_trans K1.out k2)
    clear k2
    have WORKS := Lib.hid (WK.out _ K2.out)
    rcases v2 with _ | _
    · have FW3 := Lib.hid (hv2 rfl)
      clear hv2
      by_cases big : 4096 < m ∨ 4096 < n4 ∨ 100 < nm.length
      · have ways : (4096 : Int) < (m : Int) ∨ (¬ (4096 : Int) < (m : Int) ∧ (4096 : Int) < (n4 : Int)) ∨ (¬ (4096 : Int) < (m : Int) ∧ ¬ (4096 : Int) < (n4 : Int) ∧ (100 : Int) < (nm.length : Int)) := by omega
        clear big
        rcases ways with w1 | ⟨w1, w2⟩ | ⟨w1, w2, w3⟩
        all_goals
          go_wp2_with fail
          refine WORKS.out.mono ?_
          rintro e w1 ⟨rfl, k1⟩
          go_wp2_with fail
          go_ret
          exact ⟨rfl, keeps_trans K2.out k1⟩
      · have b1 : (m : Int) ≤ 4096 := by omega
        have b2 : (n4 : Int) ≤ 4096 := by omega
        have b3 : (nm.length : Int) ≤ 100 := by omega
        clear big
        have BH := Lib.hid (behind_any K q HQ.out A n c l w2 (K.keep HZ.out K2.out) (H.out.keep K2.out) HN.out HM.out FW.out)
        go_wp2_with fail
        refine BH.out.mono ?_
        rintro e w3 (⟨b, F, hq0, hq1, rfl, hh⟩ | ⟨hq0, rfl, k3⟩)
        · have HH := Lib.hid hh
          have SL := Lib.hid (show (runS ⟨[], q.toNat, 0, false⟩ l).l.length ≤ 150 by have h1 := runS_len ⟨[], q.toNat, 0, false⟩ l; have h2 := FW.out.most; simp only [List.length_nil] at h1; omega)
          have Z2 := Lib.hid (K.keep HZ.out K2.out)
          clear hh
          generalize runS ⟨[], q.toNat, 0, false⟩ l = s at *
          have DE := Lib.hid (K.dead (HH.out.z Z2.out) HH.out.D)
          unfold dpt at DE
          obtain ⟨dd, hdd⟩ : ∃ dd, s.off = dd := ⟨_, rfl⟩
          rw [hdd] at DE
          have HDD := Lib.hid hdd
          clear hdd
          go_wp2_with fail
          refine DE.out.mono ?_
          rintro e w4 ⟨rfl, k4⟩
          have H4 := Lib.hid (HH.out.keep k4)
          clear k4
          rcases dd with _ | _
          · obtain ⟨s1, hs1⟩ : ∃ s1 : Ds, s1 = { s with armed := 0 } := ⟨_, rfl⟩
            have AR := Lib.hid (arm_zero6 s HDD.out)
            rw [← hs1] at AR
            have SL1 := Lib.hid (show s1.l.length ≤ 150 by rw [hs1]; exact SL.out)
            have OFF1 := Lib.hid (show s1.off = false by rw [hs1]; exact HDD.out)
            have ARM1 := Lib.hid (show s1.armed = 0 by rw [hs1])
            clear hs1
            go_wp2_with fail
            refine (H4.out.arm_ Z2.out 0 i0_ok AR.out).mono ?_
            rintro e w5 ⟨rfl, F5, h5⟩
            have H5 := Lib.hid h5
            clear h5
            obtain ⟨s2, E, hcr, hcs⟩ := lasts_create s1 nm 150 OFF1.out ARM1.out SL1.out
            have CR := Lib.hid (H5.out.create_ Z2.out nm _ rfl hcr HNM.out)
            clear hcr
            go_wp2_with fail
            refine CR.out.mono ?_
            rintro e w6 ⟨rfl, F6, h6⟩
            have H6 := Lib.hid h6
            clear h6
            rcases hcs with rfl | ⟨hE, hok, f, hrd⟩
            · have WF := Lib.hid (WK.out w6 (keeps_trans K2.out H6.out.kp))
              go_wp2_with fail
              refine WF.out.mono ?_
              rintro e w7 ⟨rfl, k7⟩
              go_wp2_with fail
              go_ret
              exact ⟨rfl, keeps_trans (keeps_trans K2.out H6.out.kp) k7⟩
            · have OK := Lib.hid hok
              obtain ⟨s3, f3, hct, hr3, hf3, hnf⟩ := lasts_cut s2 nm f 151 hok hrd
              obtain ⟨s4, E4, hwr, hws⟩ := lasts_write s3 nm lb f3 151 hok hr3 hf3 (by have := HMB.out; omega)
              have CT := Lib.hid (H6.out.cut_ Z2.out nm 0 i0_ok _ rfl hct HNM.out)
              have WRS := Lib.hid hwr
              have WS := Lib.hid hws
              clear hok hrd hct hr3 hf3 hnf hwr hws
              rcases hE with rfl | rfl
              all_goals
                go_wp2_with fail
                refine CT.out.mono ?_
                rintro e w7 ⟨rfl, F7, h7⟩
                have H7 := Lib.hid h7
                have TW := Lib.hid (twin6_any B m d lb w7 (HB.out.keep (keeps_trans K2.out h7.kp)) HMB.out (by omega))
                clear h7
                go_wp2_with fail
                refine TW.out.mono ?_
                rintro e w8 ⟨v8, rfl, o8, k8⟩
                obtain ⟨A8, c8, rfl, -⟩ := o8.form
                have WR := Lib.hid (H7.out.write_ Z2.out nm 0 i0_ok _ rfl o8 rfl k8 (by have := HMB.out; omega) WRS.out HNM.out)
                clear o8 k8
                go_wp2_with fail
                refine WR.out.mono ?_
                rintro e w9 ⟨rfl, F9, h9⟩
                have H9 := Lib.hid h9
                clear h9
                rcases WS.out with rfl | ⟨rfl, f4, hr4, hf4⟩
                · have WF := Lib.hid (WK.out w9 (keeps_trans K2.out H9.out.kp))
                  go_wp2_with fail
                  refine WF.out.mono ?_
                  rintro e w10 ⟨rfl, k10⟩
                  go_wp2_with fail
                  go_ret
                  exact ⟨rfl, keeps_trans (keeps_trans K2.out H9.out.kp) k10⟩
                · obtain ⟨s5, hsy, hr5⟩ := lasts_sync s4 nm lb f4 151 OK.out hr4 hf4
                  have SY := Lib.hid (H9.out.sync_ Z2.out nm _ rfl hsy HNM.out)
                  have R5 := Lib.hid hr5
                  clear hr4 hf4 hsy hr5
                  obtain ⟨mx, hmx⟩ : ∃ mx, mx = cnt.toNat := ⟨_, rfl⟩
                  obtain ⟨r, hr⟩ : ∃ r, r = mx % 40 := ⟨_, rfl⟩
                  obtain ⟨a, ha⟩ : ∃ a, a = 1 + r := ⟨_, rfl⟩
                  have x1 : ∀ (ts : Array TypeId) (t : TypeId) (w : World), (Builtin.max_ ts t #[.int .i64 cnt, .int .i64 0]).run Try.prog w = .ok (.int .i64 (mx : Int)) w := by
                    intro ts t w
                    rw [run_max_int2]
                    congr 2
                    split <;> omega
                  have x2 : Int.tmod (mx : Int) 40 = (r : Int) := by rw [Int.tmod_eq_emod_of_nonneg (by omega), hr]; exact (Int.natCast_emod mx 40).symm
                  have x3 : (1 : Int) + (r : Int) = (a : Int) := by omega
                  have ri : (r : Int) ≤ 39 := by omega
                  have ai : (a : Int) ≤ 40 := by omega
                  have mxi : (mx : Int) ≤ 9223372036854775807 := by have := HCNT.out.2; omega
                  have AM := Lib.hid (lasts_arm s5 a R5.out.off)
                  clear hmx hr ha
                  go_wp2_with fail
                  refine SY.out.mono ?_
                  rintro e w10 ⟨rfl, F10, h10⟩
                  have H10 := Lib.hid h10
                  clear h10
                  go_wp2_with fail
                  refine (H10.out.arm_ Z2.out (a : Int) ⟨by omega, by omega⟩ AM.out).mono ?_
                  rintro e w11 ⟨rfl, F11, h11⟩
                  have H11 := Lib.hid h11
                  clear h11 x1 x2 x3
                  go_wp2_with fail
                  go_loopw [20] (fun i wr => ∃ (j : Nat) (s : Ds) (G : Nat → Prop), j ≤ n3 ∧ i = .int .i64 j ∧ Hid (getF s.l nm = some (lastF nm lb)) ∧ Hid (s.l.length ≤ 151 + j) ∧ Have K w2 wr b G s) (fun i _ => n3 - (intOf i).toNat)
                  case atStart => exact ⟨0, { s5 with armed := a }, F11, Nat.zero_le _, rfl, Lib.hid R5.out.get, Lib.hid R5.out.len, H11.out⟩
                  case round =>
                    obtain ⟨j, s6, G, hj, rfl, hg6, hl6, hh6⟩ := hrel
                    have HH6 := Lib.hid hh6
                    clear hh6
                    have n3i : (n3 : Int) ≤ 150 := by have := FW3.out.most; have := HN3.out; omega
                    obtain ⟨d6, hd6⟩ : ∃ d6, s6.off = d6 := ⟨_, rfl⟩
                    have D6 := Lib.hid hd6
                    have DE6 := Lib.hid (fun (V : World) (k : Keeps wr V) => K.dead ((HH6.out.keep k).z Z2.out) (HH6.out.keep k).D)
                    unfold dpt at DE6
                    rw [hd6] at DE6
                    clear hd6
                    by_cases hlt : j < n3
                    · have hjn : (j : Int) < (n3 : Int) := by omega
                      go_wp2_with fail
                      refine (DE6.out _ (keeps_refl _)).mono ?_
                      rintro e w12 ⟨rfl, k12⟩
                      have H12 := Lib.hid (HH6.out.keep k12)
                      have K12 := Lib.hid k12
                      clear k12
                      rcases d6 with _ | _
                      · obtain ⟨o, ho⟩ : ∃ o, l3[j]? = some o := ⟨_, List.getElem?_eq_getElem (by have := HN3.out; omega)⟩
                        have OA := H3.out.keep (keeps_trans K2.out H12.out.kp)
                        obtain ⟨ad, rfl, q0⟩ := OA.cell0 ho
                        have c0 : w12.cell? (ad.add (j * 8)) = some (.int .i64 o.x.kind) := by have := q0 0 (by decide); simpa [opC, Addr.add] using this
                        have c1 := q0 1 (by decide)
                        have c2 := q0 2 (by decide)
                        have c3 := q0 3 (by decide)
                        have c4 := q0 4 (by decide)
                        have c5 := q0 5 (by decide)
                        have c6 := q0 6 (by decide)
                        have c7 := q0 7 (by decide)
                        rw [add_pos6 _ _ (by decide)] at c1 c2 c3 c4 c5 c6 c7
                        simp only [opC, List.getElem?_cons_zero, List.getElem?_cons_succ] at c1 c2 c3 c4 c5 c6 c7
                        have HO := Lib.hid ho
                        clear q0 OA ho
                        unfold strV at *
                        have s1 := str_eq o.x.name nm
                        have s2 := str_eq o.x.to nm
                        by_cases e1 : o.x.name = nm
                        · rw [decide_eq_true e1] at s1
                          clear e1 s2
                          generalize str o.x.name = sn at *
                          generalize str o.x.to = st at *
                          go_wp2_with fail
                          first
                            | exact ⟨⟨j + 1, s6, G, by omega, by go_num, hg6, Lib.hid (by have := hl6.out; omega), H12.out.keep (keeps_alloc _ _)⟩, by simp [intOf]; omega⟩
                            | (refine ⟨?_, by simp [intOf]; omega⟩
                               (repeat apply Exists.intro)
                               refine ⟨?_, rfl⟩
                               exact ⟨j + 1, s6, G, by omega, by go_num, hg6, Lib.hid (by have := hl6.out; omega), H12.out.keep (keeps_alloc _ _)⟩)
                        · rw [decide_eq_false e1] at s1
                          by_cases e2 : o.x.to = nm
                          · rw [decide_eq_true e2] at s2
                            clear e1 e2
                            generalize str o.x.name = sn at *
                            generalize str o.x.to = st at *
                            go_wp2_with fail
                            first
                              | exact ⟨⟨j + 1, s6, G, by omega, by go_num, hg6, Lib.hid (by have := hl6.out; omega), H12.out.keep (keeps_alloc _ _)⟩, by simp [intOf]; omega⟩
                              | (refine ⟨?_, by simp [intOf]; omega⟩
                                 (repeat apply Exists.intro)
                                 refine ⟨?_, rfl⟩
                                 exact ⟨j + 1, s6, G, by omega, by go_num, hg6, Lib.hid (by have := hl6.out; omega), H12.out.keep (keeps_alloc _ _)⟩)
                          · rw [decide_eq_false e2] at s2
                            have E1 := Lib.hid e1
                            have E2 := Lib.hid e2
                            clear e1 e2
                            by_cases e3 : o.x.kind = 9
                            · have e3' : (o.x.kind == 9) = true := by rw [e3]; rfl
                              clear e3
                              generalize str o.x.name = sn at *
                              generalize str o.x.to = st at *
                              go_wp2_with fail
                              first
                                | exact ⟨⟨j + 1, s6, G, by omega, by go_num, hg6, Lib.hid (by have := hl6.out; omega), H12.out.keep (keeps_alloc _ _)⟩, by simp [intOf]; omega⟩
                                | (refine ⟨?_, by simp [intOf]; omega⟩
                                   (repeat apply Exists.intro)
                                   refine ⟨?_, rfl⟩
                                   exact ⟨j + 1, s6, G, by omega, by go_num, hg6, Lib.hid (by have := hl6.out; omega), H12.out.keep (keeps_alloc _ _)⟩)
                            · have e3' : (o.x.kind == 9) = false := by rw [beq_eq_false_iff_ne]; exact e3
                              clear e3
                              by_cases e4 : o.x.kind = 10
                              · have e4' : (o.x.kind == 10) = true := by rw [e4]; rfl
                                clear e4
                                generalize str o.x.name = sn at *
                                generalize str o.x.to = st at *
                                go_wp2_with fail
                                first
                                  | exact ⟨⟨j + 1, s6, G, by omega, by go_num, hg6, Lib.hid (by have := hl6.out; omega), H12.out.keep (keeps_alloc _ _)⟩, by simp [intOf]; omega⟩
                                  | (refine ⟨?_, by simp [intOf]; omega⟩
                                     (repeat apply Exists.intro)
                                     refine ⟨?_, rfl⟩
                                     exact ⟨j + 1, s6, G, by omega, by go_num, hg6, Lib.hid (by have := hl6.out; omega), H12.out.keep (keeps_alloc _ _)⟩)
                              · have e4' : (o.x.kind == 10) = false := by rw [beq_eq_false_iff_ne]; exact e4
                                have E4' := Lib.hid e4
                                clear e4
                                have DO := Lib.hid (does_any K Z2.out (H12.out.keep (keeps_alloc w12 (.cells (opA o) 25))) o (H3.out.ok o (List.mem_of_getElem? HO.out) |>.keep_ K2.out) (by have := FW3.out.each o (List.mem_of_getElem? HO.out); omega) (by have := FW3.out.each o (List.mem_of_getElem? HO.out); omega))
                                unfold opA dpt strV at DO
                                go_wp2_with fail
                                refine DO.out.mono ?_
                                rintro e w13 ⟨v13, G13, rfl, -, hD13, ht13, -⟩
                                have H13 := Lib.hid ((H12.out.keep (keeps_alloc w12 (.cells (opA o) 25))).step hD13 (by have := ht13; exact this))
                                have GET := Lib.hid (show getF (doS s6 o.x).1.l nm = some (lastF nm lb) by rw [doS_other s6 o.x nm E1.out E2.out E4'.out]; exact hg6.out)
                                have LEN := Lib.hid (show (doS s6 o.x).1.l.length ≤ 151 + (j + 1) by have := doS_len s6 o.x; have := hl6.out; omega)
                                clear hD13 ht13
                                go_wp2_with fail
                                exact ⟨⟨j + 1, _, G13, by omega, by go_num, GET, LEN, H13.out⟩, by simp [intOf]; omega⟩
                      · go_wp2_with fail
                        refine (DE6.out _ K12.out).mono ?_
                        rintro e w13 ⟨rfl, k13⟩
                        have H13 := Lib.hid (H12.out.keep k13)
                        clear k13
                        obtain ⟨sN, hsN⟩ : ∃ sN : Ds, sN = ⟨backL l4 (s6).l 0, (s6).q, 0, false⟩ := ⟨_, rfl⟩
                        have ON := Lib.hid (lasts_on (s6) l4 (D6.out))
                        rw [← hsN] at ON
                        have GN := Lib.hid (show getF sN.l nm = some (lastF nm lb) by rw [hsN]; exact lasts_back l4 nm lb _ 0 hg6.out)
                        have LN := Lib.hid (show placesL sN.l = [] by rw [hsN]; exact lasts_loose l4 _ 0)
                        have LLN := Lib.hid (show sN.l.length ≤ 400 by rw [hsN]; show (backL l4 s6.l 0).length ≤ 400; rw [backL_len]; have := hl6.out; omega)
                        have RDD := Lib.hid (lasts_read sN nm lb m (by rw [hsN]) OK.out GN.out HMB.out)
                        clear hsN
                        obtain ⟨i0, hi, hz0, hz1, hz2⟩ := info_parts info_int
                        have ke := keeps_alloc w13 (.cells #[] 3)
                        have O0 := Lib.hid (show Own (w13.alloc (.cells #[] 3)) w13.heap.size 3 1 (.slice (some ⟨w13.heap.size, 0, none⟩) 0 0) 0 [] from ⟨rfl, .inr ⟨w13.heap.size, 0, #[], (0, 0), rfl, Nat.le_refl _, heap_alloc_new w13 _, .inl rfl, Nat.le_refl _, by simp [maxLen], rfl, rfl⟩⟩)
                        have KP2 := Lib.hid (HB4.out.low (keeps_trans (keeps_trans K2.out H13.out.kp) ke))
                        go_wp2_with (at_builtin; refine wpList_app _ rfl _ _ 23 rfl w13.heap.size 3 i0 (.int .i64 0) 1 8 Try.underlying23 hi hz0 hz1 hz2 rfl (by decide) _ 0 [] rfl O0.out _ A4 n4 c4 (intC l4) rfl (by rw [intC_length, HN4.out, Nat.mul_one]) KP2.out (intC_one _) (by unfold maxLen; omega) (by omega) (by simp) ?_; intro v5 u0 hown5 hg5 hb5)
                        have hg5' : (w13.alloc (.cells #[] 3)).grownBy u0 (Value.slice (some ⟨w13.heap.size, 0, none⟩) 0 0).ownBlock := hg5
                        have k5 : Keeps w13 u0 := Below.grown ke hg5' ke.size (fun g hg => (O0.out.lt g hg).1)
                        have o5 : Own u0 w13.heap.size 3 1 v5 n4 (intC l4) := by have := hown5; rwa [Nat.zero_add] at this
                        obtain ⟨A5, c5, rfl, hc5, -, -, hb5'⟩ := o5.form
                        have H5' := Lib.hid (H13.out.keep k5)
                        have AT5 := Lib.hid o5.at_
                        have NI5 := Lib.hid (show ∀ ad, A5 = some ad → ¬ G ad.block from fun ad ha hf => by have h6 := (hb5' ad ha).2.1; have h7 := K.lt H13.out.D _ hf; omega)
                        clear hown5 hg5 hg5' hb5 hb5' o5 ke hi hz0 hz1 hz2 O0 KP2 k5
                        refine (H5'.out.on_ Z2.out A5 n4 c5 l4 AT5.out NI5.out HN4.out hc5 (by omega) ON.out).mono ?_
                        rintro e u1 ⟨rfl, F7, h7⟩
                        have Hu1 := Lib.hid h7
                        clear h7 AT5 NI5
                        have FI := Lib.hid (K.files (Hu1.out.z Z2.out) Hu1.out.D (by have := LLN.out; omega))
                        unfold dpt at FI
                        go_wp2_with fail
                        refine FI.out.mono ?_
                        rintro e u2 ⟨fv, rfl, f2, kk⟩
                        have hlk : lookF (sN.l.map fun f => (f.name, f.now)) nm = some lb := (lookF_fls sN nm).trans (by rw [GN.out]; rfl)
                        have FO := Lib.hid (fileOf_any u1.heap.size fv _ nm (str nm) rfl u2 f2 (by rw [List.length_map]; have := LLN.out; omega))
                        rw [hlk] at FO
                        have Hu2 := Lib.hid (Hu1.out.keep kk)
                        clear f2 kk hlk
                        go_wp2_with fail
                        refine FO.out.mono ?_
                        intro e u3 lv
                        obtain ⟨kk, A9, c9, rfl, o9⟩ := lv
                        rw [← HMB.out]
                        have Hu3 := Lib.hid (Hu2.out.keep kk)
                        have B9 := Lib.hid (show Bs u3 A9 lb from o9.at_)
                        clear kk o9
                        have RD := Lib.hid (Hu3.out.read_ Z2.out nm 0 ((m : Int) + 1) i0_ok ⟨by omega, by omega⟩ _ rfl RDD.out HNM.out)
                        go_wp2_with fail
                        refine RD.out.mono ?_
                        rintro e u4 ⟨A10, c10, rfl, -, o10, h10, k10⟩
                        rw [← HMB.out]
                        have Hu4 := Lib.hid h10
                        have S1 := Lib.hid (same6_any A9 m c9 lb B m d lb u4 (B9.out.keep k10) HMB.out (HB.out.keep (keeps_trans K2.out h10.kp)) HMB.out (by omega))
                        have S2 := Lib.hid (fun (V : World) (k : Keeps u4 V) => same6_any A10 m c10 lb B m d lb V (Bs.keep o10.at_ k) HMB.out (HB.out.keep (keeps_trans K2.out (keeps_trans Hu4.out.kp k))) HMB.out (by omega))
                        rw [decide_eq_true rfl] at S1 S2
                        clear o10 h10 k10
                        go_wp2_with fail
                        refine S1.out.mono ?_
                        rintro e u5 ⟨rfl, k5⟩
                        have K5 := Lib.hid k5
                        clear k5
                        go_wp2_with fail
                        refine (S2.out _ K5.out).mono ?_
                        rintro e u6 ⟨rfl, k6⟩
                        have Hu6 := Lib.hid (Hu4.out.keep (keeps_trans K5.out k6))
                        clear k6
                        have LS := Lib.hid (K.loose (Hu6.out.z Z2.out) Hu6.out.D)
                        unfold dpt at LS
                        rw [LN.out] at LS
                        go_wp2_with fail
                        refine LS.out.mono ?_
                        rintro e u7 ⟨lv, rfl, o7, k7⟩
                        obtain ⟨A7, c7, rfl, -⟩ := o7.form
                        simp only [List.length_nil]
                        have Hu7 := Lib.hid (Hu6.out.keep k7)
                        clear o7 k7
                        have WF := Lib.hid (WK.out u7 (keeps_trans K2.out Hu7.out.kp))
                        go_wp2_with fail
                        refine WF.out.mono ?_
                        rintro e u8 ⟨rfl, k8⟩
                        go_wp2_with fail
                        go_ret
                        exact ⟨rfl, keeps_trans (keeps_trans K2.out Hu7.out.kp) k8⟩
                    · obtain rfl : j = n3 := by omega
                      clear hlt hj
                      go_wp2_with fail
                      refine (DE6.out _ (keeps_refl _)).mono ?_
                      rintro e w12 ⟨rfl, k12⟩
                      have H12 := Lib.hid (HH6.out.keep k12)
                      clear k12
                      rcases d6 with _ | _
                      · go_wp2_with fail
                        refine (H12.out.arm_ Z2.out 1 i1_ok (lasts_arm s6 1 D6.out)).mono ?_
                        rintro e w13 ⟨rfl, F13, h13⟩
                        have H13 := Lib.hid h13
                        clear h13
                        go_wp2_with fail
                        refine (H13.out.sync_ Z2.out [120] _ rfl (lasts_dead s6 [120])).mono ?_
                        rintro e w14 ⟨rfl, F14, h14⟩
                        have H14 := Lib.hid h14
                        clear h14
                        obtain ⟨sN, hsN⟩ : ∃ sN : Ds, sN = ⟨backL l4 ({ s6 with armed := 0, off := true }).l 0, ({ s6 with armed := 0, off := true }).q, 0, false⟩ := ⟨_, rfl⟩
                        have ON := Lib.hid (lasts_on ({ s6 with armed := 0, off := true }) l4 (rfl))
                        rw [← hsN] at ON
                        have GN := Lib.hid (show getF sN.l nm = some (lastF nm lb) by rw [hsN]; exact lasts_back l4 nm lb _ 0 hg6.out)
                        have LN := Lib.hid (show placesL sN.l = [] by rw [hsN]; exact lasts_loose l4 _ 0)
                        have LLN := Lib.hid (show sN.l.length ≤ 400 by rw [hsN]; show (backL l4 s6.l 0).length ≤ 400; rw [backL_len]; have := hl6.out; omega)
                        have RDD := Lib.hid (lasts_read sN nm lb m (by rw [hsN]) OK.out GN.out HMB.out)
                        clear hsN
                        obtain ⟨i0, hi, hz0, hz1, hz2⟩ := info_parts info_int
                        have ke := keeps_alloc w14 (.cells #[] 3)
                        have O0 := Lib.hid (show Own (w14.alloc (.cells #[] 3)) w14.heap.size 3 1 (.slice (some ⟨w14.heap.size, 0, none⟩) 0 0) 0 [] from ⟨rfl, .inr ⟨w14.heap.size, 0, #[], (0, 0), rfl, Nat.le_refl _, heap_alloc_new w14 _, .inl rfl, Nat.le_refl _, by simp [maxLen], rfl, rfl⟩⟩)
                        have KP2 := Lib.hid (HB4.out.low (keeps_trans (keeps_trans K2.out H14.out.kp) ke))
                        go_wp2_with (at_builtin; refine wpList_app _ rfl _ _ 23 rfl w14.heap.size 3 i0 (.int .i64 0) 1 8 Try.underlying23 hi hz0 hz1 hz2 rfl (by decide) _ 0 [] rfl O0.out _ A4 n4 c4 (intC l4) rfl (by rw [intC_length, HN4.out, Nat.mul_one]) KP2.out (intC_one _) (by unfold maxLen; omega) (by omega) (by simp) ?_; intro v5 u0 hown5 hg5 hb5)
                        have hg5' : (w14.alloc (.cells #[] 3)).grownBy u0 (Value.slice (some ⟨w14.heap.size, 0, none⟩) 0 0).ownBlock := hg5
                        have k5 : Keeps w14 u0 := Below.grown ke hg5' ke.size (fun g hg => (O0.out.lt g hg).1)
                        have o5 : Own u0 w14.heap.size 3 1 v5 n4 (intC l4) := by have := hown5; rwa [Nat.zero_add] at this
                        obtain ⟨A5, c5, rfl, hc5, -, -, hb5'⟩ := o5.form
                        have H5' := Lib.hid (H14.out.keep k5)
                        have AT5 := Lib.hid o5.at_
                        have NI5 := Lib.hid (show ∀ ad, A5 = some ad → ¬ F14 ad.block from fun ad ha hf => by have h6 := (hb5' ad ha).2.1; have h7 := K.lt H14.out.D _ hf; omega)
                        clear hown5 hg5 hg5' hb5 hb5' o5 ke hi hz0 hz1 hz2 O0 KP2 k5
                        refine (H5'.out.on_ Z2.out A5 n4 c5 l4 AT5.out NI5.out HN4.out hc5 (by omega) ON.out).mono ?_
                        rintro e u1 ⟨rfl, F7, h7⟩
                        have Hu1 := Lib.hid h7
                        clear h7 AT5 NI5
                        have FI := Lib.hid (K.files (Hu1.out.z Z2.out) Hu1.out.D (by have := LLN.out; omega))
                        unfold dpt at FI
                        go_wp2_with fail
                        refine FI.out.mono ?_
                        rintro e u2 ⟨fv, rfl, f2, kk⟩
                        have hlk : lookF (sN.l.map fun f => (f.name, f.now)) nm = some lb := (lookF_fls sN nm).trans (by rw [GN.out]; rfl)
                        have FO := Lib.hid (fileOf_any u1.heap.size fv _ nm (str nm) rfl u2 f2 (by rw [List.length_map]; have := LLN.out; omega))
                        rw [hlk] at FO
                        have Hu2 := Lib.hid (Hu1.out.keep kk)
                        clear f2 kk hlk
                        go_wp2_with fail
                        refine FO.out.mono ?_
                        intro e u3 lv
                        obtain ⟨kk, A9, c9, rfl, o9⟩ := lv
                        rw [← HMB.out]
                        have Hu3 := Lib.hid (Hu2.out.keep kk)
                        have B9 := Lib.hid (show Bs u3 A9 lb from o9.at_)
                        clear kk o9
                        have RD := Lib.hid (Hu3.out.read_ Z2.out nm 0 ((m : Int) + 1) i0_ok ⟨by omega, by omega⟩ _ rfl RDD.out HNM.out)
                        go_wp2_with fail
                        refine RD.out.mono ?_
                        rintro e u4 ⟨A10, c10, rfl, -, o10, h10, k10⟩
                        rw [← HMB.out]
                        have Hu4 := Lib.hid h10
                        have S1 := Lib.hid (same6_any A9 m c9 lb B m d lb u4 (B9.out.keep k10) HMB.out (HB.out.keep (keeps_trans K2.out h10.kp)) HMB.out (by omega))
                        have S2 := Lib.hid (fun (V : World) (k : Keeps u4 V) => same6_any A10 m c10 lb B m d lb V (Bs.keep o10.at_ k) HMB.out (HB.out.keep (keeps_trans K2.out (keeps_trans Hu4.out.kp k))) HMB.out (by omega))
                        rw [decide_eq_true rfl] at S1 S2
                        clear o10 h10 k10
                        go_wp2_with fail
                        refine S1.out.mono ?_
                        rintro e u5 ⟨rfl, k5⟩
                        have K5 := Lib.hid k5
                        clear k5
                        go_wp2_with fail
                        refine (S2.out _ K5.out).mono ?_
                        rintro e u6 ⟨rfl, k6⟩
                        have Hu6 := Lib.hid (Hu4.out.keep (keeps_trans K5.out k6))
                        clear k6
                        have LS := Lib.hid (K.loose (Hu6.out.z Z2.out) Hu6.out.D)
                        unfold dpt at LS
                        rw [LN.out] at LS
                        go_wp2_with fail
                        refine LS.out.mono ?_
                        rintro e u7 ⟨lv, rfl, o7, k7⟩
                        obtain ⟨A7, c7, rfl, -⟩ := o7.form
                        simp only [List.length_nil]
                        have Hu7 := Lib.hid (Hu6.out.keep k7)
                        clear o7 k7
                        have WF := Lib.hid (WK.out u7 (keeps_trans K2.out Hu7.out.kp))
                        go_wp2_with fail
                        refine WF.out.mono ?_
                        rintro e u8 ⟨rfl, k8⟩
                        go_wp2_with fail
                        go_ret
                        exact ⟨rfl, keeps_trans (keeps_trans K2.out Hu7.out.kp) k8⟩
                      · obtain ⟨sN, hsN⟩ : ∃ sN : Ds, sN = ⟨backL l4 (s6).l 0, (s6).q, 0, false⟩ := ⟨_, rfl⟩
                        have ON := Lib.hid (lasts_on (s6) l4 (D6.out))
                        rw [← hsN] at ON
                        have GN := Lib.hid (show getF sN.l nm = some (lastF nm lb) by rw [hsN]; exact lasts_back l4 nm lb _ 0 hg6.out)
                        have LN := Lib.hid (show placesL sN.l = [] by rw [hsN]; exact lasts_loose l4 _ 0)
                        have LLN := Lib.hid (show sN.l.length ≤ 400 by rw [hsN]; show (backL l4 s6.l 0).length ≤ 400; rw [backL_len]; have := hl6.out; omega)
                        have RDD := Lib.hid (lasts_read sN nm lb m (by rw [hsN]) OK.out GN.out HMB.out)
                        clear hsN
                        obtain ⟨i0, hi, hz0, hz1, hz2⟩ := info_parts info_int
                        have ke := keeps_alloc w12 (.cells #[] 3)
                        have O0 := Lib.hid (show Own (w12.alloc (.cells #[] 3)) w12.heap.size 3 1 (.slice (some ⟨w12.heap.size, 0, none⟩) 0 0) 0 [] from ⟨rfl, .inr ⟨w12.heap.size, 0, #[], (0, 0), rfl, Nat.le_refl _, heap_alloc_new w12 _, .inl rfl, Nat.le_refl _, by simp [maxLen], rfl, rfl⟩⟩)
                        have KP2 := Lib.hid (HB4.out.low (keeps_trans (keeps_trans K2.out H12.out.kp) ke))
                        go_wp2_with (at_builtin; refine wpList_app _ rfl _ _ 23 rfl w12.heap.size 3 i0 (.int .i64 0) 1 8 Try.underlying23 hi hz0 hz1 hz2 rfl (by decide) _ 0 [] rfl O0.out _ A4 n4 c4 (intC l4) rfl (by rw [intC_length, HN4.out, Nat.mul_one]) KP2.out (intC_one _) (by unfold maxLen; omega) (by omega) (by simp) ?_; intro v5 u0 hown5 hg5 hb5)
                        have hg5' : (w12.alloc (.cells #[] 3)).grownBy u0 (Value.slice (some ⟨w12.heap.size, 0, none⟩) 0 0).ownBlock := hg5
                        have k5 : Keeps w12 u0 := Below.grown ke hg5' ke.size (fun g hg => (O0.out.lt g hg).1)
                        have o5 : Own u0 w12.heap.size 3 1 v5 n4 (intC l4) := by have := hown5; rwa [Nat.zero_add] at this
                        obtain ⟨A5, c5, rfl, hc5, -, -, hb5'⟩ := o5.form
                        have H5' := Lib.hid (H12.out.keep k5)
                        have AT5 := Lib.hid o5.at_
                        have NI5 := Lib.hid (show ∀ ad, A5 = some ad → ¬ G ad.block from fun ad ha hf => by have h6 := (hb5' ad ha).2.1; have h7 := K.lt H12.out.D _ hf; omega)
                        clear hown5 hg5 hg5' hb5 hb5' o5 ke hi hz0 hz1 hz2 O0 KP2 k5
                        refine (H5'.out.on_ Z2.out A5 n4 c5 l4 AT5.out NI5.out HN4.out hc5 (by omega) ON.out).mono ?_
                        rintro e u1 ⟨rfl, F7, h7⟩
                        have Hu1 := Lib.hid h7
                        clear h7 AT5 NI5
                        have FI := Lib.hid (K.files (Hu1.out.z Z2.out) Hu1.out.D (by have := LLN.out; omega))
                        unfold dpt at FI
                        go_wp2_with fail
                        refine FI.out.mono ?_
                        rintro e u2 ⟨fv, rfl, f2, kk⟩
                        have hlk : lookF (sN.l.map fun f => (f.name, f.now)) nm = some lb := (lookF_fls sN nm).trans (by rw [GN.out]; rfl)
                        have FO := Lib.hid (fileOf_any u1.heap.size fv _ nm (str nm) rfl u2 f2 (by rw [List.length_map]; have := LLN.out; omega))
                        rw [hlk] at FO
                        have Hu2 := Lib.hid (Hu1.out.keep kk)
                        clear f2 kk hlk
                        go_wp2_with fail
                        refine FO.out.mono ?_
                        intro e u3 lv
                        obtain ⟨kk, A9, c9, rfl, o9⟩ := lv
                        rw [← HMB.out]
                        have Hu3 := Lib.hid (Hu2.out.keep kk)
                        have B9 := Lib.hid (show Bs u3 A9 lb from o9.at_)
                        clear kk o9
                        have RD := Lib.hid (Hu3.out.read_ Z2.out nm 0 ((m : Int) + 1) i0_ok ⟨by omega, by omega⟩ _ rfl RDD.out HNM.out)
                        go_wp2_with fail
                        refine RD.out.mono ?_
                        rintro e u4 ⟨A10, c10, rfl, -, o10, h10, k10⟩
                        rw [← HMB.out]
                        have Hu4 := Lib.hid h10
                        have S1 := Lib.hid (same6_any A9 m c9 lb B m d lb u4 (B9.out.keep k10) HMB.out (HB.out.keep (keeps_trans K2.out h10.kp)) HMB.out (by omega))
                        have S2 := Lib.hid (fun (V : World) (k : Keeps u4 V) => same6_any A10 m c10 lb B m d lb V (Bs.keep o10.at_ k) HMB.out (HB.out.keep (keeps_trans K2.out (keeps_trans Hu4.out.kp k))) HMB.out (by omega))
                        rw [decide_eq_true rfl] at S1 S2
                        clear o10 h10 k10
                        go_wp2_with fail
                        refine S1.out.mono ?_
                        rintro e u5 ⟨rfl, k5⟩
                        have K5 := Lib.hid k5
                        clear k5
                        go_wp2_with fail
                        refine (S2.out _ K5.out).mono ?_
                        rintro e u6 ⟨rfl, k6⟩
                        have Hu6 := Lib.hid (Hu4.out.keep (keeps_trans K5.out k6))
                        clear k6
                        have LS := Lib.hid (K.loose (Hu6.out.z Z2.out) Hu6.out.D)
                        unfold dpt at LS
                        rw [LN.out] at LS
                        go_wp2_with fail
                        refine LS.out.mono ?_
                        rintro e u7 ⟨lv, rfl, o7, k7⟩
                        obtain ⟨A7, c7, rfl, -⟩ := o7.form
                        simp only [List.length_nil]
                        have Hu7 := Lib.hid (Hu6.out.keep k7)
                        clear o7 k7
                        have WF := Lib.hid (WK.out u7 (keeps_trans K2.out Hu7.out.kp))
                        go_wp2_with fail
                        refine WF.out.mono ?_
                        rintro e u8 ⟨rfl, k8⟩
                        go_wp2_with fail
                        go_ret
                        exact ⟨rfl, keeps_trans (keeps_trans K2.out Hu7.out.kp) k8⟩
          · go_wp2_with fail
            refine (WK.out _ (keeps_trans K2.out H4.out.kp)).mono ?_
            rintro e w5 ⟨rfl, k5⟩
            go_wp2_with fail
            go_ret
            exact ⟨rfl, keeps_trans (keeps_trans K2.out H4.out.kp) k5⟩
        · go_wp2_with fail
          refine (WK.out _ (keeps_trans K2.out k3)).mono ?_
          rintro e w4 ⟨rfl, k4⟩
          go_wp2_with fail
          go_ret
          exact ⟨rfl, keeps_trans (keeps_trans K2.out k3) k4⟩
    · clear hv2
      go_wp2_with fail
      refine WORKS.out.mono ?_
      rintro e w3 ⟨rfl, k3⟩
      go_wp2_with fail
      go_ret
      exact ⟨rfl, keeps_trans K2.out k3⟩
  · clear hv
    go_wp2_with fail
    refine (WK.out _ K1.out).mono ?_
    rintro e w2 ⟨rfl, k2⟩
    go_wp2_with fail
    go_ret
    exact ⟨rfl, keeps_trans K1.out k2⟩
end Go.Proofs.Ytpbkkbkpodcgnaa
