/- DiskApart. -/
import Derived.Test.YtpbkkbkpodcgnaaLawDisk12
namespace Go.Proofs.Ytpbkkbkpodcgnaa
open Go.RowKit
set_option linter.unusedSimpArgs false
set_option linter.unusedVariables false
set_option maxRecDepth 100000

theorem at_row6 (w : World) (t : TypeId) (cs : Array Value) : At (w.alloc (.cells cs t)) (w.alloc (.cells cs t)).heap.size (some ⟨w.heap.size, 0, none⟩) cs.toList := by
  refine .inr ⟨_, rfl, by simp, fun j u hu => ?_⟩
  rw [Addr.add_lit]
  have := (Box.new w t cs).cell j (v := u) (by simpa using hu)
  simpa using this
/-- one of them, laid by the call itself -/
theorem opsAt_one {w : World} {o : OpS} (h : OpOk w o) : OpsAt (w.alloc (.cells (opA o) 25)) (some ⟨w.heap.size, 0, none⟩) [o] := by
  refine ⟨?_, fun x hx => ?_⟩
  · have := at_row6 w 25 (opA o)
    simpa [opA, opC] using this
  · obtain rfl := List.mem_singleton.1 hx
    exact h.keep_ (keeps_alloc _ _)
/-- what fileOf tells, in one form -/
theorem LookV.uni {w w' : World} {base : Nat} {r : Option (List UInt8)} {e : Ending} (h : LookV w base r e w') : Keeps w w' ∧ ∃ A c, e = .returned (.tuple #[.slice A (r.getD []).length c, .bool r.isSome]) ∧ Own w' base 5 1 (.slice A (r.getD []).length c) (r.getD []).length (cel (r.getD [])) := by
  obtain ⟨k, h⟩ := h
  cases r with
  | none => exact ⟨k, none, 0, h, Own.nil _ _ _ _⟩
  | some b => exact ⟨k, h⟩
theorem lookF_fls (s : Ds) (nm : List UInt8) : lookF (flsOf s) nm = (getF s.l nm).map (·.now) := by
  unfold lookF flsOf getF
  rw [List.find?_map]
  show Option.map Prod.snd (Option.map _ (s.l.find? fun f => decide (f.name = nm))) = _
  cases s.l.find? fun f => decide (f.name = nm) <;> rfl
/-- the loose sectors of one file -/
theorem cnt_file {l : List Fl} (h : l.Pairwise fun f g => f.name < g.name) (nm : List UInt8) : cntN (placesL l) nm = ((getF l nm).map fun f => (looseF f).length).getD 0 := by
  induction l with
  | nil => rfl
  | cons f l ih =>
    rw [List.pairwise_cons] at h
    have e1 : placesL (f :: l) = (looseF f).map (fun k => (f.name, k)) ++ placesL l := by unfold placesL; rw [List.flatMap_cons]
    have e2 : cntN (placesL (f :: l)) nm = cntN ((looseF f).map fun k => (f.name, k)) nm + cntN (placesL l) nm := by
      unfold cntN
      rw [e1, List.filter_append, List.length_append]
    rw [e2, ih h.2, getF_cons]
    by_cases e : f.name = nm
    · rw [if_pos e]
      have h3 : getF l nm = none := by
        unfold getF
        rw [List.find?_eq_none]
        intro g hg
        have := h.1 g hg
        simp only [decide_eq_true_eq]
        intro q
        rw [e, q] at this
        exact List.lt_irrefl _ this
      have h4 : cntN ((looseF f).map fun k => (f.name, k)) nm = (looseF f).length := by
        unfold cntN
        rw [List.filter_eq_self.2 (by intro p hp; obtain ⟨k, _, rfl⟩ := List.mem_map.1 hp; simp [e]), List.length_map]
      rw [h3, h4]
      rfl
    · rw [if_neg e]
      have h4 : cntN ((looseF f).map fun k => (f.name, k)) nm = 0 := by
        unfold cntN
        rw [List.filter_eq_nil_iff.2 (by intro p hp; obtain ⟨k, _, rfl⟩ := List.mem_map.1 hp; simp [e])]
        rfl
      rw [h4, Nat.zero_add]
theorem places_few {l : List Fl} (h : ∀ f ∈ l, FlOk f) : (placesL l).length ≤ l.length * 262144 := by
  induction l with
  | nil => simp [placesL]
  | cons f l ih =>
    have e1 : placesL (f :: l) = (looseF f).map (fun k => (f.name, k)) ++ placesL l := by unfold placesL; rw [List.flatMap_cons]
    rw [e1, List.length_append, List.length_map, List.length_cons]
    have h1 := ih (fun g hg => h g (List.mem_cons_of_mem _ hg))
    have h2 : (looseF f).length ≤ sect f.now.length := by
      unfold looseF
      exact Nat.le_trans (List.length_filter_le _ _) (by rw [List.length_range]; exact Nat.le_refl _)
    have h3 := (h f List.mem_cons_self).size
    unfold sect at h2
    omega
theorem str_is (a : ByteArray) (h : a.size ≤ maxLen) : ∃ l : List UInt8, a = str l ∧ l.length ≤ maxLen := ⟨a.data.toList, rfl, by simpa using h⟩
set_option maxHeartbeats 16000000 in
theorem apart6_walk (K : DiskOk) (q : Int) (hq : IsI q) (A : Option Addr) (n c : Nat) (l : List OpS) (o : OpS) (nm : List UInt8) (hnm : nm.length ≤ maxLen) (w : World) (hZ : K.Z w) (h : OpsAt w A l) (hn : n = l.length) (hm : n ≤ 9223372036854775807) (ho : OpOk w o) :
    Calls Try.prog 6 #[.int .i64 q, .slice A n c, .agg (opA o), .string (str nm)] w (Yes w) := by
  have k0 := keeps_alloc w (.cells (opA o) 25)
  have bx := Box.new w 25 (opA o)
  have WK := Lib.hid (fun (W : World) (q : Keeps w W) => works6 K W (K.keep hZ q))
  have VA := Lib.hid (vast_any A n c l _ (h.keep k0) hn hm)
  have H := Lib.hid h
  have HN := Lib.hid hn
  have HZ := Lib.hid hZ
  have HQ := Lib.hid hq
  have HO := Lib.hid ho
  have K0 := Lib.hid k0
  have BX := Lib.hid bx
  have HNM := Lib.hid hnm
  have HM := Lib.hid hm
  clear h hn hZ hq ho k0 bx hnm hm
  unfold opA at *
  go_enter Try.func6, Try.ntmps6
  go_wp2_with fail
  refine VA.out.mono ?_
  rintro e w1 ⟨vv, rfl, k1, hv⟩
  have K1 := Lib.hid (keeps_trans K0.out k1)
  have B1 := BX.out.keep k1
  clear k1
  rcases vv with _ | _
  · have FW := Lib.hid (hv rfl)
    have b0 := B1.cell 0 rfl
    have b1 := B1.cell 1 rfl
    have b2 := B1.cell 2 rfl
    have b3 := B1.cell 3 rfl
    have b4 := B1.cell 4 rfl
    have b5 := B1.cell 5 rfl
    have b6 := B1.cell 6 rfl
    have b7 := B1.cell 7 rfl
    have BB1 := Lib.hid B1
    clear hv B1
    have VB := Lib.hid (vast_any (some ⟨w1.heap.size, 0, none⟩) 1 1 [o] _ (opsAt_one (HO.out.keep_ K1.out)) rfl (by decide))
    unfold opA at VB
    go_wp2_with fail
    refine VB.out.mono ?_
    rintro e w2 ⟨v2, rfl, k2, hv2⟩
    have K2 := Lib.hid (keeps_trans K1.out (keeps_trans (keeps_alloc w1 (.cells #[.int .i64 o.x.kind, strV o.x.name, strV o.x.to, .int .i64 o.x.off, .int .i64 o.x.n, .slice o.A o.len o.c, .int .u8 (o.x.mask.toNat : Int), .slice o.A2 o.len2 o.c2] 25)) k2))
    have BB2 := Lib.hid ((BB1.out.keep (keeps_alloc w1 (.cells #[.int .i64 o.x.kind, strV o.x.name, strV o.x.to, .int .i64 o.x.off, .int .i64 o.x.n, .slice o.A o.len o.c, .int .u8 (o.x.mask.toNat : Int), .slice o.A2 o.len2 o.c2] 25))).keep k2)
    clear k2 b0 b1 b2 b3 b4 b5 b6 b7
    have WORKS := Lib.hid (WK.out _ K2.out)
    have b0 := BB2.out.cell 0 rfl
    have b1 := BB2.out.cell 1 rfl
    have b2 := BB2.out.cell 2 rfl
    have b3 := BB2.out.cell 3 rfl
    have b4 := BB2.out.cell 4 rfl
    have b5 := BB2.out.cell 5 rfl
    have b6 := BB2.out.cell 6 rfl
    have b7 := BB2.out.cell 7 rfl
    rcases v2 with _ | _
    · have F1 := Lib.hid ((hv2 rfl).each o (List.mem_singleton.2 rfl))
      clear hv2
      have s1 := str_eq o.x.name nm
      have s2 := str_eq o.x.to nm
      unfold strV at *
      by_cases e1 : o.x.name = nm
      · rw [decide_eq_true e1] at s1
        clear e1 s2
        generalize str o.x.name = sn at *
        generalize str nm = sm at *
        go_wp2_with fail
        refine WORKS.out.mono ?_
        rintro e w3 ⟨rfl, k3⟩
        go_wp2_with fail
        go_ret
        exact ⟨rfl, keeps_trans K2.out k3⟩
      · rw [decide_eq_false e1] at s1
        by_cases e2 : o.x.to = nm
        · rw [decide_eq_true e2] at s2
          clear e1 e2
          generalize str o.x.name = sn at *
          generalize str o.x.to = st at *
          generalize str nm = sm at *
          go_wp2_with fail
          refine WORKS.out.mono ?_
          rintro e w3 ⟨rfl, k3⟩
          go_wp2_with fail
          go_ret
          exact ⟨rfl, keeps_trans K2.out k3⟩
        · rw [decide_eq_false e2] at s2
          have E1 := Lib.hid e1
          have E2 := Lib.hid e2
          clear e1 e2
          by_cases e3 : o.x.kind = 10
          · have e3' : (o.x.kind == 10) = true := by rw [e3]; rfl
            clear e3
            generalize str o.x.name = sn at *
            generalize str o.x.to = st at *
            generalize hsm : str nm = sm at *
            go_wp2_with fail
            refine WORKS.out.mono ?_
            rintro e w3 ⟨rfl, k3⟩
            go_wp2_with fail
            go_ret
            exact ⟨rfl, keeps_trans K2.out k3⟩
          · have e3' : (o.x.kind == 10) = false := by rw [beq_eq_false_iff_ne]; exact e3
            have E3 := Lib.hid e3
            clear e3
            have BH := Lib.hid (behind_any K q HQ.out A n c l w2 (K.keep HZ.out K2.out) (H.out.keep K2.out) HN.out HM.out FW.out)
            go_wp2_with fail
            refine BH.out.mono ?_
            rintro e w3 (⟨b, F, hq0, hq1, rfl, hh⟩ | ⟨hq0, rfl, k3⟩)
            · have HH := Lib.hid hh
              have SL := Lib.hid (show (runS ⟨[], q.toNat, 0, false⟩ l).l.length ≤ 150 by have h1 := runS_len ⟨[], q.toNat, 0, false⟩ l; have h2 := FW.out.most; simp only [List.length_nil] at h1; omega)
              have Z2 := Lib.hid (K.keep HZ.out K2.out)
              have O2 := Lib.hid (HO.out.keep_ K2.out)
              clear hh b0 b1 b2 b3 b4 b5 b6 b7
              generalize runS ⟨[], q.toNat, 0, false⟩ l = s at *
              have OKS := Lib.hid (K.ok HH.out.D)
              have FI := Lib.hid (K.files (HH.out.z Z2.out) HH.out.D (by have := SL.out; omega))
              unfold dpt at FI
              go_wp2_with fail
              refine FI.out.mono ?_
              rintro e w4 ⟨fv, rfl, f4, k4⟩
              obtain ⟨r, hr⟩ : ∃ r, r = (getF s.l nm).map (·.now) := ⟨_, rfl⟩
              have hlk : lookF (s.l.map fun f => (f.name, f.now)) nm = r := by rw [hr]; exact lookF_fls s nm
              have RB := Lib.hid (show (r.getD []).length ≤ 16777216 by
                rw [hr]
                cases hg : getF s.l nm with
                | none => simp
                | some f => exact (OKS.out.files f (getF_mem hg)).size)
              have FO := Lib.hid (fileOf_any w3.heap.size fv _ nm (str nm) rfl w4 f4 (by rw [List.length_map]; have := SL.out; omega))
              rw [hlk] at FO
              have H4 := Lib.hid (HH.out.keep k4)
              have HR := Lib.hid hr
              clear f4 k4 hlk hr
              go_wp2_with fail
              refine FO.out.mono ?_
              intro e w5 lv
              obtain ⟨k5, A1, c1, rfl, o1⟩ := lv.uni
              have H5 := Lib.hid (H4.out.keep k5)
              have O1 := Lib.hid o1
              have LS := Lib.hid (K.loose (H5.out.z Z2.out) H5.out.D)
              unfold dpt at LS
              clear lv k5 o1
              go_wp2_with fail
              refine LS.out.mono ?_
              rintro e w6 ⟨lv, rfl, o6, k6⟩
              have hpl : (placesL s.l).length ≤ 39321600 := by have h1 := places_few OKS.out.files; have := SL.out; omega
              have CN := Lib.hid (count_any _ lv _ nm w6 o6 (by omega))
              unfold strV at CN
              have H6 := Lib.hid (H5.out.keep k6)
              have O16 := Lib.hid (O1.out.keep k6)
              clear o6 k6 hpl
              obtain ⟨cn, hcn⟩ : ∃ cn, cn = cntN (placesL s.l) nm := ⟨_, rfl⟩
              rw [← hcn] at CN
              have HCN := Lib.hid hcn
              clear hcn
              go_wp2_with fail
              refine CN.out.mono ?_
              rintro e w7 ⟨rfl, k7⟩
              have H7 := Lib.hid (H6.out.keep k7)
              have O17 := Lib.hid (O16.out.keep k7)
              have B7 := Lib.hid (BB2.out.keep H7.out.kp)
              clear k7
              have DO := Lib.hid (does_any K Z2.out H7.out o O2.out (by have := F1.out.1; omega) (by have := F1.out.2.1; omega))
              unfold opA dpt strV at DO
              have b0 := B7.out.cell 0 rfl
              have b1 := B7.out.cell 1 rfl
              have b2 := B7.out.cell 2 rfl
              have b3 := B7.out.cell 3 rfl
              have b4 := B7.out.cell 4 rfl
              have b5 := B7.out.cell 5 rfl
              have b6 := B7.out.cell 6 rfl
              have b7 := B7.out.cell 7 rfl
              go_wp2_with fail
              refine DO.out.mono ?_
              rintro e w8 ⟨v8, G8, rfl, -, hD8, ht8, -⟩
              have H8 := Lib.hid (H7.out.step hD8 ht8)
              have O18 := Lib.hid (O17.out.turns ht8 (fun k hk hf => by have h1 := (O17.out.lt k hk).1; have h2 := K.lt HH.out.D k hf; omega))
              have OTH := Lib.hid (doS_other s o.x nm E1.out E2.out E3.out)
              have SL8 := Lib.hid (show (doS s o.x).1.l.length ≤ 151 by have := doS_len s o.x; have := SL.out; omega)
              clear hD8 ht8 b0 b1 b2 b3 b4 b5 b6 b7
              generalize (doS s o.x).1 = s8 at *
              have OK8 := Lib.hid (K.ok H8.out.D)
              have FI8 := Lib.hid (K.files (H8.out.z Z2.out) H8.out.D (by have := SL8.out; omega))
              unfold dpt at FI8
              go_wp2_with fail
              refine FI8.out.mono ?_
              rintro e w9 ⟨fv9, rfl, f9, k9⟩
              have hlk : lookF (s8.l.map fun f => (f.name, f.now)) nm = r := by rw [HR.out, ← OTH.out]; exact lookF_fls s8 nm
              have FO9 := Lib.hid (fileOf_any w8.heap.size fv9 _ nm (str nm) rfl w9 f9 (by rw [List.length_map]; have := SL8.out; omega))
              rw [hlk] at FO9
              have H9 := Lib.hid (H8.out.keep k9)
              have O19 := Lib.hid (O18.out.keep k9)
              clear f9 k9 hlk
              go_wp2_with fail
              refine FO9.out.mono ?_
              intro e w10 lv
              obtain ⟨k10, A2, c2, rfl, o2⟩ := lv.uni
              have H10 := Lib.hid (H9.out.keep k10)
              have O110 := Lib.hid (O19.out.keep k10)
              have O210 := Lib.hid o2
              clear lv k10 o2
              have hcc : cntN (placesL s8.l) nm = cn := by rw [HCN.out, cnt_file OKS.out.rise, cnt_file OK8.out.rise, OTH.out]
              have LS8 := Lib.hid (fun (V : World) (k : Keeps w10 V) => K.loose ((H10.out.keep k).z Z2.out) (H10.out.keep k).D)
              unfold dpt at LS8
              have hpl : (placesL s8.l).length ≤ 39583744 := by have h1 := places_few OK8.out.files; have := SL8.out; omega
              have CN8 := Lib.hid (fun (V : World) (base : Nat) (lv : Value) (h : Own V base 63 2 lv (placesL s8.l).length ((placesL s8.l).flatMap placeC)) => count_any base lv _ nm V h (by omega))
              unfold strV at CN8
              rw [hcc] at CN8
              have SM := Lib.hid (same6_any A1 (r.getD []).length c1 (r.getD []) A2 (r.getD []).length c2 (r.getD []) w10 O110.out.at_ rfl O210.out.at_ rfl (by have := RB.out; omega))
              clear hcc hpl
              generalize r.isSome = rs at *
              have hrs : (rs == rs) = true := beq_self_eq_true rs
              go_wp2_with fail
              refine SM.out.mono ?_
              rintro e w11 ⟨rfl, k11⟩
              simp only [decide_true]
              have K11 := Lib.hid k11
              clear k11
              go_wp2_with fail
              refine (LS8.out _ K11.out).mono ?_
              rintro e w12 ⟨lv12, rfl, o12, k12⟩
              have CM := Lib.hid (CN8.out w12 _ lv12 o12)
              have K12 := Lib.hid (keeps_trans K11.out k12)
              clear o12 k12
              go_wp2_with fail
              refine CM.out.mono ?_
              rintro e w13 ⟨rfl, k13⟩
              have K13 := Lib.hid (keeps_trans K12.out k13)
              clear k13
              have WF := Lib.hid (WK.out w13 (keeps_trans K2.out (keeps_trans H10.out.kp K13.out)))
              go_wp2_with fail
              refine WF.out.mono ?_
              rintro e w14 ⟨rfl, k14⟩
              go_wp2_with fail
              go_ret
              exact ⟨by first | rfl | simp, keeps_trans (keeps_trans K2.out (keeps_trans H10.out.kp K13.out)) k14⟩
            · go_wp2_with fail
              refine (WK.out _ (keeps_trans K2.out k3)).mono ?_
              rintro e w4 ⟨rfl, k4⟩
              go_wp2_with fail
              go_ret
              exact ⟨rfl, keeps_trans (keeps_trans K2.out k3) k4⟩
    · clear hv2
      go_wp2_with fail
      refine WORKS.out.mono ?_
      rintro e w3 ⟨rfl, k3⟩
      go_wp2_with fail
      go_ret
      exact ⟨rfl, keeps_trans K2.out k3⟩
  · clear hv
    go_wp2_with fail
    refine (WK.out _ K1.out).mono ?_
    rintro e w2 ⟨rfl, k2⟩
    go_wp2_with fail
    go_ret
    exact ⟨rfl, keeps_trans K1.out k2⟩
end Go.Proofs.Ytpbkkbkpodcgnaa
