/- The reference's disk: Cut. -/
import Derived.Test.YtkhfffflegiapaaGreatDoorQRefU
namespace Go.Proofs.YtkhfffflegiapaaGreatDoor
open Go.RowKit
set_option linter.unusedSimpArgs false
set_option linter.unusedVariables false
set_option maxRecDepth 100000

theorem info_bo : (Tryz.prog.info? 4).map (fun i => (i.zero, i.size, i.bytes)) = some (some (.bool false), 1, 1) := by kernel_rfl
theorem sizeBo : (Tryz.prog.info? 4).map (·.size) = some 1 := by kernel_rfl
section
variable {P : Program}
theorem run_hi (t e : TypeId) (ht : P.underlying t = some (.slice e)) (he : (P.info? e).map (·.size) = some 1) (A : Option Addr) (n c k : Nat) (hk : k ≤ c) (w : World) :
    (Instr.sliceAt t (.slice A n c) none (some (.int .i64 (k : Int))) none).run P w = .ok (.slice A k c) w := by
  have he' : P.elem t = e := by simp [Program.elem, ht]
  have ht' : P.underlying t = some (.slice (P.elem t)) := by rw [he']; exact ht
  obtain ⟨i, hi, hs⟩ := Option.map_eq_some_iff.1 he
  rw [run_sliceAt_slice (h := ht'), run_slice_h (ht := ht') (h0 := by omega) (h2 := by omega)]
  rw [he']
  rcases A with _ | ⟨ab, ao, al⟩
  · simp [sizeOf, typeInfo, hi, hs, sliced]
  · by_cases h : c = 0 <;> simp [sizeOf, typeInfo, hi, hs, sliced, h, Addr.add]
end
theorem bolC_take (l : List Bool) (k : Nat) : bolC (l.take k) = (bolC l).take k := by simp [bolC, List.map_take]
section
variable {w w' wF : World} {b : Nat} {F : Nat → Prop} {s : Ds} {A : Option Addr} {c : Nat} {es : List Ent}
set_option maxHeartbeats 16000000 in
theorem Rk.cut_any (h : Rk w b F s A c es) (hm : es.length ≤ 70000) (nm : List UInt8) (n0 : Int) (hnm : nm.length ≤ maxLen) (h1 : -9223372036854775808 ≤ n0) (h2 : n0 ≤ 9223372036854775807) :
    Calls Tryz.prog 120 #[dpt b, strV nm, .int .i64 n0] w fun e w' => e = .returned (.int .i64 ((cutS s nm n0).2 : Int)) ∧ ∃ F', Rd w' b F' (cutS s nm n0).1 ∧ Turns w w' F F' := by
  obtain ⟨i1, hi1, hy0, hy1, hy2⟩ := info_parts info_b8
  obtain ⟨i2, hi2, hx0, hx1, hx2⟩ := info_parts info_bo
  have H := Lib.hid h
  have GO := Lib.hid h.gone
  have NM := Lib.hid (fun V => refName_any nm hnm V)
  cases ho : (goneS s).off with
  | true =>
    have e : cutS s nm n0 = (goneS s, 6) := by unfold cutS; rw [ho]; rfl
    rw [e]
    rw [ho] at GO
    unfold dpt strV at *
    clear h e
    go_enter Tryz.func120, Tryz.ntmps120
    go_wp2_with fail
    refine GO.out.mono ?_
    rintro e w1 ⟨rfl, hR, hO⟩
    have R1 := Lib.hid hR
    have T1 := Lib.hid (H.out.turn_b hO)
    clear hR hO
    go_wp2_with fail
    go_ret
    exact ⟨rfl, F, ⟨A, c, es, R1.out⟩, T1.out⟩
  | false =>
    rw [ho] at GO
    cases hn : nameOk nm with
    | false =>
      have e : cutS s nm n0 = (goneS s, 1) := by unfold cutS; rw [ho, hn]; simp
      rw [e]
      rw [hn] at NM
      unfold dpt strV at *
      clear h e
      go_enter Tryz.func120, Tryz.ntmps120
      go_wp2_with fail
      refine GO.out.mono ?_
      rintro e w1 ⟨rfl, hR, hO⟩
      have R1 := Lib.hid hR
      have T1 := Lib.hid (H.out.turn_b hO)
      clear hR hO
      go_wp2_with fail
      refine (NM.out _).mono ?_
      rintro e w' ⟨rfl, rfl⟩
      go_wp2_with fail
      go_ret
      exact ⟨rfl, F, ⟨A, c, es, R1.out⟩, T1.out⟩
    | true =>
      rw [hn] at NM
      by_cases hneg : n0 < 0
      · have e : cutS s nm n0 = (goneS s, 1) := by unfold cutS; rw [ho, hn]; simp [hneg]
        rw [e]
        unfold dpt strV at *
        clear h e
        go_enter Tryz.func120, Tryz.ntmps120
        go_wp2_with fail
        refine GO.out.mono ?_
        rintro e w1 ⟨rfl, hR, hO⟩
        have R1 := Lib.hid hR
        have T1 := Lib.hid (H.out.turn_b hO)
        clear hR hO
        go_wp2_with fail
        refine (NM.out _).mono ?_
        rintro e w' ⟨rfl, rfl⟩
        go_wp2_with fail
        go_ret
        exact ⟨rfl, F, ⟨A, c, es, R1.out⟩, T1.out⟩
      · obtain ⟨z, rfl⟩ : ∃ z : Nat, n0 = (z : Int) := ⟨n0.toNat, by omega⟩
        clear hneg h1
        cases hg : Proofs.YtkhfffflegiapaaGreatDoor.getF s.l nm with
        | none =>
          have e : cutS s nm (z : Int) = (goneS s, 3) := by unfold cutS; rw [ho, hn, hg]; simp
          rw [e]
          unfold dpt strV at *
          clear h e
          go_enter Tryz.func120, Tryz.ntmps120
          go_wp2_with fail
          refine GO.out.mono ?_
          rintro e w1 ⟨rfl, hR, hO⟩
          have R1 := Lib.hid hR
          have T1 := Lib.hid (H.out.turn_b hO)
          clear hR hO
          go_wp2_with fail
          refine (NM.out _).mono ?_
          rintro e w' ⟨rfl, rfl⟩
          go_wp2_with fail
          refine (R1.out.at_none hm (nm := nm) (by rw [gone_l]; exact hg)).mono ?_
          rintro e w' ⟨rfl, rfl⟩
          go_wp2_with fail
          go_ret
          exact ⟨rfl, F, ⟨A, c, es, R1.out⟩, T1.out⟩
        | some f =>
          by_cases hlen : f.now.length < z
          · have e : cutS s nm (z : Int) = (goneS s, 1) := by unfold cutS; rw [ho, hn, hg]; simp [hlen]
            rw [e]
            unfold dpt strV at *
            clear h e
            go_enter Tryz.func120, Tryz.ntmps120
            go_wp2_with fail
            refine GO.out.mono ?_
            rintro e w1 ⟨rfl, hR, hO⟩
            have R1 := Lib.hid hR
            have T1 := Lib.hid (H.out.turn_b hO)
            clear hR hO
            go_wp2_with fail
            refine (NM.out _).mono ?_
            rintro e w' ⟨rfl, rfl⟩
            go_wp2_with fail
            obtain ⟨k, x, hx, rfl, hxn, at0⟩ := R1.out.at_some hm (nm := nm) (f := f) (by rw [gone_l]; exact hg)
            refine at0.mono ?_
            rintro e w' ⟨rfl, rfl⟩
            clear at0
            obtain ⟨fo, eo⟩ := R1.out.ok hx
            obtain ⟨g, rfl, q0, -, hgl⟩ := R1.out.cell hx 0 (by decide)
            obtain ⟨g', hg', q1, r1, -⟩ := R1.out.cell hx 1 (by decide)
            obtain rfl : g = g' := by injection hg' with e; injection e
            obtain ⟨g', hg2', q2, r2, -⟩ := R1.out.cell hx 2 (by decide)
            obtain rfl : g = g' := by injection hg2' with e; injection e
            obtain ⟨g', hg3', q3, r3, -⟩ := R1.out.cell hx 3 (by decide)
            obtain rfl : g = g' := by injection hg3' with e; injection e
            obtain ⟨A1, c1, e1, hc1, hcm1, -⟩ := eo.now.form
            obtain ⟨A2, c2, e2, hc2, hcm2, -⟩ := eo.lasts.form
            obtain ⟨A3, c3, e3, hc3, hcm3, -⟩ := eo.loose.form
            obtain ⟨n, hn2⟩ : ∃ n, n = es.length := ⟨_, rfl⟩
            have HN := Lib.hid hn2
            obtain ⟨m1, hm1⟩ : ∃ m, m = x.f.now.length := ⟨_, rfl⟩
            obtain ⟨m2, hm2⟩ : ∃ m, m = x.f.lasts.length := ⟨_, rfl⟩
            obtain ⟨m3, hm3⟩ : ∃ m, m = x.bs.length := ⟨_, rfl⟩
            rw [← hm1] at e1 hc1
            rw [← hm2] at e2 hc2
            rw [← hm3] at e3 hc3
            have HM1 := Lib.hid hm1
            have HM2 := Lib.hid hm2
            have HM3 := Lib.hid hm3
            have EC := Lib.hid (show entC x = [.string (str x.f.name), .slice A1 m1 c1, .slice A2 m2 c2, .slice A3 m3 c3] by unfold entC strV; rw [e1, e2, e3])
            rw [EC.out] at q0 q1 q2 q3
            have q0' : w1.cell? ⟨g, k * 4, none⟩ = some (.string (str x.f.name)) := q0
            have q1' : w1.cell? ⟨g, k * 4 + 1, none⟩ = some (.slice A1 m1 c1) := q1
            have q2' : w1.cell? ⟨g, k * 4 + 2, none⟩ = some (.slice A2 m2 c2) := q2
            have q3' : w1.cell? ⟨g, k * 4 + 3, none⟩ = some (.slice A3 m3 c3) := q3
            have hB1 : Bs w1 A1 x.f.now := by have := eo.now; rw [e1] at this; exact (own_len hm1.symm this).at_
            have hB2 : Bs w1 A2 x.f.lasts := by have := eo.lasts; rw [e2] at this; exact (own_len hm2.symm this).at_
            have hB3 : At w1 w1.heap.size A3 (bolC x.bs) := by have := eo.loose; rw [e3] at this; exact (own_len hm3.symm this).at_
            have c0 : w1.cell? ⟨b, 0, none⟩ = some (.slice (some ⟨g, 0, none⟩) n c) := by rw [hn2]; exact R1.out.box.cell 0 rfl
            have hki : (k : Int) < (n : Int) := by have := (List.getElem?_eq_some_iff.1 hx).1; omega
            have ni : (n : Int) ≤ 70000 := by omega
            have mi1 : m1 ≤ 16777216 := by have := fo.size; omega
            have mi2 : m2 ≤ m1 := by have := fo.lasts; omega
            have mi3 : m3 ≤ sect m1 := by have h1 := eo.few; rw [← hm1, ← hm3] at h1; exact h1
            have MI1 := Lib.hid mi1
            have MI2 := Lib.hid mi2
            have MI3 := Lib.hid mi3
            have hbg : b ≠ g := row_disk R1.out.row R1.out.box
            have hbl := R1.out.box.lt
            have HBG := Lib.hid hbg
            have HBL := Lib.hid hbl
            have HGL := Lib.hid hgl
            generalize hsx : str x.f.name = sx at *
            have KF := Lib.hid (keeps_alloc w1 (.cells #[.string sx, .slice A1 m1 c1, .slice A2 m2 c2, .slice A3 m3 c3] 155))
            have BF := Lib.hid (Box.new w1 155 #[.string sx, .slice A1 m1 c1, .slice A2 m2 c2, .slice A3 m3 c3])
            have HSX := Lib.hid hsx
            have HX := Lib.hid hx
            have FO := Lib.hid fo
            have EO := Lib.hid eo
            have HXN := Lib.hid hxn
            have HB1 := Lib.hid hB1
            have HB2 := Lib.hid hB2
            have HB3 := Lib.hid hB3
            have HC1 := Lib.hid hc1
            have HC2 := Lib.hid hc2
            have HC3 := Lib.hid hc3
            have E1 := Lib.hid e1
            have E2 := Lib.hid e2
            have E3 := Lib.hid e3
            have LC1 := Lib.hid (show (cel x.f.now).length = m1 by rw [cel_length]; exact hm1.symm)
            have LC2 := Lib.hid (show (cel x.f.lasts).length = m2 by rw [cel_length]; exact hm2.symm)
            have LC3 := Lib.hid (show (bolC x.bs).length = m3 by rw [bolC_length]; exact hm3.symm)
            have hgf : g ≠ w1.heap.size := by omega
            have hbf : b ≠ w1.heap.size := by omega
            have HGF := Lib.hid hgf
            have HBF := Lib.hid hbf
            clear fo eo q0 q1 q2 q3 r1 r2 r3 hg' hg2' hg3' hn2 hm1 hm2 hm3 hxn hB1 hB2 hB3 e1 e2 e3 hx hsx hc1 hc2 hc3 hcm1 hcm2 hcm3 hgl hbl hbg hgf hbf mi1 mi2 mi3
            have hzi : (m1 : Int) < (z : Int) := by have := HM1.out; omega
            clear hg
            go_wp2_with fail
            go_ret
            exact ⟨rfl, F, ⟨_, _, _, R1.out.keep KF.out⟩, T1.out.trans (Turns.of_keeps KF.out)⟩
          · have e : cutS s nm (z : Int) = ({ goneS s with l := setF s.l (cutF f z) }, 0) := by unfold cutS; rw [ho, hn, hg]; simp [hlen]
            rw [e]
            unfold dpt strV at *
            clear h e ho
            go_enter Tryz.func120, Tryz.ntmps120
            go_wp2_with fail
            refine GO.out.mono ?_
            rintro e w1 ⟨rfl, hR, hO⟩
            have R1 := Lib.hid hR
            have T1 := Lib.hid (H.out.turn_b hO)
            clear hR hO
            go_wp2_with fail
            refine (NM.out _).mono ?_
            rintro e w' ⟨rfl, rfl⟩
            go_wp2_with fail
            obtain ⟨k, x, hx, rfl, hxn, at0⟩ := R1.out.at_some hm (nm := nm) (f := f) (by rw [gone_l]; exact hg)
            refine at0.mono ?_
            rintro e w' ⟨rfl, rfl⟩
            clear at0
            obtain ⟨fo, eo⟩ := R1.out.ok hx
            obtain ⟨g, rfl, q0, -, hgl⟩ := R1.out.cell hx 0 (by decide)
            obtain ⟨g', hg', q1, r1, -⟩ := R1.out.cell hx 1 (by decide)
            obtain rfl : g = g' := by injection hg' with e; injection e
            obtain ⟨g', hg2', q2, r2, -⟩ := R1.out.cell hx 2 (by decide)
            obtain rfl : g = g' := by injection hg2' with e; injection e
            obtain ⟨g', hg3', q3, r3, -⟩ := R1.out.cell hx 3 (by decide)
            obtain rfl : g = g' := by injection hg3' with e; injection e
            obtain ⟨A1, c1, e1, hc1, hcm1, -⟩ := eo.now.form
            obtain ⟨A2, c2, e2, hc2, hcm2, -⟩ := eo.lasts.form
            obtain ⟨A3, c3, e3, hc3, hcm3, -⟩ := eo.loose.form
            obtain ⟨n, hn2⟩ : ∃ n, n = es.length := ⟨_, rfl⟩
            have HN := Lib.hid hn2
            obtain ⟨m1, hm1⟩ : ∃ m, m = x.f.now.length := ⟨_, rfl⟩
            obtain ⟨m2, hm2⟩ : ∃ m, m = x.f.lasts.length := ⟨_, rfl⟩
            obtain ⟨m3, hm3⟩ : ∃ m, m = x.bs.length := ⟨_, rfl⟩
            rw [← hm1] at e1 hc1
            rw [← hm2] at e2 hc2
            rw [← hm3] at e3 hc3
            have HM1 := Lib.hid hm1
            have HM2 := Lib.hid hm2
            have HM3 := Lib.hid hm3
            have EC := Lib.hid (show entC x = [.string (str x.f.name), .slice A1 m1 c1, .slice A2 m2 c2, .slice A3 m3 c3] by unfold entC strV; rw [e1, e2, e3])
            rw [EC.out] at q0 q1 q2 q3
            have q0' : w1.cell? ⟨g, k * 4, none⟩ = some (.string (str x.f.name)) := q0
            have q1' : w1.cell? ⟨g, k * 4 + 1, none⟩ = some (.slice A1 m1 c1) := q1
            have q2' : w1.cell? ⟨g, k * 4 + 2, none⟩ = some (.slice A2 m2 c2) := q2
            have q3' : w1.cell? ⟨g, k * 4 + 3, none⟩ = some (.slice A3 m3 c3) := q3
            have hB1 : Bs w1 A1 x.f.now := by have := eo.now; rw [e1] at this; exact (own_len hm1.symm this).at_
            have hB2 : Bs w1 A2 x.f.lasts := by have := eo.lasts; rw [e2] at this; exact (own_len hm2.symm this).at_
            have hB3 : At w1 w1.heap.size A3 (bolC x.bs) := by have := eo.loose; rw [e3] at this; exact (own_len hm3.symm this).at_
            have c0 : w1.cell? ⟨b, 0, none⟩ = some (.slice (some ⟨g, 0, none⟩) n c) := by rw [hn2]; exact R1.out.box.cell 0 rfl
            have hki : (k : Int) < (n : Int) := by have := (List.getElem?_eq_some_iff.1 hx).1; omega
            have ni : (n : Int) ≤ 70000 := by omega
            have mi1 : m1 ≤ 16777216 := by have := fo.size; omega
            have mi2 : m2 ≤ m1 := by have := fo.lasts; omega
            have mi3 : m3 ≤ sect m1 := by have h1 := eo.few; rw [← hm1, ← hm3] at h1; exact h1
            have MI1 := Lib.hid mi1
            have MI2 := Lib.hid mi2
            have MI3 := Lib.hid mi3
            have hbg : b ≠ g := row_disk R1.out.row R1.out.box
            have hbl := R1.out.box.lt
            have HBG := Lib.hid hbg
            have HBL := Lib.hid hbl
            have HGL := Lib.hid hgl
            generalize hsx : str x.f.name = sx at *
            have KF := Lib.hid (keeps_alloc w1 (.cells #[.string sx, .slice A1 m1 c1, .slice A2 m2 c2, .slice A3 m3 c3] 155))
            have BF := Lib.hid (Box.new w1 155 #[.string sx, .slice A1 m1 c1, .slice A2 m2 c2, .slice A3 m3 c3])
            have HSX := Lib.hid hsx
            have HX := Lib.hid hx
            have FO := Lib.hid fo
            have EO := Lib.hid eo
            have HXN := Lib.hid hxn
            have HB1 := Lib.hid hB1
            have HB2 := Lib.hid hB2
            have HB3 := Lib.hid hB3
            have HC1 := Lib.hid hc1
            have HC2 := Lib.hid hc2
            have HC3 := Lib.hid hc3
            have E1 := Lib.hid e1
            have E2 := Lib.hid e2
            have E3 := Lib.hid e3
            have LC1 := Lib.hid (show (cel x.f.now).length = m1 by rw [cel_length]; exact hm1.symm)
            have LC2 := Lib.hid (show (cel x.f.lasts).length = m2 by rw [cel_length]; exact hm2.symm)
            have LC3 := Lib.hid (show (bolC x.bs).length = m3 by rw [bolC_length]; exact hm3.symm)
            have hgf : g ≠ w1.heap.size := by omega
            have hbf : b ≠ w1.heap.size := by omega
            have HGF := Lib.hid hgf
            have HBF := Lib.hid hbf
            clear fo eo q0 q1 q2 q3 r1 r2 r3 hg' hg2' hg3' hn2 hm1 hm2 hm3 hxn hB1 hB2 hB3 e1 e2 e3 hx hsx hc1 hc2 hc3 hcm1 hcm2 hcm3 hgl hbl hbg hgf hbf mi1 mi2 mi3
            have hz1 : z ≤ m1 := by have := HM1.out; omega
            have zi : (z : Int) ≤ (m1 : Int) := by omega
            have mi : (m1 : Int) ≤ 16777216 := by have := MI1.out; omega
            obtain ⟨p2, hp2⟩ : ∃ p, p = min z m2 := ⟨_, rfl⟩
            obtain ⟨zs, hzs⟩ : ∃ p, p = sect z := ⟨_, rfl⟩
            obtain ⟨p3, hp3⟩ : ∃ p, p = min zs m3 := ⟨_, rfl⟩
            have mn2 : ∀ (ts : Array TypeId) (t : TypeId) (w : World), (Builtin.min_ ts t #[.int .i64 (z : Int), .int .i64 (m2 : Int)]).run Tryz.prog w = .ok (.int .i64 (p2 : Int)) w := by
              intro ts t w
              rw [run_min_int2]
              congr 2
              split <;> omega
            have mn3 : ∀ (ts : Array TypeId) (t : TypeId) (w : World), (Builtin.min_ ts t #[.int .i64 (zs : Int), .int .i64 (m3 : Int)]).run Tryz.prog w = .ok (.int .i64 (p3 : Int)) w := by
              intro ts t w
              rw [run_min_int2]
              congr 2
              split <;> omega
            have SC := Lib.hid (fun V => refSectors_any z (by have := MI1.out; omega) V)
            rw [← hzs] at SC
            have sl1 := run_hi (P := Tryz.prog) 22 5 Tryz.underlying22 sizeU8g A1 m1 c1 z (by have := HC1.out; omega)
            have sl2 := run_hi (P := Tryz.prog) 22 5 Tryz.underlying22 sizeU8g A2 m2 c2 p2 (by have := HC2.out; omega)
            have sl3 := run_hi (P := Tryz.prog) 153 4 Tryz.underlying153 sizeBo A3 m3 c3 p3 (by have := HC3.out; omega)
            have HP2 := Lib.hid hp2
            have HP3 := Lib.hid hp3
            have HZS := Lib.hid hzs
            have HZ1 := Lib.hid hz1
            have L1 := Lib.hid (show (cel (x.f.now.take z)).length = z by rw [cel_length, List.length_take, ← HM1.out]; omega)
            have L2 := Lib.hid (show (cel (x.f.lasts.take p2)).length = p2 by rw [cel_length, List.length_take, ← HM2.out]; omega)
            have L3 := Lib.hid (show (bolC (x.bs.take p3)).length = p3 by rw [bolC_length, List.length_take, ← HM3.out]; omega)
            have P2 := Lib.hid (show p2 ≤ 16777216 by have := MI1.out; omega)
            have P3 := Lib.hid (show p3 ≤ 16777216 by have := MI1.out; have := MI3.out; unfold sect at this; omega)
            have EN1 := Lib.hid (fun (v : Value) => show entC ⟨cutF x.f z, x.bs.take p3, v, .slice A2 m2 c2, .slice A3 m3 c3⟩ = (entC x).set 1 v by
              rw [EC.out, ← HSX.out]; rfl)
            clear hp2 hp3 hzs hg hz1 hlen
            go_wp2_with fail
            have M0 := Lib.hid ((R1.out.mid HN.out).keep KF.out)
            have S0 := Lib.hid KF.out.size
            have X1 := Lib.hid (HB1.out.keep KF.out)
            generalize w1.alloc (.cells #[.string sx, .slice A1 m1 c1, .slice A2 m2 c2, .slice A3 m3 c3] 155) = W0 at *
            have P1 := Lib.hid (show z ≤ 16777216 by have := MI1.out; have := HZ1.out; omega)
            have k01 := keeps_trans (keeps_drew W0) (keeps_alloc W0.drew (.cells #[] 5))
            have O01 := Lib.hid (own_empty W0.drew 5 1)
            have BB1 := Lib.hid ((X1.out.take z).keep k01)
            have QS1 := Lib.hid (fun (X : World) (kk : Keeps W0 X) => And.intro ((M0.out.keep kk).c0) ((BF.out.keep kk).cell 1 rfl : X.cell? ⟨w1.heap.size, 1, none⟩ = some (.slice A1 m1 c1)))
            have QT1 := Lib.hid (fun (X : World) (kk : Keeps W0 X) (u : Value) => And.intro (((M0.out.keep kk).box.far (p := ⟨g, k * 4 + 1, none⟩) HBG.out u).cell 0 rfl : (X.setCell ⟨g, k * 4 + 1, none⟩ u).cell? ⟨b, 0, none⟩ = some (.slice (some ⟨g, 0, none⟩) n c)) (((BF.out.keep kk).far (p := ⟨g, k * 4 + 1, none⟩) (fun e => HGF.out e.symm) u).cell 1 rfl : (X.setCell ⟨g, k * 4 + 1, none⟩ u).cell? ⟨w1.heap.size, 1, none⟩ = some (.slice A1 m1 c1)))
            go_region_held3 (fun V => V.cell? ⟨b, 0, none⟩ = some (.slice (some ⟨g, 0, none⟩) n c) ∧ V.cell? ⟨w1.heap.size, 1, none⟩ = some (.slice A1 m1 c1)) (first | exact QS1.out _ (by first | assumption | exact keeps_refl _ | exact keeps_drew _ | exact k01) | exact QT1.out _ (by assumption) _) (first
              | ((refine step_appD _ rfl _ _ 22 rfl W0.heap.size 5 i1 (.int .u8 0) 1 1 Tryz.underlying22 hi1 hy0 hy1 hy2 rfl (by decide) _ 0 [] (by simp [Act.eval, Act.put]) O01.out _ A1 z c1 (cel (x.f.now.take z)) (by simp [Act.eval, Act.put]) (by rw [L1.out, Nat.mul_one]) BB1.out (cel_one _) (by have := P1.out; unfold maxLen; omega) (by have := P1.out; omega) (by simp) ?_); intro v6 w6 hown6 hgrow6 hblk6; have k6 : Keeps W0 w6 := Below.grown k01 hgrow6 k01.size (fun g hg => (O01.out.lt g hg).1); have O6 := Lib.hid (show Own w6 W0.heap.size 5 1 v6 z (cel (x.f.now.take z)) by simpa using hown6); obtain ⟨A6, c6, rfl, -⟩ := O6.out.form; obtain ⟨z2, fz2⟩ := (M0.out.keep k6).cell HX.out 1 (by decide); rw [EC.out] at z2; have z2' : w6.cell? ⟨g, k * 4 + 1, none⟩ = some (.slice A1 m1 c1) := z2; clear z2 hown6 hgrow6 hblk6))
            have M1 := Lib.hid ((M0.out.keep k6).put (e' := ⟨cutF x.f z, x.bs.take p3, .slice A6 z c6, .slice A2 m2 c2, .slice A3 m3 c3⟩) HX.out (j := 1) (by decide) (.slice A6 z c6) (EN1.out _))
            have BF1 := Lib.hid ((BF.out.keep k6).far (p := ⟨g, k * 4 + 1, none⟩) (fun e => HGF.out e.symm) (.slice A6 z c6))
            have O11 := Lib.hid ((M0.out.keep k6).far8 O6.out (k * 4 + 1) (.slice A6 z c6))
            have S1 := Lib.hid (show w1.heap.size ≤ (w6.setCell ⟨g, k * 4 + 1, none⟩ (.slice A6 z c6)).heap.size by have := k6.size; have := S0.out; simp; omega)
            clear k01 z2' fz2 k6 O6 QS1 QT1 O01 BB1
            generalize w6.setCell ⟨g, k * 4 + 1, none⟩ (.slice A6 z c6) = W1 at *
            have X2 := Lib.hid (show Bs W1 A2 x.f.lasts by have := (M1.out.ent R1.out HN.out EO.out).lasts; rw [E2.out, ← HM2.out] at this; exact this.at_)
            go_wp2_with fail
            have k02 := keeps_trans (keeps_drew W1) (keeps_alloc W1.drew (.cells #[] 5))
            have O02 := Lib.hid (own_empty W1.drew 5 1)
            have BB2 := Lib.hid ((X2.out.take p2).keep k02)
            have QS2 := Lib.hid (fun (X : World) (kk : Keeps W1 X) => And.intro ((M1.out.keep kk).c0) ((BF1.out.keep kk).cell 2 rfl : X.cell? ⟨w1.heap.size, 2, none⟩ = some (.slice A2 m2 c2)))
            have QT2 := Lib.hid (fun (X : World) (kk : Keeps W1 X) (u : Value) => And.intro (((M1.out.keep kk).box.far (p := ⟨g, k * 4 + 2, none⟩) HBG.out u).cell 0 rfl : (X.setCell ⟨g, k * 4 + 2, none⟩ u).cell? ⟨b, 0, none⟩ = some (.slice (some ⟨g, 0, none⟩) n c)) (((BF1.out.keep kk).far (p := ⟨g, k * 4 + 2, none⟩) (fun e => HGF.out e.symm) u).cell 2 rfl : (X.setCell ⟨g, k * 4 + 2, none⟩ u).cell? ⟨w1.heap.size, 2, none⟩ = some (.slice A2 m2 c2)))
            go_region_held3 (fun V => V.cell? ⟨b, 0, none⟩ = some (.slice (some ⟨g, 0, none⟩) n c) ∧ V.cell? ⟨w1.heap.size, 2, none⟩ = some (.slice A2 m2 c2)) (first | exact QS2.out _ (by first | assumption | exact keeps_refl _ | exact keeps_drew _ | exact k02) | exact QT2.out _ (by assumption) _) (first
              | ((refine step_appD _ rfl _ _ 22 rfl W1.heap.size 5 i1 (.int .u8 0) 1 1 Tryz.underlying22 hi1 hy0 hy1 hy2 rfl (by decide) _ 0 [] (by simp [Act.eval, Act.put]) O02.out _ A2 p2 c2 (cel (x.f.lasts.take p2)) (by simp [Act.eval, Act.put]) (by rw [L2.out, Nat.mul_one]) BB2.out (cel_one _) (by have := P2.out; unfold maxLen; omega) (by have := P2.out; omega) (by simp) ?_); intro v6 w6 hown6 hgrow6 hblk6; have k6 : Keeps W1 w6 := Below.grown k02 hgrow6 k02.size (fun g hg => (O02.out.lt g hg).1); have O6 := Lib.hid (show Own w6 W1.heap.size 5 1 v6 p2 (cel (x.f.lasts.take p2)) by simpa using hown6); obtain ⟨A7, c7, rfl, -⟩ := O6.out.form; obtain ⟨z2, fz2⟩ := (M1.out.keep k6).cell (set_get HX.out _) 2 (by decide); have z2' : w6.cell? ⟨g, k * 4 + 2, none⟩ = some (.slice A2 m2 c2) := z2; clear z2 hown6 hgrow6 hblk6))
            all_goals
              have M2 := Lib.hid ((M1.out.keep k6).put (e' := ⟨cutF x.f z, x.bs.take p3, .slice A6 z c6, .slice A7 p2 c7, .slice A3 m3 c3⟩) (set_get HX.out _) (j := 2) (by decide) (.slice A7 p2 c7) rfl)
              rw [List.set_set] at M2
              have BF2 := Lib.hid ((BF1.out.keep k6).far (p := ⟨g, k * 4 + 2, none⟩) (fun e => HGF.out e.symm) (.slice A7 p2 c7))
              have O22 := Lib.hid ((M1.out.keep k6).far8 O6.out (k * 4 + 2) (.slice A7 p2 c7))
              have S2 := Lib.hid (show w1.heap.size ≤ (w6.setCell ⟨g, k * 4 + 2, none⟩ (.slice A7 p2 c7)).heap.size by have := k6.size; have := S1.out; simp; omega)
              have O12 := Lib.hid ((M1.out.keep k6).far8 (O11.out.keep k6) (k * 4 + 2) (.slice A7 p2 c7))
              clear k02 z2' fz2 k6 O6 QS2 QT2 O02 BB2
              generalize w6.setCell ⟨g, k * 4 + 2, none⟩ (.slice A7 p2 c7) = W2 at *
              have X3 := Lib.hid (show At W2 W2.heap.size A3 (bolC x.bs) by have := (M2.out.ent R1.out HN.out EO.out).loose; rw [E3.out, ← HM3.out] at this; exact this.at_)
              have X3t := Lib.hid (show At W2 W2.heap.size A3 (bolC (x.bs.take p3)) by rw [bolC_take]; exact X3.out.take p3)
              go_wp2_with fail
              have k03 := keeps_trans (keeps_drew W2) (keeps_alloc W2.drew (.cells #[] 4))
              have O03 := Lib.hid (own_empty W2.drew 4 1)
              have BB3 := Lib.hid (X3t.out.keep k03)
              have QS3 := Lib.hid (fun (X : World) (kk : Keeps W2 X) => And.intro ((M2.out.keep kk).c0) ((BF2.out.keep kk).cell 3 rfl : X.cell? ⟨w1.heap.size, 3, none⟩ = some (.slice A3 m3 c3)))
              have QT3 := Lib.hid (fun (X : World) (kk : Keeps W2 X) (u : Value) => And.intro (((M2.out.keep kk).box.far (p := ⟨g, k * 4 + 3, none⟩) HBG.out u).cell 0 rfl : (X.setCell ⟨g, k * 4 + 3, none⟩ u).cell? ⟨b, 0, none⟩ = some (.slice (some ⟨g, 0, none⟩) n c)) (((BF2.out.keep kk).far (p := ⟨g, k * 4 + 3, none⟩) (fun e => HGF.out e.symm) u).cell 3 rfl : (X.setCell ⟨g, k * 4 + 3, none⟩ u).cell? ⟨w1.heap.size, 3, none⟩ = some (.slice A3 m3 c3)))
              go_region_held3 (fun V => V.cell? ⟨b, 0, none⟩ = some (.slice (some ⟨g, 0, none⟩) n c) ∧ V.cell? ⟨w1.heap.size, 3, none⟩ = some (.slice A3 m3 c3)) (first | exact QS3.out _ (by first | assumption | exact keeps_refl _ | exact keeps_drew _ | exact k03) | exact QT3.out _ (by assumption) _) (first
                | ((refine step_appD _ rfl _ _ 153 rfl W2.heap.size 4 i2 (.bool false) 1 1 Tryz.underlying153 hi2 hx0 hx1 hx2 rfl (by decide) _ 0 [] (by simp [Act.eval, Act.put]) O03.out _ A3 p3 c3 (bolC (x.bs.take p3)) (by simp [Act.eval, Act.put]) (by rw [L3.out, Nat.mul_one]) BB3.out (bolC_one _) (by have := P3.out; unfold maxLen; omega) (by have := P3.out; omega) (by simp) ?_); intro v6 w6 hown6 hgrow6 hblk6; have k6 : Keeps W2 w6 := Below.grown k03 hgrow6 k03.size (fun g hg => (O03.out.lt g hg).1); have O6 := Lib.hid (show Own w6 W2.heap.size 4 1 v6 p3 (bolC (x.bs.take p3)) by simpa using hown6); obtain ⟨A8, c8, rfl, -⟩ := O6.out.form; obtain ⟨z2, fz2⟩ := (M2.out.keep k6).cell (set_get HX.out _) 3 (by decide); have z2' : w6.cell? ⟨g, k * 4 + 3, none⟩ = some (.slice A3 m3 c3) := z2; clear z2 hown6 hgrow6 hblk6)
                | (go_at_call 157; refine (SC.out _).mono ?_; rintro e w' ⟨rfl, rfl⟩))
              all_goals
                have M3 := Lib.hid ((M2.out.keep k6).put (e' := ⟨cutF x.f z, x.bs.take p3, .slice A6 z c6, .slice A7 p2 c7, .slice A8 p3 c8⟩) (set_get HX.out _) (j := 3) (by decide) (.slice A8 p3 c8) rfl)
                rw [List.set_set] at M3
                have BF3 := Lib.hid ((BF2.out.keep k6).far (p := ⟨g, k * 4 + 3, none⟩) (fun e => HGF.out e.symm) (.slice A8 p3 c8))
                have O33 := Lib.hid ((M2.out.keep k6).farb O6.out (k * 4 + 3) (.slice A8 p3 c8))
                have S3 := Lib.hid (show w1.heap.size ≤ (w6.setCell ⟨g, k * 4 + 3, none⟩ (.slice A8 p3 c8)).heap.size by have := k6.size; have := S2.out; simp; omega)
                have O13 := Lib.hid ((M2.out.keep k6).far8 (O12.out.keep k6) (k * 4 + 3) (.slice A8 p3 c8))
                have O23 := Lib.hid ((M2.out.keep k6).far8 (O22.out.keep k6) (k * 4 + 3) (.slice A8 p3 c8))
                clear k03 z2' fz2 k6 O6 QS3 QT3 O03 BB3
                generalize w6.setCell ⟨g, k * 4 + 3, none⟩ (.slice A8 p3 c8) = W3 at *
                have FIN := Lib.hid (show Rk W3 b (more w1 W3 F) { goneS s with l := setF s.l (cutF x.f z) } (some ⟨g, 0, none⟩) c (es.set k ⟨cutF x.f z, x.bs.take p3, .slice A6 z c6, .slice A7 p2 c7, .slice A8 p3 c8⟩) ∧ Turns w1 W3 F (more w1 W3 F) from by
                  have hzx : z ≤ x.f.now.length := by have := HZ1.out; have := HM1.out; omega
                  have EN := M3.out.ent R1.out HN.out EO.out
                  have hl1 : (cutF x.f z).now.length = z := by show (x.f.now.take z).length = z; rw [List.length_take]; omega
                  have hlt : x.f.lasts.take p2 = x.f.lasts.take z := by
                    have h2 := HP2.out; have h3 := HM2.out
                    by_cases hq : z ≤ m2
                    · rw [h2, Nat.min_eq_left hq]
                    · rw [List.take_of_length_le (by omega), List.take_of_length_le (by omega)]
                  have hl2 : (cutF x.f z).lasts.length = p2 := by show (x.f.lasts.take z).length = p2; rw [← hlt]; have := L2.out; rwa [cel_length] at this
                  have hl3 : (x.bs.take p3).length = p3 := by have := L3.out; rwa [bolC_length] at this
                  have U := M3.out.fin (e' := ⟨cutF x.f z, x.bs.take p3, .slice A6 z c6, .slice A7 p2 c7, .slice A8 p3 c8⟩) R1.out HX.out HN.out
                    ⟨own_len hl1.symm (O13.out.base_le (Nat.zero_le _)), own_len hl2.symm (by have := O23.out.base_le (Nat.zero_le _); rw [hlt] at this; exact this), own_len hl3.symm (O33.out.base_le (Nat.zero_le _)), fun q => by
                      show (x.f.loose q && decide (q < sect z)) = (x.bs.take p3).getD q false
                      have hfl := EN.flag q
                      rw [hfl]
                      have e3 := HP3.out; have e4 := HZS.out; have e5 := HM3.out
                      by_cases hq : q < sect z
                      · rw [decide_eq_true hq, Bool.and_true, List.getD_eq_getElem?_getD, List.getD_eq_getElem?_getD, List.getElem?_take]
                        by_cases hq2 : q < p3
                        · rw [if_pos hq2]
                        · rw [if_neg hq2, List.getElem?_eq_none (by omega)]
                      · rw [decide_eq_false hq, Bool.and_false, List.getD_eq_getElem?_getD, List.getElem?_take, if_neg (by omega)]
                        rfl, by show (x.bs.take p3).length ≤ sect (cutF x.f z).now.length; rw [hl3, hl1]; have := HP3.out; have := HZS.out; omega,
                     mid_new M3.out S0.out O13.out, mid_new M3.out S1.out O23.out, mid_new M3.out S2.out O33.out⟩ rfl
                    (R1.out.lok.set (f := x.f) (f' := cutF x.f z) (R1.out.got HX.out) (FO.out.cut hzx) (by rw [hl1]; have := R1.out.lok.used; have := sect_le hzx; omega))
                  rw [gone_l] at U
                  exact U)
                go_wp2_with fail
                go_ret
                exact ⟨rfl, _, ⟨_, _, _, FIN.out.1⟩, T1.out.trans FIN.out.2⟩
end
end Go.Proofs.YtkhfffflegiapaaGreatDoor
