/- The reference's disk: Write. -/
import Derived.Test.YtkhfffflegiapaaGreatDoorQRefK
namespace Go.Proofs.YtkhfffflegiapaaGreatDoor
open Go.RowKit
set_option linter.unusedSimpArgs false
set_option linter.unusedVariables false
set_option maxRecDepth 100000

def sizeV : Value → Nat
  | .slice _ n _ => n
  | _ => 0
/-- as many noughts behind it -/
def padW (l : List UInt8) (k : Nat) : List UInt8 := l ++ List.replicate k 0
def padF (l : List Bool) (k : Nat) : List Bool := l ++ List.replicate k false
theorem padW_succ (l : List UInt8) (k : Nat) : cel (padW l (k + 1)) = cel (padW l k) ++ [.int .u8 0] := by
  unfold padW
  rw [List.replicate_succ', ← List.append_assoc, cel_append]
  rfl
theorem padF_succ (l : List Bool) (k : Nat) : bolC (padF l (k + 1)) = bolC (padF l k) ++ [.bool false] := by
  unfold padF bolC
  rw [List.replicate_succ', ← List.append_assoc, List.map_append]
  rfl
theorem padW_zero (l : List UInt8) : padW l 0 = l := by simp [padW]
theorem padF_zero (l : List Bool) : padF l 0 = l := by simp [padF]
theorem padW_length (l : List UInt8) (k : Nat) : (padW l k).length = l.length + k := by simp [padW]
theorem padF_length (l : List Bool) (k : Nat) : (padF l k).length = l.length + k := by simp [padF]
theorem padF_getD (l : List Bool) (k i : Nat) : (padF l k).getD i false = l.getD i false := by
  unfold padF
  rw [List.getD_eq_getElem?_getD, List.getD_eq_getElem?_getD]
  by_cases h : i < l.length
  · rw [List.getElem?_append_left h]
  · rw [List.getElem?_append_right (by omega), List.getElem?_eq_none (show l.length ≤ i by omega), List.getElem?_replicate]
    split <;> rfl
/-- what is marked behind so many bytes -/
def markB (bs : List Bool) (o : Nat) : Nat → List Bool
  | 0 => bs
  | j + 1 => (markB bs o j).set ((o + j) / 64) true
theorem markB_length (bs : List Bool) (o : Nat) : ∀ j, (markB bs o j).length = bs.length
  | 0 => rfl
  | j + 1 => by unfold markB; rw [List.length_set]; exact markB_length bs o j
theorem markB_getD (bs : List Bool) (o i : Nat) : ∀ j, (∀ t, t < j → (o + t) / 64 < bs.length) → (markB bs o j).getD i false = (bs.getD i false || (decide (0 < j) && decide (o / 64 ≤ i) && decide (i ≤ (o + j - 1) / 64)))
  | 0, _ => by simp [markB]
  | j + 1, h => by
    have ih := markB_getD bs o i j (fun t ht => h t (by omega))
    have hl := h j (by omega)
    unfold markB
    rw [List.getD_eq_getElem?_getD, List.getElem?_set, markB_length]
    by_cases e : (o + j) / 64 = i
    · rw [if_pos e, if_pos hl]
      have h1 : decide (o / 64 ≤ i) = true := decide_eq_true (by omega)
      have h2 : decide (i ≤ (o + (j + 1) - 1) / 64) = true := decide_eq_true (by omega)
      rw [h1, h2]
      simp
    · rw [if_neg e]
      rw [List.getD_eq_getElem?_getD] at ih
      rw [ih]
      congr 1
      by_cases hj : j = 0
      · subst hj
        by_cases h1 : o / 64 ≤ i
        · have h2 : decide (i ≤ (o + (0 + 1) - 1) / 64) = false := decide_eq_false (by omega)
          rw [h2]; simp
        · rw [decide_eq_false h1]; simp
      · rw [decide_eq_true (show 0 < j by omega), decide_eq_true (show 0 < j + 1 by omega), Bool.true_and]
        congr 1
        by_cases h2 : i ≤ (o + j - 1) / 64
        · rw [decide_eq_true h2, decide_eq_true (by omega)]
        · rw [decide_eq_false h2, decide_eq_false (by omega)]
theorem layB_take_succ (p l : List UInt8) (o j : Nat) (hj : j < l.length) (ho : o + l.length ≤ p.length) : (layB p o (l.take j)).set (o + j) (l.getD j 0) = layB p o (l.take (j + 1)) := by
  have hlt : (l.take j).length = j := by rw [List.length_take]; omega
  have hlt1 : (l.take (j + 1)).length = j + 1 := by rw [List.length_take]; omega
  have hll : (layB p o (l.take j)).length = p.length := by rw [layB_length _ _ _ (by omega), hlt]; omega
  apply List.ext_getElem?
  intro i
  rw [List.getElem?_set, hll, layB_get _ _ _ (by omega), layB_get _ _ _ (by omega), hlt, hlt1]
  by_cases e : o + j = i
  · subst e
    rw [if_pos rfl, if_pos (by omega), if_pos (by omega), List.getElem?_take, if_pos (by omega), show o + j - o = j by omega, List.getD_eq_getElem?_getD, List.getElem?_eq_getElem hj]
    rfl
  · rw [if_neg e]
    by_cases h1 : o ≤ i ∧ i < o + j
    · rw [if_pos h1, if_pos (by omega), List.getElem?_take, List.getElem?_take, if_pos (by omega), if_pos (by omega)]
    · rw [if_neg h1, if_neg (by omega)]
theorem layB_zero (p l : List UInt8) (o : Nat) : layB p o (l.take 0) = p := by simp [layB]
theorem layB_pad (now l : List UInt8) (o e : Nat) (ho : o ≤ now.length) (he : e = max now.length (o + l.length)) : layB (padW now (e - now.length)) o l = layB now o l := by
  have hp := padW_length now (e - now.length)
  apply List.ext_getElem?
  intro i
  rw [layB_get _ _ _ (by omega), layB_get _ _ _ ho]
  by_cases h1 : o ≤ i ∧ i < o + l.length
  · rw [if_pos h1, if_pos h1]
  · rw [if_neg h1, if_neg h1]
    unfold padW
    by_cases h2 : i < now.length
    · rw [List.getElem?_append_left h2]
    · rw [List.getElem?_append_right (by omega), List.getElem?_eq_none (show now.length ≤ i by omega), List.getElem?_replicate, if_neg (by omega)]
section
variable {w w' wF : World} {b : Nat} {F : Nat → Prop} {s : Ds} {A : Option Addr} {c : Nat} {es : List Ent}
set_option maxHeartbeats 16000000 in
theorem Rk.write_any (h : Rk w b F s A c es) (hm : es.length ≤ 70000) (nm : List UInt8) (off : Int) (AB : Option Addr) (nb cb : Nat) (l : List UInt8) (hnm : nm.length ≤ maxLen) (h1 : -9223372036854775808 ≤ off) (h2 : off ≤ 9223372036854775807)
    (hB : Bs w AB l) (hAF : ∀ ad, AB = some ad → l ≠ [] → ¬ F ad.block) (hnl : nb = l.length) (hnc : nb ≤ cb) (hn7 : nb ≤ 70000) :
    Calls Tryz.prog 117 #[dpt b, strV nm, .int .i64 off, .slice AB nb cb] w fun e w' => e = .returned (.int .i64 ((writeS s nm off l).2 : Int)) ∧ ∃ F', Rd w' b F' (writeS s nm off l).1 ∧ Turns w w' F F' := by
  obtain ⟨i1, hi1, hy0, hy1, hy2⟩ := info_parts info_b8
  obtain ⟨i2, hi2, hx0, hx1, hx2⟩ := info_parts info_bo
  have H := Lib.hid h
  have GO := Lib.hid h.gone
  have NM := Lib.hid (fun V => refName_any nm hnm V)
  have BW := Lib.hid (show ∀ (V : World), Turns w V F F → Bs V AB l from fun V t => by
    by_cases hl : l = []
    · rw [hl]; exact Bs.nil _ _
    · exact Bs.turns hB t (fun ad ha => hAF ad ha hl))
  have HNL := Lib.hid hnl
  have HNC := Lib.hid hnc
  have HN7 := Lib.hid hn7
  clear hB hAF hnl hnc hn7
  cases ho : (goneS s).off with
  | true =>
    have e : writeS s nm off l = (goneS s, 6) := by unfold writeS; rw [ho]; rfl
    rw [e]
    rw [ho] at GO
    unfold dpt strV at *
    clear h e
    go_enter Tryz.func117, Tryz.ntmps117
    go_wp2_with fail
    refine GO.out.mono ?_
    rintro e w1 ⟨rfl, hR, hO⟩
    have R1 := Lib.hid hR
    have T1 := Lib.hid (H.out.turn_b hO)
    clear hR hO
    go_wp2_with fail
    go_ret
    exact ⟨rfl, F, ⟨A, c, es, R1.out⟩, T1.out⟩
  | false =>
    rw [ho] at GO
    cases hn : nameOk nm with
    | false =>
      have e : writeS s nm off l = (goneS s, 1) := by unfold writeS; rw [ho, hn]; simp
      rw [e]
      rw [hn] at NM
      unfold dpt strV at *
      clear h e
      go_enter Tryz.func117, Tryz.ntmps117
      go_wp2_with fail
      refine GO.out.mono ?_
      rintro e w1 ⟨rfl, hR, hO⟩
      have R1 := Lib.hid hR
      have T1 := Lib.hid (H.out.turn_b hO)
      clear hR hO
      go_wp2_with fail
      refine (NM.out _).mono ?_
      rintro e w' ⟨rfl, rfl⟩
      go_wp2_with fail
      go_ret
      exact ⟨rfl, F, ⟨A, c, es, R1.out⟩, T1.out⟩
    | true =>
      rw [hn] at NM
      by_cases hneg : off < 0
      · have e : writeS s nm off l = (goneS s, 1) := by unfold writeS; rw [ho, hn]; simp [hneg]
        rw [e]
        unfold dpt strV at *
        clear h e
        go_enter Tryz.func117, Tryz.ntmps117
        go_wp2_with fail
        refine GO.out.mono ?_
        rintro e w1 ⟨rfl, hR, hO⟩
        have R1 := Lib.hid hR
        have T1 := Lib.hid (H.out.turn_b hO)
        clear hR hO
        go_wp2_with fail
        refine (NM.out _).mono ?_
        rintro e w' ⟨rfl, rfl⟩
        go_wp2_with fail
        go_ret
        exact ⟨rfl, F, ⟨A, c, es, R1.out⟩, T1.out⟩
      · obtain ⟨o, rfl⟩ : ∃ o : Nat, off = (o : Int) := ⟨off.toNat, by omega⟩
        clear hneg h1
        cases hg : Proofs.YtkhfffflegiapaaGreatDoor.getF s.l nm with
        | none =>
          have e : writeS s nm (o : Int) l = (goneS s, 3) := by unfold writeS; rw [ho, hn, hg]; simp
          rw [e]
          unfold dpt strV at *
          clear h e
          go_enter Tryz.func117, Tryz.ntmps117
          go_wp2_with fail
          refine GO.out.mono ?_
          rintro e w1 ⟨rfl, hR, hO⟩
          have R1 := Lib.hid hR
          have T1 := Lib.hid (H.out.turn_b hO)
          clear hR hO
          go_wp2_with fail
          refine (NM.out _).mono ?_
          rintro e w' ⟨rfl, rfl⟩
          go_wp2_with fail
          refine (R1.out.at_none hm (nm := nm) (by rw [gone_l]; exact hg)).mono ?_
          rintro e w' ⟨rfl, rfl⟩
          go_wp2_with fail
          go_ret
          exact ⟨rfl, F, ⟨A, c, es, R1.out⟩, T1.out⟩
        | some f =>
          by_cases hlen : f.now.length < o
          · have e : writeS s nm (o : Int) l = (goneS s, 1) := by unfold writeS; rw [ho, hn, hg]; simp [hlen]
            rw [e]
            unfold dpt strV at *
            clear h e
            go_enter Tryz.func117, Tryz.ntmps117
            go_wp2_with fail
            refine GO.out.mono ?_
            rintro e w1 ⟨rfl, hR, hO⟩
            have R1 := Lib.hid hR
            have T1 := Lib.hid (H.out.turn_b hO)
            clear hR hO
            go_wp2_with fail
            refine (NM.out _).mono ?_
            rintro e w' ⟨rfl, rfl⟩
            go_wp2_with fail
            obtain ⟨k, x, hx, rfl, hxn, at0⟩ := R1.out.at_some hm (nm := nm) (f := f) (by rw [gone_l]; exact hg)
            refine at0.mono ?_
            rintro e w' ⟨rfl, rfl⟩
            clear at0
            obtain ⟨fo, eo⟩ := R1.out.ok hx
            obtain ⟨g, rfl, q0, -, hgl⟩ := R1.out.cell hx 0 (by decide)
            obtain ⟨g', hg', q1, r1, -⟩ := R1.out.cell hx 1 (by decide)
            obtain rfl : g = g' := by injection hg' with e; injection e
            obtain ⟨g', hg2', q2, r2, -⟩ := R1.out.cell hx 2 (by decide)
            obtain rfl : g = g' := by injection hg2' with e; injection e
            obtain ⟨g', hg3', q3, r3, -⟩ := R1.out.cell hx 3 (by decide)
            obtain rfl : g = g' := by injection hg3' with e; injection e
            obtain ⟨A1, c1, e1, hc1, hcm1, -⟩ := eo.now.form
            obtain ⟨A2, c2, e2, hc2, hcm2, -⟩ := eo.lasts.form
            obtain ⟨A3, c3, e3, hc3, hcm3, -⟩ := eo.loose.form
            obtain ⟨n, hn2⟩ : ∃ n, n = es.length := ⟨_, rfl⟩
            have HN := Lib.hid hn2
            obtain ⟨m1, hm1⟩ : ∃ m, m = x.f.now.length := ⟨_, rfl⟩
            obtain ⟨m2, hm2⟩ : ∃ m, m = x.f.lasts.length := ⟨_, rfl⟩
            obtain ⟨m3, hm3⟩ : ∃ m, m = x.bs.length := ⟨_, rfl⟩
            rw [← hm1] at e1 hc1
            rw [← hm2] at e2 hc2
            rw [← hm3] at e3 hc3
            have HM1 := Lib.hid hm1
            have HM2 := Lib.hid hm2
            have HM3 := Lib.hid hm3
            have EC := Lib.hid (show entC x = [.string (str x.f.name), .slice A1 m1 c1, .slice A2 m2 c2, .slice A3 m3 c3] by unfold entC strV; rw [e1, e2, e3])
            rw [EC.out] at q0 q1 q2 q3
            have q0' : w1.cell? ⟨g, k * 4, none⟩ = some (.string (str x.f.name)) := q0
            have q1' : w1.cell? ⟨g, k * 4 + 1, none⟩ = some (.slice A1 m1 c1) := q1
            have q2' : w1.cell? ⟨g, k * 4 + 2, none⟩ = some (.slice A2 m2 c2) := q2
            have q3' : w1.cell? ⟨g, k * 4 + 3, none⟩ = some (.slice A3 m3 c3) := q3
            have hB1 : Bs w1 A1 x.f.now := by have := eo.now; rw [e1] at this; exact (own_len hm1.symm this).at_
            have hB2 : Bs w1 A2 x.f.lasts := by have := eo.lasts; rw [e2] at this; exact (own_len hm2.symm this).at_
            have hB3 : At w1 w1.heap.size A3 (bolC x.bs) := by have := eo.loose; rw [e3] at this; exact (own_len hm3.symm this).at_
            have c0 : w1.cell? ⟨b, 0, none⟩ = some (.slice (some ⟨g, 0, none⟩) n c) := by rw [hn2]; exact R1.out.box.cell 0 rfl
            have hki : (k : Int) < (n : Int) := by have := (List.getElem?_eq_some_iff.1 hx).1; omega
            have ni : (n : Int) ≤ 70000 := by omega
            have mi1 : m1 ≤ 16777216 := by have := fo.size; omega
            have mi2 : m2 ≤ m1 := by have := fo.lasts; omega
            have mi3 : m3 ≤ sect m1 := by have h1 := eo.few; rw [← hm1, ← hm3] at h1; exact h1
            have MI1 := Lib.hid mi1
            have MI2 := Lib.hid mi2
            have MI3 := Lib.hid mi3
            have hbg : b ≠ g := row_disk R1.out.row R1.out.box
            have hbl := R1.out.box.lt
            have HBG := Lib.hid hbg
            have HBL := Lib.hid hbl
            have HGL := Lib.hid hgl
            generalize hsx : str x.f.name = sx at *
            have KF := Lib.hid (keeps_alloc w1 (.cells #[.string sx, .slice A1 m1 c1, .slice A2 m2 c2, .slice A3 m3 c3] 155))
            have BF := Lib.hid (Box.new w1 155 #[.string sx, .slice A1 m1 c1, .slice A2 m2 c2, .slice A3 m3 c3])
            have HSX := Lib.hid hsx
            have HX := Lib.hid hx
            have FO := Lib.hid fo
            have EO := Lib.hid eo
            have HXN := Lib.hid hxn
            have HB1 := Lib.hid hB1
            have HB2 := Lib.hid hB2
            have HB3 := Lib.hid hB3
            have HC1 := Lib.hid hc1
            have HC2 := Lib.hid hc2
            have HC3 := Lib.hid hc3
            have E1 := Lib.hid e1
            have E2 := Lib.hid e2
            have E3 := Lib.hid e3
            have LC1 := Lib.hid (show (cel x.f.now).length = m1 by rw [cel_length]; exact hm1.symm)
            have LC2 := Lib.hid (show (cel x.f.lasts).length = m2 by rw [cel_length]; exact hm2.symm)
            have LC3 := Lib.hid (show (bolC x.bs).length = m3 by rw [bolC_length]; exact hm3.symm)
            have hgf : g ≠ w1.heap.size := by omega
            have hbf : b ≠ w1.heap.size := by omega
            have HGF := Lib.hid hgf
            have HBF := Lib.hid hbf
            clear fo eo q0 q1 q2 q3 r1 r2 r3 hg' hg2' hg3' hn2 hm1 hm2 hm3 hxn hB1 hB2 hB3 e1 e2 e3 hx hsx hc1 hc2 hc3 hcm1 hcm2 hcm3 hgl hbl hbg hgf hbf mi1 mi2 mi3
            have hzi : (m1 : Int) < (o : Int) := by have := HM1.out; omega
            clear hg
            go_wp2_with fail
            go_ret
            exact ⟨rfl, F, ⟨_, _, _, R1.out.keep KF.out⟩, T1.out.trans (Turns.of_keeps KF.out)⟩
          · by_cases hbig : 16777216 < o + l.length
            · have e : writeS s nm (o : Int) l = (goneS s, 9) := by unfold writeS; rw [ho, hn, hg]; simp [hlen, hbig]
              rw [e]
              unfold dpt strV at *
              clear h e
              go_enter Tryz.func117, Tryz.ntmps117
              go_wp2_with fail
              refine GO.out.mono ?_
              rintro e w1 ⟨rfl, hR, hO⟩
              have R1 := Lib.hid hR
              have T1 := Lib.hid (H.out.turn_b hO)
              clear hR hO
              go_wp2_with fail
              refine (NM.out _).mono ?_
              rintro e w' ⟨rfl, rfl⟩
              go_wp2_with fail
              obtain ⟨k, x, hx, rfl, hxn, at0⟩ := R1.out.at_some hm (nm := nm) (f := f) (by rw [gone_l]; exact hg)
              refine at0.mono ?_
              rintro e w' ⟨rfl, rfl⟩
              clear at0
              obtain ⟨fo, eo⟩ := R1.out.ok hx
              obtain ⟨g, rfl, q0, -, hgl⟩ := R1.out.cell hx 0 (by decide)
              obtain ⟨g', hg', q1, r1, -⟩ := R1.out.cell hx 1 (by decide)
              obtain rfl : g = g' := by injection hg' with e; injection e
              obtain ⟨g', hg2', q2, r2, -⟩ := R1.out.cell hx 2 (by decide)
              obtain rfl : g = g' := by injection hg2' with e; injection e
              obtain ⟨g', hg3', q3, r3, -⟩ := R1.out.cell hx 3 (by decide)
              obtain rfl : g = g' := by injection hg3' with e; injection e
              obtain ⟨A1, c1, e1, hc1, hcm1, -⟩ := eo.now.form
              obtain ⟨A2, c2, e2, hc2, hcm2, -⟩ := eo.lasts.form
              obtain ⟨A3, c3, e3, hc3, hcm3, -⟩ := eo.loose.form
              obtain ⟨n, hn2⟩ : ∃ n, n = es.length := ⟨_, rfl⟩
              have HN := Lib.hid hn2
              obtain ⟨m1, hm1⟩ : ∃ m, m = x.f.now.length := ⟨_, rfl⟩
              obtain ⟨m2, hm2⟩ : ∃ m, m = x.f.lasts.length := ⟨_, rfl⟩
              obtain ⟨m3, hm3⟩ : ∃ m, m = x.bs.length := ⟨_, rfl⟩
              rw [← hm1] at e1 hc1
              rw [← hm2] at e2 hc2
              rw [← hm3] at e3 hc3
              have HM1 := Lib.hid hm1
              have HM2 := Lib.hid hm2
              have HM3 := Lib.hid hm3
              have EC := Lib.hid (show entC x = [.string (str x.f.name), .slice A1 m1 c1, .slice A2 m2 c2, .slice A3 m3 c3] by unfold entC strV; rw [e1, e2, e3])
              rw [EC.out] at q0 q1 q2 q3
              have q0' : w1.cell? ⟨g, k * 4, none⟩ = some (.string (str x.f.name)) := q0
              have q1' : w1.cell? ⟨g, k * 4 + 1, none⟩ = some (.slice A1 m1 c1) := q1
              have q2' : w1.cell? ⟨g, k * 4 + 2, none⟩ = some (.slice A2 m2 c2) := q2
              have q3' : w1.cell? ⟨g, k * 4 + 3, none⟩ = some (.slice A3 m3 c3) := q3
              have hB1 : Bs w1 A1 x.f.now := by have := eo.now; rw [e1] at this; exact (own_len hm1.symm this).at_
              have hB2 : Bs w1 A2 x.f.lasts := by have := eo.lasts; rw [e2] at this; exact (own_len hm2.symm this).at_
              have hB3 : At w1 w1.heap.size A3 (bolC x.bs) := by have := eo.loose; rw [e3] at this; exact (own_len hm3.symm this).at_
              have c0 : w1.cell? ⟨b, 0, none⟩ = some (.slice (some ⟨g, 0, none⟩) n c) := by rw [hn2]; exact R1.out.box.cell 0 rfl
              have hki : (k : Int) < (n : Int) := by have := (List.getElem?_eq_some_iff.1 hx).1; omega
              have ni : (n : Int) ≤ 70000 := by omega
              have mi1 : m1 ≤ 16777216 := by have := fo.size; omega
              have mi2 : m2 ≤ m1 := by have := fo.lasts; omega
              have mi3 : m3 ≤ sect m1 := by have h1 := eo.few; rw [← hm1, ← hm3] at h1; exact h1
              have MI1 := Lib.hid mi1
              have MI2 := Lib.hid mi2
              have MI3 := Lib.hid mi3
              have hbg : b ≠ g := row_disk R1.out.row R1.out.box
              have hbl := R1.out.box.lt
              have HBG := Lib.hid hbg
              have HBL := Lib.hid hbl
              have HGL := Lib.hid hgl
              generalize hsx : str x.f.name = sx at *
              have KF := Lib.hid (keeps_alloc w1 (.cells #[.string sx, .slice A1 m1 c1, .slice A2 m2 c2, .slice A3 m3 c3] 155))
              have BF := Lib.hid (Box.new w1 155 #[.string sx, .slice A1 m1 c1, .slice A2 m2 c2, .slice A3 m3 c3])
              have HSX := Lib.hid hsx
              have HX := Lib.hid hx
              have FO := Lib.hid fo
              have EO := Lib.hid eo
              have HXN := Lib.hid hxn
              have HB1 := Lib.hid hB1
              have HB2 := Lib.hid hB2
              have HB3 := Lib.hid hB3
              have HC1 := Lib.hid hc1
              have HC2 := Lib.hid hc2
              have HC3 := Lib.hid hc3
              have E1 := Lib.hid e1
              have E2 := Lib.hid e2
              have E3 := Lib.hid e3
              have LC1 := Lib.hid (show (cel x.f.now).length = m1 by rw [cel_length]; exact hm1.symm)
              have LC2 := Lib.hid (show (cel x.f.lasts).length = m2 by rw [cel_length]; exact hm2.symm)
              have LC3 := Lib.hid (show (bolC x.bs).length = m3 by rw [bolC_length]; exact hm3.symm)
              have hgf : g ≠ w1.heap.size := by omega
              have hbf : b ≠ w1.heap.size := by omega
              have HGF := Lib.hid hgf
              have HBF := Lib.hid hbf
              clear fo eo q0 q1 q2 q3 r1 r2 r3 hg' hg2' hg3' hn2 hm1 hm2 hm3 hxn hB1 hB2 hB3 e1 e2 e3 hx hsx hc1 hc2 hc3 hcm1 hcm2 hcm3 hgl hbl hbg hgf hbf mi1 mi2 mi3
              have hzi : (o : Int) ≤ (m1 : Int) := by have := HM1.out; omega
              have hzj : (m1 : Int) ≤ 16777216 := by have := MI1.out; omega
              have hzk : (16777216 : Int) - (o : Int) < (nb : Int) := by have := HNL.out; omega
              clear hg
              go_wp2_with fail
              go_ret
              exact ⟨rfl, F, ⟨_, _, _, R1.out.keep KF.out⟩, T1.out.trans (Turns.of_keeps KF.out)⟩
            · unfold dpt strV at *
              have hff : writeS s nm (o : Int) l = if sect f.now.length < sect (max f.now.length (o + l.length)) ∧ s.q < usedL s.l + (sect (max f.now.length (o + l.length)) - sect f.now.length) then (goneS s, 5) else ({ goneS s with l := setF s.l (writeF f o l) }, 0) := by
                unfold writeS; rw [ho, if_neg (by simp), if_neg (by rw [hn]; simp), hg]; show (if f.now.length < (o : Int).toNat then _ else _) = _; rw [Int.toNat_natCast, if_neg hlen, if_neg hbig]
              obtain ⟨RES, hRES⟩ : ∃ r, r = writeS s nm (o : Int) l := ⟨_, rfl⟩
              rw [← hRES]
              rw [hff] at hRES
              clear h hff ho
              go_enter Tryz.func117, Tryz.ntmps117
              go_wp2_with fail
              refine GO.out.mono ?_
              rintro e w1 ⟨rfl, hR, hO⟩
              have R1 := Lib.hid hR
              have T1 := Lib.hid (H.out.turn_b hO)
              clear hR hO
              go_wp2_with fail
              refine (NM.out _).mono ?_
              rintro e w' ⟨rfl, rfl⟩
              go_wp2_with fail
              obtain ⟨k, x, hx, rfl, hxn, at0⟩ := R1.out.at_some hm (nm := nm) (f := f) (by rw [gone_l]; exact hg)
              refine at0.mono ?_
              rintro e w' ⟨rfl, rfl⟩
              clear at0
              obtain ⟨fo, eo⟩ := R1.out.ok hx
              obtain ⟨g, rfl, q0, -, hgl⟩ := R1.out.cell hx 0 (by decide)
              obtain ⟨g', hg', q1, r1, -⟩ := R1.out.cell hx 1 (by decide)
              obtain rfl : g = g' := by injection hg' with e; injection e
              obtain ⟨g', hg2', q2, r2, -⟩ := R1.out.cell hx 2 (by decide)
              obtain rfl : g = g' := by injection hg2' with e; injection e
              obtain ⟨g', hg3', q3, r3, -⟩ := R1.out.cell hx 3 (by decide)
              obtain rfl : g = g' := by injection hg3' with e; injection e
              obtain ⟨A1, c1, e1, hc1, hcm1, -⟩ := eo.now.form
              obtain ⟨A2, c2, e2, hc2, hcm2, -⟩ := eo.lasts.form
              obtain ⟨A3, c3, e3, hc3, hcm3, -⟩ := eo.loose.form
              obtain ⟨n, hn2⟩ : ∃ n, n = es.length := ⟨_, rfl⟩
              have HN := Lib.hid hn2
              obtain ⟨m1, hm1⟩ : ∃ m, m = x.f.now.length := ⟨_, rfl⟩
              obtain ⟨m2, hm2⟩ : ∃ m, m = x.f.lasts.length := ⟨_, rfl⟩
              obtain ⟨m3, hm3⟩ : ∃ m, m = x.bs.length := ⟨_, rfl⟩
              rw [← hm1] at e1 hc1
              rw [← hm2] at e2 hc2
              rw [← hm3] at e3 hc3
              have HM1 := Lib.hid hm1
              have HM2 := Lib.hid hm2
              have HM3 := Lib.hid hm3
              have EC := Lib.hid (show entC x = [.string (str x.f.name), .slice A1 m1 c1, .slice A2 m2 c2, .slice A3 m3 c3] by unfold entC strV; rw [e1, e2, e3])
              rw [EC.out] at q0 q1 q2 q3
              have q0' : w1.cell? ⟨g, k * 4, none⟩ = some (.string (str x.f.name)) := q0
              have q1' : w1.cell? ⟨g, k * 4 + 1, none⟩ = some (.slice A1 m1 c1) := q1
              have q2' : w1.cell? ⟨g, k * 4 + 2, none⟩ = some (.slice A2 m2 c2) := q2
              have q3' : w1.cell? ⟨g, k * 4 + 3, none⟩ = some (.slice A3 m3 c3) := q3
              have hB1 : Bs w1 A1 x.f.now := by have := eo.now; rw [e1] at this; exact (own_len hm1.symm this).at_
              have hB2 : Bs w1 A2 x.f.lasts := by have := eo.lasts; rw [e2] at this; exact (own_len hm2.symm this).at_
              have hB3 : At w1 w1.heap.size A3 (bolC x.bs) := by have := eo.loose; rw [e3] at this; exact (own_len hm3.symm this).at_
              have c0 : w1.cell? ⟨b, 0, none⟩ = some (.slice (some ⟨g, 0, none⟩) n c) := by rw [hn2]; exact R1.out.box.cell 0 rfl
              have hki : (k : Int) < (n : Int) := by have := (List.getElem?_eq_some_iff.1 hx).1; omega
              have ni : (n : Int) ≤ 70000 := by omega
              have mi1 : m1 ≤ 16777216 := by have := fo.size; omega
              have mi2 : m2 ≤ m1 := by have := fo.lasts; omega
              have mi3 : m3 ≤ sect m1 := by have h1 := eo.few; rw [← hm1, ← hm3] at h1; exact h1
              have MI1 := Lib.hid mi1
              have MI2 := Lib.hid mi2
              have MI3 := Lib.hid mi3
              have hbg : b ≠ g := row_disk R1.out.row R1.out.box
              have hbl := R1.out.box.lt
              have HBG := Lib.hid hbg
              have HBL := Lib.hid hbl
              have HGL := Lib.hid hgl
              generalize hsx : str x.f.name = sx at *
              have KF := Lib.hid (keeps_alloc w1 (.cells #[.string sx, .slice A1 m1 c1, .slice A2 m2 c2, .slice A3 m3 c3] 155))
              have BF := Lib.hid (Box.new w1 155 #[.string sx, .slice A1 m1 c1, .slice A2 m2 c2, .slice A3 m3 c3])
              have HSX := Lib.hid hsx
              have HX := Lib.hid hx
              have FO := Lib.hid fo
              have EO := Lib.hid eo
              have HXN := Lib.hid hxn
              have HB1 := Lib.hid hB1
              have HB2 := Lib.hid hB2
              have HB3 := Lib.hid hB3
              have HC1 := Lib.hid hc1
              have HC2 := Lib.hid hc2
              have HC3 := Lib.hid hc3
              have E1 := Lib.hid e1
              have E2 := Lib.hid e2
              have E3 := Lib.hid e3
              have LC1 := Lib.hid (show (cel x.f.now).length = m1 by rw [cel_length]; exact hm1.symm)
              have LC2 := Lib.hid (show (cel x.f.lasts).length = m2 by rw [cel_length]; exact hm2.symm)
              have LC3 := Lib.hid (show (bolC x.bs).length = m3 by rw [bolC_length]; exact hm3.symm)
              have hgf : g ≠ w1.heap.size := by omega
              have hbf : b ≠ w1.heap.size := by omega
              have HGF := Lib.hid hgf
              have HBF := Lib.hid hbf
              clear fo eo q0 q1 q2 q3 r1 r2 r3 hg' hg2' hg3' hn2 hm1 hm2 hm3 hxn hB1 hB2 hB3 e1 e2 e3 hx hsx hc1 hc2 hc3 hcm1 hcm2 hcm3 hgl hbl hbg hgf hbf mi1 mi2 mi3
              have hzi : (o : Int) ≤ (m1 : Int) := by have := HM1.out; omega
              have hzj : (m1 : Int) ≤ 16777216 := by have := MI1.out; omega
              have hzk : (nb : Int) ≤ (16777216 : Int) - (o : Int) := by have := HNL.out; omega
              obtain ⟨t, ht⟩ : ∃ t, t = o + nb := ⟨_, rfl⟩
              obtain ⟨ee, hee⟩ : ∃ e, e = max m1 t := ⟨_, rfl⟩
              obtain ⟨se, hse⟩ : ∃ y, y = sect ee := ⟨_, rfl⟩
              obtain ⟨sm, hsm⟩ : ∃ y, y = sect m1 := ⟨_, rfl⟩
              obtain ⟨u, hu⟩ : ∃ y, y = usedL s.l := ⟨_, rfl⟩
              obtain ⟨mo, hmo⟩ : ∃ y, y = se - sm := ⟨_, rfl⟩
              have hti : (o : Int) + (nb : Int) = (t : Int) := by omega
              have mx : ∀ (ts : Array TypeId) (t' : TypeId) (w : World), (Builtin.max_ ts t' #[.int .i64 (m1 : Int), .int .i64 (t : Int)]).run Tryz.prog w = .ok (.int .i64 (ee : Int)) w := by
                intro ts t' w
                rw [run_max_int2]
                congr 2
                split <;> omega
              have hti2 : (t : Int) ≤ 16777216 := by omega
              have hei : (ee : Int) ≤ 16777216 := by omega
              have hsel : sm ≤ se := by rw [hsm, hse]; exact sect_le (by omega)
              have hmoi : (se : Int) - (sm : Int) = (mo : Int) := by omega
              have hse2 : (se : Int) ≤ 262144 := by rw [hse]; unfold sect; omega
              have hu2 : u ≤ 1048576 := by rw [hu]; have := R1.out.lok.used; rwa [gone_l] at this
              have gq : (goneS s).q = s.q := by unfold goneS; repeat' split <;> rfl
              have hq2 : s.q ≤ 1048576 := by have := R1.out.q; rwa [gq] at this
              have SCe := Lib.hid (fun V => refSectors_any ee (by omega) V)
              rw [← hse] at SCe
              have SCm := Lib.hid (fun V => refSectors_any m1 (by have := MI1.out; omega) V)
              rw [← hsm] at SCm
              have US := Lib.hid (fun (V : World) (kk : Keeps w1 V) => (R1.out.keep kk).used_any hm)
              rw [gone_l, ← hu] at US
              rw [← HM1.out, ← HNL.out, ← ht, ← hee, ← hse, ← hsm, ← hu, ← hmo] at hRES
              have HR := Lib.hid hRES
              clear hRES
              have HT := Lib.hid ht
              have HEE := Lib.hid hee
              have HSE := Lib.hid hse
              have HSM := Lib.hid hsm
              have HU := Lib.hid hu
              have HMO := Lib.hid hmo
              have QD : w1.cell? ⟨b, 1, none⟩ = some (.int .i64 (s.q : Int)) := by have := R1.out.box.cell 1 rfl; rw [gq] at this; exact this
              obtain ⟨q, hq⟩ : ∃ q, q = s.q := ⟨_, rfl⟩
              rw [← hq] at QD hq2
              clear gq
              have HQ := Lib.hid hq
              clear ht hee hse hsm hu hmo hlen hbig hq
              go_wp2_with fail
              have k9 := KF.out
              have b9 := BF.out
              generalize w1.alloc (.cells #[.string sx, .slice A1 m1 c1, .slice A2 m2 c2, .slice A3 m3 c3] 155) = V0 at *
              have f0 := b9.cell 1 rfl
              go_quiet (first | (go_at_call_of 157 (Value.int .i64 (ee : Int)); exact Calls.quiet_of_same ((SCe.out _).mono fun _ _ h => ⟨h.1, h.2.symm⟩)) | (go_at_call_of 157 (Value.int .i64 (m1 : Int)); exact Calls.quiet_of_same ((SCm.out _).mono fun _ _ h => ⟨h.1, h.2.symm⟩)))
              have KX := Lib.hid (keeps_trans k9 (keeps_drewN V0 nq))
              have BX := Lib.hid (b9.keep (keeps_drewN V0 nq))
              generalize V0.drewN nq = V1 at *
              clear k9 b9 f0 KF BF
              have QD1 : V1.cell? ⟨b, 1, none⟩ = some (.int .i64 (q : Int)) := KX.out.cellOf QD
              by_cases hfull : 0 < mo ∧ q < u + mo
              · have e : RES = (goneS s, 5) := by rw [HR.out, ← HQ.out]; rw [if_pos ⟨by have := HMO.out; omega, hfull.2⟩]
                subst e
                have hg1 : (0 : Int) < (mo : Int) := by omega
                have hg2 : (q : Int) < (u : Int) + (mo : Int) := by omega
                have hmb : (mo : Int) ≤ 262144 := by omega
                have hub : (u : Int) ≤ 1048576 := by omega
                have hg3 : 0 < mo := hfull.1
                clear hfull
                go_wp2_with fail
                go_quiet (first | (go_at_call_of 158 (Value.pointer (some ⟨b, 0, none⟩)); exact Calls.quiet_of_same ((US.out _ (by first | assumption | exact KX.out | exact keeps_trans KX.out (keeps_drewN _ _))).mono fun _ _ h => ⟨h.1, h.2.symm⟩)))
                go_wp2_with fail
                go_ret
                exact ⟨rfl, F, ⟨_, _, _, R1.out.keep (keeps_trans KX.out (keeps_drewN _ _))⟩, T1.out.trans (Turns.of_keeps (keeps_trans KX.out (keeps_drewN _ _)))⟩
              · have e : RES = ({ goneS s with l := setF s.l (writeF x.f o l) }, 0) := by
                  rw [HR.out, ← HQ.out]
                  rw [if_neg (fun e => hfull ⟨by have := HMO.out; omega, e.2⟩)]
                subst e
                have hmb : (mo : Int) ≤ 262144 := by omega
                have hub : (u : Int) ≤ 1048576 := by omega
                have FULL := Lib.hid hfull
                by_cases hmore : 0 < mo
                all_goals first
                  | (have hg1 : (0 : Int) < (mo : Int) := by omega
                     have hg2 : decide ((q : Int) < (u : Int) + (mo : Int)) = false := decide_eq_false (by omega)
                     clear hfull
                     go_wp2_with fail
                     go_quiet (first | (go_at_call_of 158 (Value.pointer (some ⟨b, 0, none⟩)); exact Calls.quiet_of_same ((US.out _ (by first | assumption | exact KX.out | exact keeps_trans KX.out (keeps_drewN _ _))).mono fun _ _ h => ⟨h.1, h.2.symm⟩))))
                  | (have hg1 : decide ((0 : Int) < (mo : Int)) = false := decide_eq_false (by omega)
                     have hg2 : decide (0 < mo) = false := decide_eq_false hmore
                     clear hfull hmore
                     go_wp2_with fail
                     go_quiet (fail))
                all_goals
                  have KW := Lib.hid (keeps_trans KX.out (keeps_drewN V1 nq))
                  have BW0 := Lib.hid (BX.out.keep (keeps_drewN V1 nq))
                  clear hg1 hg2 QD QD1 KX BX
                  generalize V1.drewN nq = W0 at *
                  have f0 := BW0.out.cell 1 rfl
                  have O0 := Lib.hid (own_empty W0 5 1)
                  have K0 := Lib.hid (keeps_alloc W0 (.cells #[] 5))
                  have f1 := (BW0.out.keep K0.out).cell 1 rfl
                  have S0 := Lib.hid KW.out.size
                  go_wp2_with (first
                    | (at_builtin; refine wpList_app _ rfl _ _ 22 rfl W0.heap.size 5 i1 (.int .u8 0) 1 1 Tryz.underlying22 hi1 hy0 hy1 hy2 rfl (by decide) _ 0 [] rfl O0.out _ A1 m1 c1 (cel x.f.now) rfl (by rw [LC1.out, Nat.mul_one]) (HB1.out.keep (keeps_trans KW.out K0.out)) (cel_one _) (by have := MI1.out; unfold maxLen; omega) (by have := MI1.out; omega) (by simp) ?_; intro v6 w6 o6 g6' b6; have k6 : Keeps W0 w6 := Below.grown K0.out g6' K0.out.size (fun g hg => (O0.out.lt g hg).1); rw [Nat.zero_add, List.nil_append] at o6; have O6 := Lib.hid o6; have K6 := Lib.hid k6; clear o6 g6' b6 k6))
                  have st : Own w6 W0.heap.size 5 1 v6 m1 (cel (padW x.f.now 0)) := by rw [padW_zero]; exact O6.out
                  go_loopw [13] (fun v wr => ∃ j N : Nat, j ≤ ee - m1 ∧ N = m1 + j ∧ Own wr W0.heap.size 5 1 v N (cel (padW x.f.now j)) ∧ Keeps W0 wr) (fun v _ => ee - sizeV v)
                  case atStart => exact ⟨0, m1, Nat.zero_le _, rfl, st, K6.out⟩
                  case round =>
                    obtain ⟨j, N, hj, hN, o5, k5⟩ := hrel
                    obtain ⟨A5, c5, rfl, hc5, hc5', -, -⟩ := o5.form
                    have HE2 := Lib.hid (show m1 ≤ ee by have := HEE.out; omega)
                    have S5 := Lib.hid k5.size
                    have K5 := Lib.hid k5
                    by_cases hlt : j < ee - m1
                    · have hlt1 : (N : Int) < (ee : Int) := by have := HE2.out; omega
                      go_wp2_with (first
                        | (at_builtin; refine wpList_app _ rfl _ _ 22 rfl W0.heap.size 5 i1 (.int .u8 0) 1 1 Tryz.underlying22 hi1 hy0 hy1 hy2 rfl (by decide) _ _ _ rfl (o5.keep (keeps_alloc _ _)) (wr.heap.size + 1) _ 1 1 [.int .u8 0] rfl rfl (At.new _ _ _ _ (by omega)) (fun u hu => by simp at hu; subst hu; rfl) (by unfold maxLen; omega) (by omega) (by have := S5.out; simp; omega) ?_; intro v6 w6 o6 g6 b6))
                      have k6 : Keeps W0 w6 := Below.grown (keeps_trans k5 (keeps_alloc wr _)) g6 (by have := S5.out; simp; omega) (fun g hg => (o5.lt g hg).1)
                      rw [← padW_succ] at o6
                      obtain ⟨A6, c6, rfl, hc6, hc6', -, -⟩ := o6.form
                      go_roundw
                      case rel => exact ⟨j + 1, N + 1, by omega, by omega, o6, k6⟩
                      case measure => simp [sizeV]; omega
                    · rename World => W1
                      obtain rfl : j = ee - m1 := by omega
                      obtain rfl : N = ee := by have := HE2.out; omega
                      have O5 := Lib.hid o5
                      clear o5 k5 hlt hj hN st hc5 hc5'
                      have K1 := Lib.hid (keeps_trans KW.out K5.out)
                      have M0 := Lib.hid ((R1.out.mid HN.out).keep K1.out)
                      have BWr := Lib.hid (BW0.out.keep K5.out)
                      have Q0 := Lib.hid (own_empty W1 4 1)
                      have KQ := Lib.hid (keeps_alloc W1 (.cells #[] 4))
                      have f3 := (BWr.out.keep KQ.out).cell 3 rfl
                      have X3 := Lib.hid (show At W1 W1.heap.size A3 (bolC x.bs) by have := (M0.out.ent R1.out HN.out EO.out).loose; rw [E3.out, ← HM3.out] at this; exact this.at_)
                      have M3S := Lib.hid (show m3 ≤ se by have := MI3.out; have := HSM.out; omega)
                      have SE2 := Lib.hid (show se ≤ 262144 by omega)
                      have X3k := Lib.hid (X3.out.keep KQ.out)
                      go_wp2_with (first
                        | (at_builtin; refine wpList_app _ rfl _ _ 153 rfl W1.heap.size 4 i2 (.bool false) 1 1 Tryz.underlying153 hi2 hx0 hx1 hx2 rfl (by decide) _ 0 [] rfl Q0.out _ A3 m3 c3 (bolC x.bs) rfl (by rw [LC3.out, Nat.mul_one]) X3k.out (bolC_one _) (by have := M3S.out; have := SE2.out; unfold maxLen; omega) (by have := M3S.out; have := SE2.out; omega) (by simp) ?_; intro v8 w8 o8 g8' b8; have k8 : Keeps W1 w8 := Below.grown KQ.out g8' KQ.out.size (fun g hg => (Q0.out.lt g hg).1); rw [Nat.zero_add, List.nil_append] at o8; have O8 := Lib.hid o8; have K8 := Lib.hid k8; clear o8 g8' b8 k8))
                      have st : Own w8 W1.heap.size 4 1 v8 m3 (bolC (padF x.bs 0)) := by rw [padF_zero]; exact O8.out
                      go_loopw [14] (fun v w2 => ∃ j M : Nat, j ≤ se - m3 ∧ Hid (M = m3 + j) ∧ Own w2 W1.heap.size 4 1 v M (bolC (padF x.bs j)) ∧ Keeps W1 w2) (fun v _ => se - sizeV v)
                      case atStart => exact ⟨0, m3, Nat.zero_le _, Lib.hid rfl, st, K8.out⟩
                      case round =>
                        obtain ⟨j, M, hj, hM, o7, k7⟩ := hrel
                        obtain ⟨A7, c7, rfl, hc7, hc7', -, -⟩ := o7.form
                        have S7 := Lib.hid k7.size
                        have K7 := Lib.hid k7
                        by_cases hlt : j < se - m3
                        · have hlt1 : (M : Int) < (se : Int) := by have := M3S.out; have := hM.out; omega
                          go_wp2_with (first
                            | (go_at_call 157; refine (SCe.out _).mono ?_; rintro e w' ⟨rfl, rfl⟩)
                            | (at_builtin; refine wpList_app _ rfl _ _ 153 rfl W1.heap.size 4 i2 (.bool false) 1 1 Tryz.underlying153 hi2 hx0 hx1 hx2 rfl (by decide) _ _ _ rfl (o7.keep (keeps_alloc _ _)) (wr.heap.size + 1) _ 1 1 [.bool false] rfl rfl (At.new _ _ _ _ (by omega)) (fun u hu => by simp at hu; subst hu; rfl) (by have := M3S.out; have := SE2.out; unfold maxLen; omega) (by have := M3S.out; have := SE2.out; omega) (by have := S7.out; simp; omega) ?_; intro v6 w6 o6 g6 b6; have k6 : Keeps W1 w6 := Below.grown (keeps_trans k7 (keeps_alloc wr _)) g6 (by have := S7.out; simp; omega) (fun g hg => (o7.lt g hg).1); rw [← padF_succ] at o6))
                          obtain ⟨A6, c6, rfl, hc6, hc6', -, -⟩ := o6.form
                          go_roundw
                          case rel => exact ⟨j + 1, M + 1, by omega, Lib.hid (by have := hM.out; omega), o6, k6⟩
                          case measure => simp [sizeV]; omega
                        · obtain rfl : j = se - m3 := by omega
                          obtain rfl : M = se := by have := M3S.out; have := hM.out; omega
                          have O7 := Lib.hid o7
                          have O5k := Lib.hid (O5.out.keep k7)
                          have K2 := Lib.hid (keeps_trans K1.out k7)
                          have SR := Lib.hid (show w1.heap.size ≤ W1.heap.size by have := S0.out; have := S5.out; omega)
                          obtain ⟨P, hP⟩ : ∃ P, P = padW x.f.now (N - m1) := ⟨_, rfl⟩
                          obtain ⟨Q, hQ⟩ : ∃ Q, Q = padF x.bs (M - m3) := ⟨_, rfl⟩
                          rw [← hP] at O5k
                          rw [← hQ] at O7
                          have HP := Lib.hid hP
                          have HQ2 := Lib.hid hQ
                          have LP := Lib.hid (show P.length = N by rw [hP, padW_length, ← HM1.out]; have := HE2.out; omega)
                          have LQ := Lib.hid (show Q.length = M by rw [hQ, padF_length, ← HM3.out]; have := M3S.out; omega)
                          clear hP hQ hlt hj hM st o7 hc7 hc7' k7
                          go_wp2_with (first
                            | (go_at_call 157; refine (SCe.out _).mono ?_; rintro e w' ⟨rfl, rfl⟩))
                          go_loopw [15] (fun i w3 => ∃ j : Nat, j ≤ nb ∧ i = .int .i64 (j : Int) ∧ Own w3 W0.heap.size 5 1 (.slice A5 N c5) N (cel (layB P o (l.take j))) ∧ Own w3 W1.heap.size 4 1 (.slice A7 M c7) M (bolC (markB Q o j)) ∧ Keeps w1 w3) (fun i _ => nb - (intOf i).toNat)
                          case atStart => exact ⟨0, Nat.zero_le _, rfl, by rw [layB_zero]; exact O5k.out, O7.out, K2.out⟩
                          case round =>
                            obtain ⟨j, hj, rfl, o8, o9, k9⟩ := hrel
                            by_cases hlt : j < nb
                            · have hjn : (j : Int) < (nb : Int) := by omega
                              have JL := Lib.hid (show j < l.length by have := HNL.out; omega)
                              obtain ⟨v, hv⟩ : ∃ v, v = o + j := ⟨_, rfl⟩
                              obtain ⟨p, hp⟩ : ∃ p, p = v / 64 := ⟨_, rfl⟩
                              have hvi : (o : Int) + (j : Int) = (v : Int) := by omega
                              have hqd : Int.tdiv (v : Int) 64 = (p : Int) := by rw [Int.tdiv_eq_ediv_of_nonneg (by omega), hp]; exact (Int.natCast_ediv v 64).symm
                              have hve : v < N := by have := HEE.out; have := HT.out; omega
                              have hvei : (v : Int) < (N : Int) := by omega
                              have hpm : p < M := by have h1 := HSE.out; unfold sect at h1; omega
                              have hpi : (p : Int) < (M : Int) := by omega
                              have hpj : (p : Int) ≤ 262144 := by omega
                              have LLP := Lib.hid (show (layB P o (l.take j)).length = N by rw [layB_length _ _ _ (by rw [LP.out]; omega), LP.out, List.length_take]; omega)
                              obtain ⟨ad, hAB, cB⟩ := (BW.out _ (T1.out.trans (Turns.of_keeps k9))).at_ JL.out
                              obtain ⟨g5, rfl, z5, fz5, -⟩ := o8.cell (j := v) (by rw [cel_length, LLP.out]; exact hve)
                              rw [cel_get _ (by rw [LLP.out]; exact hve)] at z5
                              have oa := o8.store (j := v) (by rw [cel_length, LLP.out]; exact hve) (.int .u8 ((l.getD j 0).toNat : Int))
                              rw [show (cel (layB P o (l.take j))).set v (.int .u8 ((l.getD j 0).toNat : Int)) = cel (layB P o (l.take (j + 1))) from by
                                rw [← layB_take_succ P l o j JL.out (by rw [LP.out]; have := HEE.out; have := HT.out; have := HNL.out; omega), hv]; simp [cel, List.map_set]] at oa
                              have ob := o9.far (o8.base_le (Nat.zero_le _)) (show 4 ≠ 5 by decide) v (.int .u8 ((l.getD j 0).toNat : Int))
                              have LMQ := Lib.hid (show (bolC (markB Q o j)).length = M by rw [bolC_length, markB_length]; exact LQ.out)
                              obtain ⟨g7, rfl, z7, fz7, -⟩ := ob.cell (j := p) (by rw [LMQ.out]; exact hpm)
                              rw [show (bolC (markB Q o j))[p]? = some (.bool ((markB Q o j).getD p false)) from by
                                unfold bolC
                                rw [List.getElem?_map, List.getElem?_eq_getElem (by rw [markB_length, LQ.out]; exact hpm), List.getD_eq_getElem?_getD, List.getElem?_eq_getElem (by rw [markB_length, LQ.out]; exact hpm)]
                                rfl] at z7
                              have oc := ob.store (j := p) (by rw [LMQ.out]; exact hpm) (.bool true)
                              rw [show (bolC (markB Q o j)).set p (.bool true) = bolC (markB Q o (j + 1)) from by
                                show _ = bolC ((markB Q o j).set ((o + j) / 64) true)
                                rw [← hv, ← hp]
                                unfold bolC
                                rw [List.map_set]] at oc
                              have oa2 := oa.far (ob.base_le (Nat.zero_le _)) (show 5 ≠ 4 by decide) p (.bool true)
                              have OA := Lib.hid oa2
                              have OC := Lib.hid oc
                              have KZ := Lib.hid (keeps_store (A := none) (keeps_store (A := none) k9 o8 S0.out (.int .u8 ((l.getD j 0).toNat : Int)) (j := v)) ob SR.out (.bool true) (j := p))
                              subst hAB
                              clear oa ob oc oa2 o8 o9 k9 hv hp
                              generalize (l.getD j 0).toNat = lj at *
                              generalize ((layB P o (l.take j)).getD v 0).toNat = old at *
                              generalize (markB Q o j).getD p false = oldb at *
                              go_wp2_with fail
                              go_roundw
                              case rel => exact ⟨j + 1, by omega, by go_num, OA.out, OC.out, KZ.out⟩
                              case measure => simp [intOf]; omega
                            · obtain rfl : j = nb := by omega
                              have hlj : l.take j = l := List.take_of_length_le (by have := HNL.out; omega)
                              rw [hlj] at o8
                              have MA := Lib.hid ((R1.out.mid HN.out).keep k9)
                              obtain ⟨z1, fz1⟩ := MA.out.cell HX.out 1 (by decide)
                              rw [EC.out] at z1
                              have z1' : wr.cell? ⟨g, k * 4 + 1, none⟩ = some (.slice A1 m1 c1) := z1
                              have d0 := MA.out.c0
                              have MB := Lib.hid (MA.out.put (e' := ⟨writeF x.f o l, markB Q o j, .slice A5 N c5, .slice A2 m2 c2, .slice A3 m3 c3⟩) HX.out (j := 1) (by decide) (.slice A5 N c5) (by rw [EC.out, ← HSX.out]; rfl))
                              obtain ⟨z3, fz3⟩ := MB.out.cell (set_get HX.out _) 3 (by decide)
                              have z3' : (wr.setCell ⟨g, k * 4 + 1, none⟩ (.slice A5 N c5)).cell? ⟨g, k * 4 + 3, none⟩ = some (.slice A3 m3 c3) := z3
                              have d1 := MB.out.c0
                              have MC0 := MB.out.put (e' := ⟨writeF x.f o l, markB Q o j, .slice A5 N c5, .slice A2 m2 c2, .slice A7 M c7⟩) (set_get HX.out _) (j := 3) (by decide) (.slice A7 M c7) rfl
                              rw [List.set_set] at MC0
                              have MC := Lib.hid MC0
                              have OA := Lib.hid (MB.out.far8 (MA.out.far8 o8 (k * 4 + 1) (.slice A5 N c5)) (k * 4 + 3) (.slice A7 M c7))
                              have OB := Lib.hid (MB.out.farb (MA.out.farb o9 (k * 4 + 1) (.slice A5 N c5)) (k * 4 + 3) (.slice A7 M c7))
                              clear z1 z3 MC0 o8 o9 hlt hj
                              have FIN := Lib.hid (show Rk ((wr.setCell ⟨g, k * 4 + 1, none⟩ (.slice A5 N c5)).setCell ⟨g, k * 4 + 3, none⟩ (.slice A7 M c7)) b (more w1 ((wr.setCell ⟨g, k * 4 + 1, none⟩ (.slice A5 N c5)).setCell ⟨g, k * 4 + 3, none⟩ (.slice A7 M c7)) F) { goneS s with l := setF s.l (writeF x.f o l) } (some ⟨g, 0, none⟩) c (es.set k ⟨writeF x.f o l, markB Q o j, .slice A5 N c5, .slice A2 m2 c2, .slice A7 M c7⟩) ∧ Turns w1 ((wr.setCell ⟨g, k * 4 + 1, none⟩ (.slice A5 N c5)).setCell ⟨g, k * 4 + 3, none⟩ (.slice A7 M c7)) F (more w1 ((wr.setCell ⟨g, k * 4 + 1, none⟩ (.slice A5 N c5)).setCell ⟨g, k * 4 + 3, none⟩ (.slice A7 M c7)) F) from by
                                have EN := MC.out.ent R1.out HN.out EO.out
                                have hol : o ≤ x.f.now.length := by have := HM1.out; omega
                                have hlw : (writeF x.f o l).now.length = N := by
                                  rw [show (writeF x.f o l).now = layB x.f.now o l from rfl, layB_length _ _ _ hol, ← HM1.out, ← HNL.out]; have := HEE.out; have := HT.out; omega
                                have hcl : layB P o l = layB x.f.now o l := by
                                  rw [HP.out]; have := layB_pad x.f.now l o N hol (by rw [HEE.out, HT.out, HM1.out, HNL.out]); rw [← HM1.out] at this; exact this
                                have U := MC.out.fin (e' := ⟨writeF x.f o l, markB Q o j, .slice A5 N c5, .slice A2 m2 c2, .slice A7 M c7⟩) R1.out HX.out HN.out
                                  ⟨own_len hlw.symm (by have := OA.out.base_le (Nat.zero_le _); rw [hcl] at this; exact this),
                                   by have := EN.lasts; rw [E2.out] at this; exact this,
                                   own_len (by show M = (markB Q o j).length; rw [markB_length]; exact LQ.out.symm) (OB.out.base_le (Nat.zero_le _)),
                                   fun q => by
                                     show (x.f.loose q || (decide (0 < l.length) && decide (o / 64 ≤ q) && decide (q ≤ (o + l.length - 1) / 64))) = (markB Q o j).getD q false
                                     rw [markB_getD Q o q j (fun t ht => by rw [LQ.out, HSE.out]; unfold sect; have := HEE.out; have := HT.out; omega), HQ2.out, padF_getD, ← EO.out.flag q, HNL.out],
                                   by show (markB Q o j).length ≤ sect (writeF x.f o l).now.length; rw [markB_length, hlw, LQ.out, HSE.out]; exact Nat.le_refl _,
                                   mid_new MC.out S0.out OA.out, by have := EN.fl; rw [E2.out] at this; exact this, mid_new MC.out SR.out OB.out⟩ rfl
                                  (R1.out.lok.set (f := x.f) (f' := writeF x.f o l) (R1.out.got HX.out) (FO.out.write hol (by rw [← HNL.out]; omega)) (by rw [hlw, ← HM1.out, ← HSE.out, ← HSM.out, gone_l, ← HU.out]; have := FULL.out; have := HMO.out; omega))
                                rw [gone_l] at U
                                exact U)
                              clear OA OB MC FULL
                              go_wp2_with fail
                              go_ret
                              exact ⟨rfl, _, ⟨_, _, _, FIN.out.1⟩, T1.out.trans FIN.out.2⟩
end
end Go.Proofs.YtkhfffflegiapaaGreatDoor
