/- Package input: errors of its own; the magic, the counts, an edge. -/
import Derived.Test.YtbalejfloieiiaaDoorTold
import Derived.Test.YtbalejfloieiiaaDoorRefInput4
import Derived.Test.YtbalejfloieiiaaDoorWeightCode
import Derived.Test.YtbalejfloieiiaaDoorEdges
namespace Go.Proofs.YtbalejfloieiiaaDoor
open Go.RowKit
set_option linter.unusedSimpArgs false
set_option linter.unusedVariables false
set_option maxRecDepth 100000

/-- a fault of this number at this place; 0 is none -/
def errV (k p : Nat) : Value := if k = 0 then .nilIface else .iface 88 (.agg #[.int .i64 k, .int .i64 p])
theorem errV_zero (p : Nat) : errV 0 p = .nilIface := rfl
theorem errV_some {k p : Nat} (h : k ≠ 0) : errV k p = .iface 88 (.agg #[.int .i64 k, .int .i64 p]) := by unfold errV; rw [if_neg h]
theorem told_any (k p : Nat) (h0 : k = 0 → p = 0) (w : World) (hH : Handle w) : Calls Tryd.prog 33 #[errV k p] w fun e w' => e = .returned (.tuple #[.int .i64 k, .int .i64 p]) ∧ Keeps w w' := by
  by_cases h : k = 0
  · subst h
    rw [h0 rfl]
    exact told_none w
  · rw [errV_some h]
    exact told_some k p w hH
set_option maxHeartbeats 4000000 in
theorem shifted_any (k p d : Nat) (hp : p + d ≤ 9223372036854775000) (w : World) (hH : Handle w) : Calls Tryd.prog 76 #[.iface 88 (.agg #[.int .i64 k, .int .i64 p]), .int .i64 d] w fun e w' => e = .returned (.iface 88 (.agg #[.int .i64 k, .int .i64 ((p + d : Nat) : Int)])) ∧ Keeps w w' := by
  have T := Lib.hid (told_some k p w hH)
  have e1 : ((p + d : Nat) : Int) = (p : Int) + (d : Int) := by omega
  rw [e1]
  have hp' : (p : Int) + (d : Int) ≤ 9223372036854775000 := by omega
  clear e1 hp
  go_enter Tryd.func76, Tryd.ntmps76
  go_wp2_with fail
  refine T.out.mono ?_
  rintro e w1 ⟨rfl, k1⟩
  go_wp2_with fail
  go_ret
  exact ⟨rfl, k1⟩

/-- what is wrong with the magic -/
def magicV (l : List UInt8) : Value := match firstBad magicL l 0 with
  | some i => errV 8 i
  | none => errV 0 0
theorem magicV_bad {l : List UInt8} {i : Nat} (h : firstBad magicL l 0 = some i) : magicV l = .iface 88 (.agg #[.int .i64 8, .int .i64 (i : Int)]) := by unfold magicV; rw [h]; rfl
theorem magicV_ok {l : List UInt8} (h : firstBad magicL l 0 = none) : magicV l = .nilIface := by unfold magicV; rw [h]; rfl

set_option maxHeartbeats 16000000 in
theorem checkMagic_any (A : Option Addr) (n c : Nat) (l : List UInt8) (w : World) (hB : Bs w A l) (hnl : n = l.length) (hn : n ≤ 1000000000) :
    Calls Tryd.prog 52 #[.slice A n c] w fun e w' => e = .returned (magicV l) ∧ Keeps w w' := by
  have HB := Lib.hid hB
  have HN := Lib.hid hnl
  clear hB hnl
  go_enter Tryd.func52, Tryd.ntmps52
  go_wp2_with fail
  go_loopw [4] (fun i wr => ∃ k : Nat, k ≤ 4 ∧ i = .int .i64 k ∧ (∀ j, j < k → j < magicL.length ∧ l[j]? = magicL[j]?) ∧ Keeps w wr) (fun i _ => 4 - (intOf i).toNat)
  case atStart => exact ⟨0, Nat.zero_le _, rfl, fun j hj => by omega, keeps_refl _⟩
  case round =>
    obtain ⟨k, hk, rfl, hup, hkp⟩ := hrel
    have HU := Lib.hid hup
    clear hup
    rcases (show k = 0 ∨ k = 1 ∨ k = 2 ∨ k = 3 ∨ k = 4 by omega) with rfl | rfl | rfl | rfl | rfl
    · by_cases hn0 : n ≤ 0
      · have g0 : decide (n = 0) = true := decide_eq_true (by omega)
        have HR := Lib.hid (show Ending.returned (.iface 88 (.agg #[.int .i64 8, .int .i64 0])) = Ending.returned (magicV l) by
          have h1 := firstBad_upto magicL l 0 0 HU.out
          have h2 : l.drop 0 = [] := List.drop_eq_nil_of_le (by have := HN.out; omega)
          rw [h2] at h1
          have h3 : firstBad magicL l 0 = some 0 := h1
          rw [magicV_bad h3]; rfl)
        go_wp2_with fail
        go_quiet (fail)
        go_wp2_with fail
        exact bodyPost_ret (v := .iface 88 (.agg #[.int .i64 8, .int .i64 0])) (by simp [results, Tryd.results52, go_sem]) rfl ⟨HR.out, keeps_trans hkp (keeps_drewN _ _)⟩
      · have hlt0 : 0 < l.length := by have := HN.out; omega
        obtain ⟨ad, rfl, hc⟩ := (HB.out.keep hkp).at_ (k := 0) hlt0
        rw [show ad.add 0 = ad from rfl] at hc
        have hlt1 : (0 : Int) < (n : Int) := by omega
        have hlt4 : 0 < n := by omega
        have g0 : decide (n = 0) = false := decide_eq_false (by omega)
        have hs : ∀ (h : 0 < (ByteArray.mk #[77, 80, 71, 49]).size), ((ByteArray.mk #[77, 80, 71, 49])[0]'h).toNat = 77 := fun _ => rfl
        have HG := Lib.hid (show l[0]? = some (l.getD 0 0) by simp [List.getD, hlt0])
        by_cases hv : (l.getD 0 0).toNat = 77
        · rw [hv] at hc
          have HV := Lib.hid hv
          clear hv hn0
          go_wp2_with fail
          go_quiet (fail)
          go_wp2_with fail
          go_roundw
          case rel => exact ⟨1, by omega, rfl, fun j hj => by
            by_cases e : j = 0
            · subst e
              refine ⟨by decide, ?_⟩
              rw [HG.out]
              have : l.getD 0 0 = 77 := UInt8.toNat_inj.1 (by rw [HV.out]; rfl)
              rw [this]; rfl
            · exact HU.out j (by omega), keeps_trans hkp (keeps_drewN _ _)⟩
          case measure => simp [intOf]
        · have hb : ((((l.getD 0 0).toNat : Nat) : Int) == 77) = false := by rw [beq_eq_false_iff_ne]; omega
          have HR := Lib.hid (show Ending.returned (.iface 88 (.agg #[.int .i64 8, .int .i64 0])) = Ending.returned (magicV l) by
            have h1 := firstBad_upto magicL l 0 0 HU.out
            have h2 : l.drop 0 = l.getD 0 0 :: l.drop 1 := by
              rw [List.drop_eq_getElem_cons hlt0]; simp [List.getD, hlt0]
            rw [h2] at h1
            have h3 : firstBad magicL l 0 = some 0 := by
              rw [h1]
              show firstBad (77 :: _) _ _ = _
              unfold firstBad
              rw [if_neg (fun e => hv (by rw [← e]; rfl))]
            rw [magicV_bad h3]; rfl)
          have hb2 : ((((l.getD 0 0).toNat : Nat) : Int) != 77) = true := by rw [bne_iff_ne]; omega
          clear hv hn0
          generalize (l.getD 0 0).toNat = y at *
          go_wp2_with fail
          go_quiet (fail)
          go_wp2_with fail
          exact bodyPost_ret (v := .iface 88 (.agg #[.int .i64 8, .int .i64 0])) (by simp [results, Tryd.results52, go_sem]) rfl ⟨HR.out, keeps_trans hkp (keeps_drewN _ _)⟩
    · by_cases hn0 : n ≤ 1
      · have g0 : decide ((n : Int) ≤ 1) = true := decide_eq_true (by omega)
        have HR := Lib.hid (show Ending.returned (.iface 88 (.agg #[.int .i64 8, .int .i64 1])) = Ending.returned (magicV l) by
          have h1 := firstBad_upto magicL l 1 0 HU.out
          have h2 : l.drop 1 = [] := List.drop_eq_nil_of_le (by have := HN.out; omega)
          rw [h2] at h1
          have h3 : firstBad magicL l 0 = some 1 := h1
          rw [magicV_bad h3]; rfl)
        go_wp2_with fail
        go_quiet (fail)
        go_wp2_with fail
        exact bodyPost_ret (v := .iface 88 (.agg #[.int .i64 8, .int .i64 1])) (by simp [results, Tryd.results52, go_sem]) rfl ⟨HR.out, keeps_trans hkp (keeps_drewN _ _)⟩
      · have hlt0 : 1 < l.length := by have := HN.out; omega
        obtain ⟨ad, rfl, hc⟩ := (HB.out.keep hkp).at_ (k := 1) hlt0
        replace hc : wr.cell? ⟨ad.block, ad.off + 1, none⟩ = some (.int .u8 ((l.getD 1 0).toNat : Int)) := hc
        have hlt1 : (1 : Int) < (n : Int) := by omega
        have hlt4 : 1 < n := by omega
        have g0 : decide ((n : Int) ≤ 1) = false := decide_eq_false (by omega)
        have hs : ∀ (h : 1 < (ByteArray.mk #[77, 80, 71, 49]).size), ((ByteArray.mk #[77, 80, 71, 49])[1]'h).toNat = 80 := fun _ => rfl
        have HG := Lib.hid (show l[1]? = some (l.getD 1 0) by simp [List.getD, hlt0])
        by_cases hv : (l.getD 1 0).toNat = 80
        · rw [hv] at hc
          have HV := Lib.hid hv
          clear hv hn0
          go_wp2_with fail
          go_quiet (fail)
          go_wp2_with fail
          go_roundw
          case rel => exact ⟨2, by omega, rfl, fun j hj => by
            by_cases e : j = 1
            · subst e
              refine ⟨by decide, ?_⟩
              rw [HG.out]
              have : l.getD 1 0 = 80 := UInt8.toNat_inj.1 (by rw [HV.out]; rfl)
              rw [this]; rfl
            · exact HU.out j (by omega), keeps_trans hkp (keeps_drewN _ _)⟩
          case measure => simp [intOf]
        · have hb : ((((l.getD 1 0).toNat : Nat) : Int) == 80) = false := by rw [beq_eq_false_iff_ne]; omega
          have HR := Lib.hid (show Ending.returned (.iface 88 (.agg #[.int .i64 8, .int .i64 1])) = Ending.returned (magicV l) by
            have h1 := firstBad_upto magicL l 1 0 HU.out
            have h2 : l.drop 1 = l.getD 1 0 :: l.drop 2 := by
              rw [List.drop_eq_getElem_cons hlt0]; simp [List.getD, hlt0]
            rw [h2] at h1
            have h3 : firstBad magicL l 0 = some 1 := by
              rw [h1]
              show firstBad (80 :: _) _ _ = _
              unfold firstBad
              rw [if_neg (fun e => hv (by rw [← e]; rfl))]
            rw [magicV_bad h3]; rfl)
          have hb2 : ((((l.getD 1 0).toNat : Nat) : Int) != 80) = true := by rw [bne_iff_ne]; omega
          clear hv hn0
          generalize (l.getD 1 0).toNat = y at *
          go_wp2_with fail
          go_quiet (fail)
          go_wp2_with fail
          exact bodyPost_ret (v := .iface 88 (.agg #[.int .i64 8, .int .i64 1])) (by simp [results, Tryd.results52, go_sem]) rfl ⟨HR.out, keeps_trans hkp (keeps_drewN _ _)⟩
    · by_cases hn0 : n ≤ 2
      · have g0 : decide ((n : Int) ≤ 2) = true := decide_eq_true (by omega)
        have HR := Lib.hid (show Ending.returned (.iface 88 (.agg #[.int .i64 8, .int .i64 2])) = Ending.returned (magicV l) by
          have h1 := firstBad_upto magicL l 2 0 HU.out
          have h2 : l.drop 2 = [] := List.drop_eq_nil_of_le (by have := HN.out; omega)
          rw [h2] at h1
          have h3 : firstBad magicL l 0 = some 2 := h1
          rw [magicV_bad h3]; rfl)
        go_wp2_with fail
        go_quiet (fail)
        go_wp2_with fail
        exact bodyPost_ret (v := .iface 88 (.agg #[.int .i64 8, .int .i64 2])) (by simp [results, Tryd.results52, go_sem]) rfl ⟨HR.out, keeps_trans hkp (keeps_drewN _ _)⟩
      · have hlt0 : 2 < l.length := by have := HN.out; omega
        obtain ⟨ad, rfl, hc⟩ := (HB.out.keep hkp).at_ (k := 2) hlt0
        replace hc : wr.cell? ⟨ad.block, ad.off + 2, none⟩ = some (.int .u8 ((l.getD 2 0).toNat : Int)) := hc
        have hlt1 : (2 : Int) < (n : Int) := by omega
        have hlt4 : 2 < n := by omega
        have g0 : decide ((n : Int) ≤ 2) = false := decide_eq_false (by omega)
        have hs : ∀ (h : 2 < (ByteArray.mk #[77, 80, 71, 49]).size), ((ByteArray.mk #[77, 80, 71, 49])[2]'h).toNat = 71 := fun _ => rfl
        have HG := Lib.hid (show l[2]? = some (l.getD 2 0) by simp [List.getD, hlt0])
        by_cases hv : (l.getD 2 0).toNat = 71
        · rw [hv] at hc
          have HV := Lib.hid hv
          clear hv hn0
          go_wp2_with fail
          go_quiet (fail)
          go_wp2_with fail
          go_roundw
          case rel => exact ⟨3, by omega, rfl, fun j hj => by
            by_cases e : j = 2
            · subst e
              refine ⟨by decide, ?_⟩
              rw [HG.out]
              have : l.getD 2 0 = 71 := UInt8.toNat_inj.1 (by rw [HV.out]; rfl)
              rw [this]; rfl
            · exact HU.out j (by omega), keeps_trans hkp (keeps_drewN _ _)⟩
          case measure => simp [intOf]
        · have hb : ((((l.getD 2 0).toNat : Nat) : Int) == 71) = false := by rw [beq_eq_false_iff_ne]; omega
          have HR := Lib.hid (show Ending.returned (.iface 88 (.agg #[.int .i64 8, .int .i64 2])) = Ending.returned (magicV l) by
            have h1 := firstBad_upto magicL l 2 0 HU.out
            have h2 : l.drop 2 = l.getD 2 0 :: l.drop 3 := by
              rw [List.drop_eq_getElem_cons hlt0]; simp [List.getD, hlt0]
            rw [h2] at h1
            have h3 : firstBad magicL l 0 = some 2 := by
              rw [h1]
              show firstBad (71 :: _) _ _ = _
              unfold firstBad
              rw [if_neg (fun e => hv (by rw [← e]; rfl))]
            rw [magicV_bad h3]; rfl)
          have hb2 : ((((l.getD 2 0).toNat : Nat) : Int) != 71) = true := by rw [bne_iff_ne]; omega
          clear hv hn0
          generalize (l.getD 2 0).toNat = y at *
          go_wp2_with fail
          go_quiet (fail)
          go_wp2_with fail
          exact bodyPost_ret (v := .iface 88 (.agg #[.int .i64 8, .int .i64 2])) (by simp [results, Tryd.results52, go_sem]) rfl ⟨HR.out, keeps_trans hkp (keeps_drewN _ _)⟩
    · by_cases hn0 : n ≤ 3
      · have g0 : decide ((n : Int) ≤ 3) = true := decide_eq_true (by omega)
        have HR := Lib.hid (show Ending.returned (.iface 88 (.agg #[.int .i64 8, .int .i64 3])) = Ending.returned (magicV l) by
          have h1 := firstBad_upto magicL l 3 0 HU.out
          have h2 : l.drop 3 = [] := List.drop_eq_nil_of_le (by have := HN.out; omega)
          rw [h2] at h1
          have h3 : firstBad magicL l 0 = some 3 := h1
          rw [magicV_bad h3]; rfl)
        go_wp2_with fail
        go_quiet (fail)
        go_wp2_with fail
        exact bodyPost_ret (v := .iface 88 (.agg #[.int .i64 8, .int .i64 3])) (by simp [results, Tryd.results52, go_sem]) rfl ⟨HR.out, keeps_trans hkp (keeps_drewN _ _)⟩
      · have hlt0 : 3 < l.length := by have := HN.out; omega
        obtain ⟨ad, rfl, hc⟩ := (HB.out.keep hkp).at_ (k := 3) hlt0
        replace hc : wr.cell? ⟨ad.block, ad.off + 3, none⟩ = some (.int .u8 ((l.getD 3 0).toNat : Int)) := hc
        have hlt1 : (3 : Int) < (n : Int) := by omega
        have hlt4 : 3 < n := by omega
        have g0 : decide ((n : Int) ≤ 3) = false := decide_eq_false (by omega)
        have hs : ∀ (h : 3 < (ByteArray.mk #[77, 80, 71, 49]).size), ((ByteArray.mk #[77, 80, 71, 49])[3]'h).toNat = 49 := fun _ => rfl
        have HG := Lib.hid (show l[3]? = some (l.getD 3 0) by simp [List.getD, hlt0])
        by_cases hv : (l.getD 3 0).toNat = 49
        · rw [hv] at hc
          have HV := Lib.hid hv
          clear hv hn0
          go_wp2_with fail
          go_quiet (fail)
          go_wp2_with fail
          go_roundw
          case rel => exact ⟨4, by omega, rfl, fun j hj => by
            by_cases e : j = 3
            · subst e
              refine ⟨by decide, ?_⟩
              rw [HG.out]
              have : l.getD 3 0 = 49 := UInt8.toNat_inj.1 (by rw [HV.out]; rfl)
              rw [this]; rfl
            · exact HU.out j (by omega), keeps_trans hkp (keeps_drewN _ _)⟩
          case measure => simp [intOf]
        · have hb : ((((l.getD 3 0).toNat : Nat) : Int) == 49) = false := by rw [beq_eq_false_iff_ne]; omega
          have HR := Lib.hid (show Ending.returned (.iface 88 (.agg #[.int .i64 8, .int .i64 3])) = Ending.returned (magicV l) by
            have h1 := firstBad_upto magicL l 3 0 HU.out
            have h2 : l.drop 3 = l.getD 3 0 :: l.drop 4 := by
              rw [List.drop_eq_getElem_cons hlt0]; simp [List.getD, hlt0]
            rw [h2] at h1
            have h3 : firstBad magicL l 0 = some 3 := by
              rw [h1]
              show firstBad (49 :: _) _ _ = _
              unfold firstBad
              rw [if_neg (fun e => hv (by rw [← e]; rfl))]
            rw [magicV_bad h3]; rfl)
          have hb2 : ((((l.getD 3 0).toNat : Nat) : Int) != 49) = true := by rw [bne_iff_ne]; omega
          clear hv hn0
          generalize (l.getD 3 0).toNat = y at *
          go_wp2_with fail
          go_quiet (fail)
          go_wp2_with fail
          exact bodyPost_ret (v := .iface 88 (.agg #[.int .i64 8, .int .i64 3])) (by simp [results, Tryd.results52, go_sem]) rfl ⟨HR.out, keeps_trans hkp (keeps_drewN _ _)⟩
    · have h3 : firstBad magicL l 0 = none := by
        have h1 := firstBad_upto magicL l 4 0 HU.out
        rw [h1]; rfl
      clear hk
      have HR := Lib.hid (show Ending.returned .nilIface = Ending.returned (magicV l) by rw [magicV_ok h3])
      clear h3
      go_wp2_with fail
      exact bodyPost_ret (v := .nilIface) (by simp [results, Tryd.results52, go_sem]) rfl ⟨HR.out, hkp⟩

/-- what is wrong with the counts: the number and the place -/
def cntErr (n m : Nat) : Nat × Nat := if 2147483647 < n then (9, 4) else if 16777216 < m then (9, 8) else if n = 0 ∧ 0 < m then (8, 8) else (0, 0)
set_option maxHeartbeats 8000000 in
theorem checkCounts_any (n m : Nat) (hn : n < 18446744073709551616) (hm : m < 18446744073709551616) (w : World) :
    Calls Tryd.prog 38 #[.int .u64 n, .int .u64 m] w fun e w' => e = .returned (errV (cntErr n m).1 (cntErr n m).2) ∧ w = w' := by
  by_cases c1 : 2147483647 < n
  · have e : cntErr n m = (9, 4) := by unfold cntErr; rw [if_pos c1]
    rw [e]
    clear e
    go_enter Tryd.func38, Tryd.ntmps38
    go_wp2_with fail
    go_ret
    exact ⟨rfl, rfl⟩
  · by_cases c2 : 16777216 < m
    · have e : cntErr n m = (9, 8) := by unfold cntErr; rw [if_neg c1, if_pos c2]
      rw [e]
      have c1' : ¬ (2147483647 : Int) < (n : Int) := by omega
      clear e c1
      go_enter Tryd.func38, Tryd.ntmps38
      go_wp2_with fail
      go_ret
      exact ⟨rfl, rfl⟩
    · by_cases c3 : n = 0 ∧ 0 < m
      · obtain ⟨rfl, c4⟩ := c3
        have e : cntErr 0 m = (8, 8) := by unfold cntErr; rw [if_neg (by omega), if_neg c2, if_pos ⟨rfl, c4⟩]
        rw [e]
        have c2' : ¬ (16777216 : Int) < (m : Int) := by omega
        have hb : ((m : Int) == 0) = false := by rw [beq_eq_false_iff_ne]; omega
        have hb2 : ((m : Int) != 0) = true := by rw [bne_iff_ne]; omega
        clear e c1 c2 c4
        go_enter Tryd.func38, Tryd.ntmps38
        go_wp2_with fail
        go_ret
        exact ⟨rfl, rfl⟩
      · have e : cntErr n m = (0, 0) := by unfold cntErr; rw [if_neg c1, if_neg c2, if_neg c3]
        rw [e]
        have c1' : ¬ (2147483647 : Int) < (n : Int) := by omega
        have c2' : ¬ (16777216 : Int) < (m : Int) := by omega
        have ways : (((n : Int) == 0) = true ∧ ((m : Int) != 0) = false) ∨ ((n : Int) == 0) = false := by
          by_cases h : n = 0
          · left; refine ⟨by rw [beq_iff_eq]; omega, ?_⟩
            have : m = 0 := by omega
            subst this; rfl
          · right; rw [beq_eq_false_iff_ne]; omega
        clear e c1 c2 c3
        go_enter Tryd.func38, Tryd.ntmps38
        rcases ways with ⟨w1, w2⟩ | w1
        all_goals
          go_wp2_with fail
          go_ret
          exact ⟨rfl, rfl⟩

set_option maxHeartbeats 8000000 in
theorem checkEdge_any (n t h x m : Nat) (hn : n < 4294967296) (ht : t < 4294967296) (hh : h < 4294967296) (hx : x < 18446744073709551616) (w : World) :
    Calls Tryd.prog 40 #[.agg #[.int .u32 t, .int .u32 h, .int .u64 x, .int .u32 m], .int .u32 n] w fun e w' => e = .returned (errV (edErr n ⟨t, h, x, m⟩).1 (edErr n ⟨t, h, x, m⟩).2) ∧ Keeps w w' := by
  have k0 := keeps_alloc w (.cells #[.int .u32 t, .int .u32 h, .int .u64 x, .int .u32 m] 31)
  have F := Lib.hid (fun W => fits_any n x hn hx W)
  by_cases c1 : n ≤ t
  · have e : edErr n ⟨t, h, x, m⟩ = (13, 0) := by unfold edErr; rw [if_pos c1]
    rw [e]
    clear e
    go_enter Tryd.func40, Tryd.ntmps40
    go_wp2_with fail
    go_ret
    exact ⟨rfl, k0⟩
  · by_cases c2 : n ≤ h
    · have e : edErr n ⟨t, h, x, m⟩ = (13, 4) := by unfold edErr; rw [if_neg c1, if_pos c2]
      rw [e]
      clear e
      go_enter Tryd.func40, Tryd.ntmps40
      go_wp2_with fail
      go_ret
      exact ⟨rfl, k0⟩
    · cases hf : fitB n x with
      | false =>
        have e : edErr n ⟨t, h, x, m⟩ = (11, 8) := by unfold edErr; rw [if_neg c1, if_neg c2, if_pos hf]
        rw [e]
        rw [hf] at F
        clear e hf
        go_enter Tryd.func40, Tryd.ntmps40
        go_wp2_with fail
        refine (F.out _).mono ?_
        rintro e w1 ⟨rfl, rfl⟩
        go_wp2_with fail
        go_ret
        exact ⟨rfl, k0⟩
      | true =>
        have e : edErr n ⟨t, h, x, m⟩ = (0, 0) := by unfold edErr; rw [if_neg c1, if_neg c2, if_neg (by rw [hf]; decide)]
        rw [e]
        rw [hf] at F
        clear e hf
        go_enter Tryd.func40, Tryd.ntmps40
        go_wp2_with fail
        refine (F.out _).mono ?_
        rintro e w1 ⟨rfl, rfl⟩
        go_wp2_with fail
        go_ret
        exact ⟨rfl, k0⟩
end Go.Proofs.YtbalejfloieiiaaDoor
