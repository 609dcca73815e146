/- The contracts of package milepostref05: Head and Row. -/
import Derived.Test.YtbalejfloieiiaaDoorRefOct
import Derived.Test.YtbalejfloieiiaaDoorRefWeight
import Derived.Test.YtbalejfloieiiaaDoorInputMath3
import Derived.Test.YtbalejfloieiiaaDoorBox
import Derived.Outline
namespace Go.Proofs.YtbalejfloieiiaaDoor
open Go.RowKit
set_option linter.unusedSimpArgs false
set_option linter.unusedVariables false
set_option maxRecDepth 100000

theorem numI_at (l : List UInt8) (p s : Nat) : numAt l p s = numI l p s := rfl
theorem number5_any (A : Option Addr) (n c : Nat) (l : List UInt8) (p s : Nat) (w : World) (hB : Bs w A l) (hnl : n = l.length) (hn : n ≤ 9223372036854775000) (hs : isSz (s : Int) = true) (hp : p + s ≤ n) :
    Calls Tryd.prog 34 #[.slice A n c, .int .i64 p, .int .i64 s] w fun e w' => e = .returned (.int .u64 (numI l p s)) ∧ w = w' := by
  have G := Lib.hid (refGet_yes A n c l p s w hB hnl hn hs hp)
  clear hB hnl
  go_enter Tryd.func34, Tryd.ntmps34
  go_wp2_with fail
  refine G.out.mono ?_
  rintro e w' ⟨rfl, rfl⟩
  go_wp2_with fail
  go_ret
  exact ⟨rfl, rfl⟩

/-- the value of a head's answer -/
def headV (r : HRes) : Value := .tuple #[.int .u32 (r.n : Int), .int .u32 (r.m : Int), .int .i64 (r.e : Int), .int .i64 (r.a : Int)]

/-- bytes ahead of k are right -/
theorem firstBad_upto (m b : List UInt8) (k i : Nat) (h : ∀ j, j < k → j < m.length ∧ b[j]? = m[j]?) : firstBad m b i = firstBad (m.drop k) (b.drop k) (i + k) := by
  induction k generalizing m b i with
  | zero => rfl
  | succ k ih =>
    obtain ⟨h0, h1⟩ := h 0 (by omega)
    cases m with
    | nil => simp at h0
    | cons c m =>
      cases b with
      | nil => simp at h1
      | cons d b =>
        simp only [List.getElem?_cons_zero, Option.some.injEq] at h1
        subst h1
        simp only [firstBad, if_true, List.drop_succ_cons]
        rw [ih m b (i + 1) (fun j hj => by
          have := h (j + 1) (by omega)
          simpa using this)]
        congr 1
        omega

theorem headS_bad {l : List UInt8} {i : Nat} (h : firstBad magicL l 0 = some i) : headS l = ⟨0, 0, 8, i⟩ := by unfold headS; rw [h]
theorem headS_short {l : List UInt8} (h : firstBad magicL l 0 = none) (hl : l.length < 12) : headS l = ⟨0, 0, 8, l.length⟩ := by unfold headS; rw [h]; simp only; rw [if_pos hl]
theorem headS_long {l : List UInt8} (h : firstBad magicL l 0 = none) (hl : ¬ l.length < 12) : headS l = if 2147483647 < numI l 4 4 then ⟨0, 0, 9, 4⟩ else if 16777216 < numI l 8 4 then ⟨0, 0, 9, 8⟩ else if numI l 4 4 = 0 ∧ 0 < numI l 8 4 then ⟨0, 0, 8, 8⟩ else ⟨numI l 4 4, numI l 8 4, 0, 0⟩ := by unfold headS; rw [h]; simp only; rw [if_neg hl]

set_option maxHeartbeats 16000000 in
theorem refHead_any (A : Option Addr) (n c : Nat) (l : List UInt8) (w : World) (hB : Bs w A l) (hnl : n = l.length) (hn : n ≤ 1000000000) :
    Calls Tryd.prog 17 #[.slice A n c] w fun e w' => e = .returned (headV (headS l)) ∧ Keeps w w' := by
  have HB := Lib.hid hB
  have HN := Lib.hid hnl
  clear hB hnl
  go_enter Tryd.func17, Tryd.ntmps17
  go_wp2_with fail
  go_loopw [7] (fun i wr => ∃ k : Nat, k ≤ 4 ∧ i = .int .i64 k ∧ (∀ j, j < k → j < magicL.length ∧ l[j]? = magicL[j]?) ∧ Keeps w wr) (fun i _ => 4 - (intOf i).toNat)
  case atStart => exact ⟨0, Nat.zero_le _, rfl, fun j hj => by omega, keeps_refl _⟩
  case round =>
    obtain ⟨k, hk, rfl, hup, hkp⟩ := hrel
    have HU := Lib.hid hup
    clear hup
    rcases (show k = 0 ∨ k = 1 ∨ k = 2 ∨ k = 3 ∨ k = 4 by omega) with rfl | rfl | rfl | rfl | rfl
    · by_cases hn0 : n ≤ 0
      · have g0 : decide (n = 0) = true := decide_eq_true (by omega)
        have HR := Lib.hid (show Ending.returned (.tuple #[.int .u32 0, .int .u32 0, .int .i64 8, .int .i64 0]) = Ending.returned (headV (headS l)) by
          have h1 := firstBad_upto magicL l 0 0 HU.out
          have h2 : l.drop 0 = [] := List.drop_eq_nil_of_le (by have := HN.out; omega)
          rw [h2] at h1
          have h3 : firstBad magicL l 0 = some 0 := h1
          rw [headS_bad h3]; rfl)
        go_wp2_with fail
        go_quiet (fail)
        go_wp2_with fail
        exact bodyPost_ret (v := .tuple #[.int .u32 0, .int .u32 0, .int .i64 8, .int .i64 0]) (by simp [results, Tryd.results17, go_sem]) rfl ⟨HR.out, keeps_trans hkp (keeps_drewN _ _)⟩
      · have hlt0 : 0 < l.length := by have := HN.out; omega
        obtain ⟨ad, rfl, hc⟩ := (HB.out.keep hkp).at_ (k := 0) hlt0
        rw [show ad.add 0 = ad from rfl] at hc
        have hlt1 : (0 : Int) < (n : Int) := by omega
        have hlt4 : 0 < n := by omega
        have g0 : decide (n = 0) = false := decide_eq_false (by omega)
        have hs : ∀ (h : 0 < (ByteArray.mk #[77, 80, 71, 49]).size), ((ByteArray.mk #[77, 80, 71, 49])[0]'h).toNat = 77 := fun _ => rfl
        have HG := Lib.hid (show l[0]? = some (l.getD 0 0) by simp [List.getD, hlt0])
        by_cases hv : (l.getD 0 0).toNat = 77
        · rw [hv] at hc
          have HV := Lib.hid hv
          clear hv hn0
          go_wp2_with fail
          go_quiet (fail)
          go_wp2_with fail
          go_roundw
          case rel => exact ⟨1, by omega, rfl, fun j hj => by
            by_cases e : j = 0
            · subst e
              refine ⟨by decide, ?_⟩
              rw [HG.out]
              have : l.getD 0 0 = 77 := UInt8.toNat_inj.1 (by rw [HV.out]; rfl)
              rw [this]; rfl
            · exact HU.out j (by omega), keeps_trans hkp (keeps_drewN _ _)⟩
          case measure => simp [intOf]
        · have hb : ((((l.getD 0 0).toNat : Nat) : Int) == 77) = false := by rw [beq_eq_false_iff_ne]; omega
          have HR := Lib.hid (show Ending.returned (.tuple #[.int .u32 0, .int .u32 0, .int .i64 8, .int .i64 0]) = Ending.returned (headV (headS l)) by
            have h1 := firstBad_upto magicL l 0 0 HU.out
            have h2 : l.drop 0 = l.getD 0 0 :: l.drop 1 := by
              rw [List.drop_eq_getElem_cons hlt0]; simp [List.getD, hlt0]
            rw [h2] at h1
            have h3 : firstBad magicL l 0 = some 0 := by
              rw [h1]
              show firstBad (77 :: _) _ _ = _
              unfold firstBad
              rw [if_neg (fun e => hv (by rw [← e]; rfl))]
            rw [headS_bad h3]; rfl)
          have hb2 : ((((l.getD 0 0).toNat : Nat) : Int) != 77) = true := by rw [bne_iff_ne]; omega
          clear hv hn0
          generalize (l.getD 0 0).toNat = y at *
          go_wp2_with fail
          go_quiet (fail)
          go_wp2_with fail
          exact bodyPost_ret (v := .tuple #[.int .u32 0, .int .u32 0, .int .i64 8, .int .i64 0]) (by simp [results, Tryd.results17, go_sem]) rfl ⟨HR.out, keeps_trans hkp (keeps_drewN _ _)⟩
    · by_cases hn0 : n ≤ 1
      · have g0 : decide ((n : Int) ≤ 1) = true := decide_eq_true (by omega)
        have HR := Lib.hid (show Ending.returned (.tuple #[.int .u32 0, .int .u32 0, .int .i64 8, .int .i64 1]) = Ending.returned (headV (headS l)) by
          have h1 := firstBad_upto magicL l 1 0 HU.out
          have h2 : l.drop 1 = [] := List.drop_eq_nil_of_le (by have := HN.out; omega)
          rw [h2] at h1
          have h3 : firstBad magicL l 0 = some 1 := h1
          rw [headS_bad h3]; rfl)
        go_wp2_with fail
        go_quiet (fail)
        go_wp2_with fail
        exact bodyPost_ret (v := .tuple #[.int .u32 0, .int .u32 0, .int .i64 8, .int .i64 1]) (by simp [results, Tryd.results17, go_sem]) rfl ⟨HR.out, keeps_trans hkp (keeps_drewN _ _)⟩
      · have hlt0 : 1 < l.length := by have := HN.out; omega
        obtain ⟨ad, rfl, hc⟩ := (HB.out.keep hkp).at_ (k := 1) hlt0
        replace hc : wr.cell? ⟨ad.block, ad.off + 1, none⟩ = some (.int .u8 ((l.getD 1 0).toNat : Int)) := hc
        have hlt1 : (1 : Int) < (n : Int) := by omega
        have hlt4 : 1 < n := by omega
        have g0 : decide ((n : Int) ≤ 1) = false := decide_eq_false (by omega)
        have hs : ∀ (h : 1 < (ByteArray.mk #[77, 80, 71, 49]).size), ((ByteArray.mk #[77, 80, 71, 49])[1]'h).toNat = 80 := fun _ => rfl
        have HG := Lib.hid (show l[1]? = some (l.getD 1 0) by simp [List.getD, hlt0])
        by_cases hv : (l.getD 1 0).toNat = 80
        · rw [hv] at hc
          have HV := Lib.hid hv
          clear hv hn0
          go_wp2_with fail
          go_quiet (fail)
          go_wp2_with fail
          go_roundw
          case rel => exact ⟨2, by omega, rfl, fun j hj => by
            by_cases e : j = 1
            · subst e
              refine ⟨by decide, ?_⟩
              rw [HG.out]
              have : l.getD 1 0 = 80 := UInt8.toNat_inj.1 (by rw [HV.out]; rfl)
              rw [this]; rfl
            · exact HU.out j (by omega), keeps_trans hkp (keeps_drewN _ _)⟩
          case measure => simp [intOf]
        · have hb : ((((l.getD 1 0).toNat : Nat) : Int) == 80) = false := by rw [beq_eq_false_iff_ne]; omega
          have HR := Lib.hid (show Ending.returned (.tuple #[.int .u32 0, .int .u32 0, .int .i64 8, .int .i64 1]) = Ending.returned (headV (headS l)) by
            have h1 := firstBad_upto magicL l 1 0 HU.out
            have h2 : l.drop 1 = l.getD 1 0 :: l.drop 2 := by
              rw [List.drop_eq_getElem_cons hlt0]; simp [List.getD, hlt0]
            rw [h2] at h1
            have h3 : firstBad magicL l 0 = some 1 := by
              rw [h1]
              show firstBad (80 :: _) _ _ = _
              unfold firstBad
              rw [if_neg (fun e => hv (by rw [← e]; rfl))]
            rw [headS_bad h3]; rfl)
          have hb2 : ((((l.getD 1 0).toNat : Nat) : Int) != 80) = true := by rw [bne_iff_ne]; omega
          clear hv hn0
          generalize (l.getD 1 0).toNat = y at *
          go_wp2_with fail
          go_quiet (fail)
          go_wp2_with fail
          exact bodyPost_ret (v := .tuple #[.int .u32 0, .int .u32 0, .int .i64 8, .int .i64 1]) (by simp [results, Tryd.results17, go_sem]) rfl ⟨HR.out, keeps_trans hkp (keeps_drewN _ _)⟩
    · by_cases hn0 : n ≤ 2
      · have g0 : decide ((n : Int) ≤ 2) = true := decide_eq_true (by omega)
        have HR := Lib.hid (show Ending.returned (.tuple #[.int .u32 0, .int .u32 0, .int .i64 8, .int .i64 2]) = Ending.returned (headV (headS l)) by
          have h1 := firstBad_upto magicL l 2 0 HU.out
          have h2 : l.drop 2 = [] := List.drop_eq_nil_of_le (by have := HN.out; omega)
          rw [h2] at h1
          have h3 : firstBad magicL l 0 = some 2 := h1
          rw [headS_bad h3]; rfl)
        go_wp2_with fail
        go_quiet (fail)
        go_wp2_with fail
        exact bodyPost_ret (v := .tuple #[.int .u32 0, .int .u32 0, .int .i64 8, .int .i64 2]) (by simp [results, Tryd.results17, go_sem]) rfl ⟨HR.out, keeps_trans hkp (keeps_drewN _ _)⟩
      · have hlt0 : 2 < l.length := by have := HN.out; omega
        obtain ⟨ad, rfl, hc⟩ := (HB.out.keep hkp).at_ (k := 2) hlt0
        replace hc : wr.cell? ⟨ad.block, ad.off + 2, none⟩ = some (.int .u8 ((l.getD 2 0).toNat : Int)) := hc
        have hlt1 : (2 : Int) < (n : Int) := by omega
        have hlt4 : 2 < n := by omega
        have g0 : decide ((n : Int) ≤ 2) = false := decide_eq_false (by omega)
        have hs : ∀ (h : 2 < (ByteArray.mk #[77, 80, 71, 49]).size), ((ByteArray.mk #[77, 80, 71, 49])[2]'h).toNat = 71 := fun _ => rfl
        have HG := Lib.hid (show l[2]? = some (l.getD 2 0) by simp [List.getD, hlt0])
        by_cases hv : (l.getD 2 0).toNat = 71
        · rw [hv] at hc
          have HV := Lib.hid hv
          clear hv hn0
          go_wp2_with fail
          go_quiet (fail)
          go_wp2_with fail
          go_roundw
          case rel => exact ⟨3, by omega, rfl, fun j hj => by
            by_cases e : j = 2
            · subst e
              refine ⟨by decide, ?_⟩
              rw [HG.out]
              have : l.getD 2 0 = 71 := UInt8.toNat_inj.1 (by rw [HV.out]; rfl)
              rw [this]; rfl
            · exact HU.out j (by omega), keeps_trans hkp (keeps_drewN _ _)⟩
          case measure => simp [intOf]
        · have hb : ((((l.getD 2 0).toNat : Nat) : Int) == 71) = false := by rw [beq_eq_false_iff_ne]; omega
          have HR := Lib.hid (show Ending.returned (.tuple #[.int .u32 0, .int .u32 0, .int .i64 8, .int .i64 2]) = Ending.returned (headV (headS l)) by
            have h1 := firstBad_upto magicL l 2 0 HU.out
            have h2 : l.drop 2 = l.getD 2 0 :: l.drop 3 := by
              rw [List.drop_eq_getElem_cons hlt0]; simp [List.getD, hlt0]
            rw [h2] at h1
            have h3 : firstBad magicL l 0 = some 2 := by
              rw [h1]
              show firstBad (71 :: _) _ _ = _
              unfold firstBad
              rw [if_neg (fun e => hv (by rw [← e]; rfl))]
            rw [headS_bad h3]; rfl)
          have hb2 : ((((l.getD 2 0).toNat : Nat) : Int) != 71) = true := by rw [bne_iff_ne]; omega
          clear hv hn0
          generalize (l.getD 2 0).toNat = y at *
          go_wp2_with fail
          go_quiet (fail)
          go_wp2_with fail
          exact bodyPost_ret (v := .tuple #[.int .u32 0, .int .u32 0, .int .i64 8, .int .i64 2]) (by simp [results, Tryd.results17, go_sem]) rfl ⟨HR.out, keeps_trans hkp (keeps_drewN _ _)⟩
    · by_cases hn0 : n ≤ 3
      · have g0 : decide ((n : Int) ≤ 3) = true := decide_eq_true (by omega)
        have HR := Lib.hid (show Ending.returned (.tuple #[.int .u32 0, .int .u32 0, .int .i64 8, .int .i64 3]) = Ending.returned (headV (headS l)) by
          have h1 := firstBad_upto magicL l 3 0 HU.out
          have h2 : l.drop 3 = [] := List.drop_eq_nil_of_le (by have := HN.out; omega)
          rw [h2] at h1
          have h3 : firstBad magicL l 0 = some 3 := h1
          rw [headS_bad h3]; rfl)
        go_wp2_with fail
        go_quiet (fail)
        go_wp2_with fail
        exact bodyPost_ret (v := .tuple #[.int .u32 0, .int .u32 0, .int .i64 8, .int .i64 3]) (by simp [results, Tryd.results17, go_sem]) rfl ⟨HR.out, keeps_trans hkp (keeps_drewN _ _)⟩
      · have hlt0 : 3 < l.length := by have := HN.out; omega
        obtain ⟨ad, rfl, hc⟩ := (HB.out.keep hkp).at_ (k := 3) hlt0
        replace hc : wr.cell? ⟨ad.block, ad.off + 3, none⟩ = some (.int .u8 ((l.getD 3 0).toNat : Int)) := hc
        have hlt1 : (3 : Int) < (n : Int) := by omega
        have hlt4 : 3 < n := by omega
        have g0 : decide ((n : Int) ≤ 3) = false := decide_eq_false (by omega)
        have hs : ∀ (h : 3 < (ByteArray.mk #[77, 80, 71, 49]).size), ((ByteArray.mk #[77, 80, 71, 49])[3]'h).toNat = 49 := fun _ => rfl
        have HG := Lib.hid (show l[3]? = some (l.getD 3 0) by simp [List.getD, hlt0])
        by_cases hv : (l.getD 3 0).toNat = 49
        · rw [hv] at hc
          have HV := Lib.hid hv
          clear hv hn0
          go_wp2_with fail
          go_quiet (fail)
          go_wp2_with fail
          go_roundw
          case rel => exact ⟨4, by omega, rfl, fun j hj => by
            by_cases e : j = 3
            · subst e
              refine ⟨by decide, ?_⟩
              rw [HG.out]
              have : l.getD 3 0 = 49 := UInt8.toNat_inj.1 (by rw [HV.out]; rfl)
              rw [this]; rfl
            · exact HU.out j (by omega), keeps_trans hkp (keeps_drewN _ _)⟩
          case measure => simp [intOf]
        · have hb : ((((l.getD 3 0).toNat : Nat) : Int) == 49) = false := by rw [beq_eq_false_iff_ne]; omega
          have HR := Lib.hid (show Ending.returned (.tuple #[.int .u32 0, .int .u32 0, .int .i64 8, .int .i64 3]) = Ending.returned (headV (headS l)) by
            have h1 := firstBad_upto magicL l 3 0 HU.out
            have h2 : l.drop 3 = l.getD 3 0 :: l.drop 4 := by
              rw [List.drop_eq_getElem_cons hlt0]; simp [List.getD, hlt0]
            rw [h2] at h1
            have h3 : firstBad magicL l 0 = some 3 := by
              rw [h1]
              show firstBad (49 :: _) _ _ = _
              unfold firstBad
              rw [if_neg (fun e => hv (by rw [← e]; rfl))]
            rw [headS_bad h3]; rfl)
          have hb2 : ((((l.getD 3 0).toNat : Nat) : Int) != 49) = true := by rw [bne_iff_ne]; omega
          clear hv hn0
          generalize (l.getD 3 0).toNat = y at *
          go_wp2_with fail
          go_quiet (fail)
          go_wp2_with fail
          exact bodyPost_ret (v := .tuple #[.int .u32 0, .int .u32 0, .int .i64 8, .int .i64 3]) (by simp [results, Tryd.results17, go_sem]) rfl ⟨HR.out, keeps_trans hkp (keeps_drewN _ _)⟩
    · have h3 : firstBad magicL l 0 = none := by
        have h1 := firstBad_upto magicL l 4 0 HU.out
        rw [h1]; rfl
      clear hk
      have HNN := Lib.hid h3
      clear h3
      by_cases h12 : n < 12
      · have HR := Lib.hid (show Ending.returned (.tuple #[.int .u32 0, .int .u32 0, .int .i64 8, .int .i64 (n : Int)]) = Ending.returned (headV (headS l)) by
          rw [headS_short HNN.out (by have := HN.out; omega), ← HN.out]; rfl)
        go_wp2_with fail
        exact bodyPost_ret (v := .tuple #[.int .u32 0, .int .u32 0, .int .i64 8, .int .i64 (n : Int)]) (by simp [results, Tryd.results17, go_sem]) rfl ⟨HR.out, hkp⟩
      · have h12' : ¬ l.length < 12 := by have := HN.out; omega
        have G1 := Lib.hid (fun W (k : Keeps w W) => number5_any A n c l 4 4 W (HB.out.keep k) HN.out (by omega) (by decide) (by omega))
        have G2 := Lib.hid (fun W (k : Keeps w W) => number5_any A n c l 8 4 W (HB.out.keep k) HN.out (by omega) (by decide) (by omega))
        have b1 := numI_lt l 4 4
        have b2 := numI_lt l 8 4
        simp only [Nat.reducePow] at b1 b2
        have HH := Lib.hid (headS_long HNN.out h12')
        clear h12'
        obtain ⟨x, hx⟩ : ∃ x, numI l 4 4 = x := ⟨_, rfl⟩
        obtain ⟨y, hy⟩ : ∃ y, numI l 8 4 = y := ⟨_, rfl⟩
        rw [hx] at G1 b1 HH
        rw [hy] at G2 b2 HH
        clear hx hy
        go_wp2_with fail
        refine (G1.out _ hkp).mono ?_
        rintro e w' ⟨rfl, rfl⟩
        go_wp2_with fail
        refine (G2.out _ hkp).mono ?_
        rintro e w' ⟨rfl, rfl⟩
        by_cases c1 : 2147483647 < x
        · have HR := Lib.hid (show Ending.returned (.tuple #[.int .u32 0, .int .u32 0, .int .i64 9, .int .i64 4]) = Ending.returned (headV (headS l)) by rw [HH.out, if_pos c1]; rfl)
          go_wp2_with fail
          exact bodyPost_ret (v := .tuple #[.int .u32 0, .int .u32 0, .int .i64 9, .int .i64 4]) (by simp [results, Tryd.results17, go_sem]) rfl ⟨HR.out, hkp⟩
        · by_cases c2 : 16777216 < y
          · have HR := Lib.hid (show Ending.returned (.tuple #[.int .u32 0, .int .u32 0, .int .i64 9, .int .i64 8]) = Ending.returned (headV (headS l)) by rw [HH.out, if_neg c1, if_pos c2]; rfl)
            go_wp2_with fail
            exact bodyPost_ret (v := .tuple #[.int .u32 0, .int .u32 0, .int .i64 9, .int .i64 8]) (by simp [results, Tryd.results17, go_sem]) rfl ⟨HR.out, hkp⟩
          · by_cases c3 : x = 0 ∧ 0 < y
            · have HR := Lib.hid (show Ending.returned (.tuple #[.int .u32 0, .int .u32 0, .int .i64 8, .int .i64 8]) = Ending.returned (headV (headS l)) by rw [HH.out, if_neg c1, if_neg c2, if_pos c3]; rfl)
              obtain ⟨c4, c5⟩ := c3
              subst c4
              go_wp2_with fail
              exact bodyPost_ret (v := .tuple #[.int .u32 0, .int .u32 0, .int .i64 8, .int .i64 8]) (by simp [results, Tryd.results17, go_sem]) rfl ⟨HR.out, hkp⟩
            · have HR := Lib.hid (show Ending.returned (.tuple #[.int .u32 (x : Int), .int .u32 (y : Int), .int .i64 0, .int .i64 0]) = Ending.returned (headV (headS l)) by rw [HH.out, if_neg c1, if_neg c2, if_neg c3]; rfl)
              have c1' : (x : Int) ≤ 2147483647 := by omega
              have c2' : (y : Int) ≤ 16777216 := by omega
              by_cases c4 : x = 0
              · subst c4
                obtain rfl : y = 0 := by omega
                clear c3
                go_wp2_with fail
                exact bodyPost_ret (v := .tuple #[.int .u32 0, .int .u32 0, .int .i64 0, .int .i64 0]) (by simp [results, Tryd.results17, go_sem]) rfl ⟨HR.out, hkp⟩
              · have c5 : ((x : Int) == 0) = false := by rw [beq_eq_false_iff_ne]; omega
                clear c3 c4
                go_wp2_with fail
                exact bodyPost_ret (v := .tuple #[.int .u32 (x : Int), .int .u32 (y : Int), .int .i64 0, .int .i64 0]) (by simp [results, Tryd.results17, go_sem]) rfl ⟨HR.out, hkp⟩
end Go.Proofs.YtbalejfloieiiaaDoor
