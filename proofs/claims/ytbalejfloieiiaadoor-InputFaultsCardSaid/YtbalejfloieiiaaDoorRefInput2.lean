/- The contract of milepostref05's Row. -/
import Derived.Test.YtbalejfloieiiaaDoorRefInput
namespace Go.Proofs.YtbalejfloieiiaaDoor
open Go.RowKit
set_option linter.unusedSimpArgs false
set_option linter.unusedVariables false
set_option maxRecDepth 100000

/-- the value of a row's answer -/
def rowV (r : RRes) : Value := .tuple #[.agg #[.int .u32 (r.ed.t : Int), .int .u32 (r.ed.h : Int), .int .u64 (r.ed.x : Int), .int .u32 (r.ed.m : Int)], .int .i64 (r.e : Int), .int .i64 (r.a : Int)]
theorem rowS_long {l : List UInt8} {n : Nat} (h : 16 < l.length) : rowS l n = ⟨zeroEd, 1, 0⟩ := by unfold rowS; rw [if_neg (by omega), if_pos h]
theorem rowS_at {l : List UInt8} {n : Nat} (h : l.length = 16) : rowS l n = if n ≤ numI l 0 4 then ⟨zeroEd, 13, 0⟩ else if n ≤ numI l 4 4 then ⟨zeroEd, 13, 4⟩ else if fitB n (numI l 8 8) = false then ⟨zeroEd, 11, 8⟩ else ⟨⟨numI l 0 4, numI l 4 4, numI l 8 8, 4294967295⟩, 0, 0⟩ := by
  unfold rowS; rw [if_neg (by omega), if_neg (by omega)]

set_option maxHeartbeats 16000000 in
theorem refRow_any (A : Option Addr) (k c : Nat) (l : List UInt8) (n : Nat) (hn : n < 4294967296) (w : World) (hB : Bs w A l) (hkl : k = l.length) (hk : k ≤ 1000000000) :
    Calls Tryd.prog 19 #[.slice A k c, .int .u32 n] w fun e w' => e = .returned (rowV (rowS l n)) ∧ Keeps w w' := by
  have HB := Lib.hid hB
  have HN := Lib.hid hkl
  have kz := keeps_alloc w (.cells #[.int .u32 0, .int .u32 0, .int .u64 0, .int .u32 0] 31)
  clear hB hkl
  by_cases h1 : k < 16
  · have HR := Lib.hid (show Ending.returned (.tuple #[.agg #[.int .u32 0, .int .u32 0, .int .u64 0, .int .u32 0], .int .i64 8, .int .i64 (k : Int)]) = Ending.returned (rowV (rowS l n)) by
      rw [rowS_short l n (by rw [← HN.out]; exact h1), ← HN.out]; rfl)
    go_enter Tryd.func19, Tryd.ntmps19
    go_wp2_with fail
    exact bodyPost_ret (v := .tuple #[.agg #[.int .u32 0, .int .u32 0, .int .u64 0, .int .u32 0], .int .i64 8, .int .i64 (k : Int)]) (by simp [results, Tryd.results19, go_sem]) rfl ⟨HR.out, kz⟩
  · by_cases h2 : 16 < k
    · have HR := Lib.hid (show Ending.returned (.tuple #[.agg #[.int .u32 0, .int .u32 0, .int .u64 0, .int .u32 0], .int .i64 1, .int .i64 0]) = Ending.returned (rowV (rowS l n)) by
        rw [rowS_long (by rw [← HN.out]; exact h2)]; rfl)
      go_enter Tryd.func19, Tryd.ntmps19
      go_wp2_with fail
      exact bodyPost_ret (v := .tuple #[.agg #[.int .u32 0, .int .u32 0, .int .u64 0, .int .u32 0], .int .i64 1, .int .i64 0]) (by simp [results, Tryd.results19, go_sem]) rfl ⟨HR.out, kz⟩
    · obtain rfl : k = 16 := by omega
      have G1 := Lib.hid (fun W (q : Keeps w W) => number5_any A 16 c l 0 4 W (HB.out.keep q) HN.out (by omega) (by decide) (by omega))
      have G2 := Lib.hid (fun W (q : Keeps w W) => number5_any A 16 c l 4 4 W (HB.out.keep q) HN.out (by omega) (by decide) (by omega))
      have G3 := Lib.hid (fun W (q : Keeps w W) => number5_any A 16 c l 8 8 W (HB.out.keep q) HN.out (by omega) (by decide) (by omega))
      have b1 := numI_lt l 0 4
      have b2 := numI_lt l 4 4
      have b3 := numI_lt l 8 8
      simp only [Nat.reducePow] at b1 b2 b3
      have HH := Lib.hid (rowS_at (n := n) HN.out.symm)
      obtain ⟨t, ht⟩ : ∃ t, numI l 0 4 = t := ⟨_, rfl⟩
      obtain ⟨h, hh⟩ : ∃ h, numI l 4 4 = h := ⟨_, rfl⟩
      obtain ⟨x, hx⟩ : ∃ x, numI l 8 8 = x := ⟨_, rfl⟩
      rw [ht] at G1 b1 HH
      rw [hh] at G2 b2 HH
      rw [hx] at G3 b3 HH
      clear ht hh hx h1 h2
      have GF := Lib.hid (refFits_any n x hn b3)
      by_cases c1 : n ≤ t
      · have HR := Lib.hid (show Ending.returned (.tuple #[.agg #[.int .u32 0, .int .u32 0, .int .u64 0, .int .u32 0], .int .i64 13, .int .i64 0]) = Ending.returned (rowV (rowS l n)) by rw [HH.out, if_pos c1]; rfl)
        go_enter Tryd.func19, Tryd.ntmps19
        go_wp2_with fail
        refine (G1.out _ kz).mono ?_
        rintro e w' ⟨rfl, rfl⟩
        go_wp2_with fail
        refine (G2.out _ kz).mono ?_
        rintro e w' ⟨rfl, rfl⟩
        go_wp2_with fail
        refine (G3.out _ kz).mono ?_
        rintro e w' ⟨rfl, rfl⟩
        go_wp2_with fail
        exact bodyPost_ret (v := .tuple #[.agg #[.int .u32 0, .int .u32 0, .int .u64 0, .int .u32 0], .int .i64 13, .int .i64 0]) (by simp [results, Tryd.results19, go_sem]) rfl ⟨HR.out, keeps_trans kz (keeps_alloc _ _)⟩
      · by_cases c2 : n ≤ h
        · have HR := Lib.hid (show Ending.returned (.tuple #[.agg #[.int .u32 0, .int .u32 0, .int .u64 0, .int .u32 0], .int .i64 13, .int .i64 4]) = Ending.returned (rowV (rowS l n)) by rw [HH.out, if_neg c1, if_pos c2]; rfl)
          go_enter Tryd.func19, Tryd.ntmps19
          go_wp2_with fail
          refine (G1.out _ kz).mono ?_
          rintro e w' ⟨rfl, rfl⟩
          go_wp2_with fail
          refine (G2.out _ kz).mono ?_
          rintro e w' ⟨rfl, rfl⟩
          go_wp2_with fail
          refine (G3.out _ kz).mono ?_
          rintro e w' ⟨rfl, rfl⟩
          go_wp2_with fail
          exact bodyPost_ret (v := .tuple #[.agg #[.int .u32 0, .int .u32 0, .int .u64 0, .int .u32 0], .int .i64 13, .int .i64 4]) (by simp [results, Tryd.results19, go_sem]) rfl ⟨HR.out, keeps_trans kz (keeps_alloc _ _)⟩
        · cases hf : fitB n x with
          | false =>
            have HR := Lib.hid (show Ending.returned (.tuple #[.agg #[.int .u32 0, .int .u32 0, .int .u64 0, .int .u32 0], .int .i64 11, .int .i64 8]) = Ending.returned (rowV (rowS l n)) by rw [HH.out, if_neg c1, if_neg c2, if_pos hf]; rfl)
            rw [hf] at GF
            clear hf
            go_enter Tryd.func19, Tryd.ntmps19
            go_wp2_with fail
            refine (G1.out _ kz).mono ?_
            rintro e w' ⟨rfl, rfl⟩
            go_wp2_with fail
            refine (G2.out _ kz).mono ?_
            rintro e w' ⟨rfl, rfl⟩
            go_wp2_with fail
            refine (G3.out _ kz).mono ?_
            rintro e w' ⟨rfl, rfl⟩
            go_wp2_with fail
            refine (GF.out _).mono ?_
            rintro e w' ⟨rfl, rfl⟩
            go_wp2_with fail
            exact bodyPost_ret (v := .tuple #[.agg #[.int .u32 0, .int .u32 0, .int .u64 0, .int .u32 0], .int .i64 11, .int .i64 8]) (by simp [results, Tryd.results19, go_sem]) rfl ⟨HR.out, keeps_trans kz (keeps_alloc _ _)⟩
          | true =>
            have HR := Lib.hid (show Ending.returned (.tuple #[.agg #[.int .u32 (t : Int), .int .u32 (h : Int), .int .u64 (x : Int), .int .u32 4294967295], .int .i64 0, .int .i64 0]) = Ending.returned (rowV (rowS l n)) by rw [HH.out, if_neg c1, if_neg c2, if_neg (by rw [hf]; decide)]; rfl)
            rw [hf] at GF
            clear hf
            go_enter Tryd.func19, Tryd.ntmps19
            go_wp2_with fail
            refine (G1.out _ kz).mono ?_
            rintro e w' ⟨rfl, rfl⟩
            go_wp2_with fail
            refine (G2.out _ kz).mono ?_
            rintro e w' ⟨rfl, rfl⟩
            go_wp2_with fail
            refine (G3.out _ kz).mono ?_
            rintro e w' ⟨rfl, rfl⟩
            go_wp2_with fail
            refine (GF.out _).mono ?_
            rintro e w' ⟨rfl, rfl⟩
            go_wp2_with fail
            exact bodyPost_ret (v := .tuple #[.agg #[.int .u32 (t : Int), .int .u32 (h : Int), .int .u64 (x : Int), .int .u32 4294967295], .int .i64 0, .int .i64 0]) (by simp [results, Tryd.results19, go_sem]) rfl ⟨HR.out, keeps_trans (keeps_alloc _ _) (keeps_alloc _ _)⟩
end Go.Proofs.YtbalejfloieiiaaDoor
