/- Package input: heads. -/
import Derived.Test.YtbalejfloieiiaaDoorInErr
namespace Go.Proofs.YtbalejfloieiiaaDoor
open Go.RowKit
set_option linter.unusedSimpArgs false
set_option linter.unusedVariables false
set_option maxRecDepth 100000

theorem headS_cnt {l : List UInt8} (h : firstBad magicL l 0 = none) (hl : ¬ l.length < 12) : headS l = if (cntErr (numI l 4 4) (numI l 8 4)).1 = 0 then ⟨numI l 4 4, numI l 8 4, 0, 0⟩ else ⟨0, 0, (cntErr (numI l 4 4) (numI l 8 4)).1, (cntErr (numI l 4 4) (numI l 8 4)).2⟩ := by
  rw [headS_long h hl]
  unfold cntErr
  by_cases c1 : 2147483647 < numI l 4 4
  · rw [if_pos c1, if_pos c1]; rfl
  · rw [if_neg c1, if_neg c1]
    by_cases c2 : 16777216 < numI l 8 4
    · rw [if_pos c2, if_pos c2]; rfl
    · rw [if_neg c2, if_neg c2]
      by_cases c3 : numI l 4 4 = 0 ∧ 0 < numI l 8 4
      · rw [if_pos c3, if_pos c3]; rfl
      · rw [if_neg c3, if_neg c3]; rfl
/-- the answer of readHead -/
def rheadV (r : HRes) : Value := .tuple #[.int .u32 (r.n : Int), .int .u32 (r.m : Int), errV r.e r.a]
theorem headS_e0 (l : List UInt8) : (headS l).e = 0 → (headS l).a = 0 := by
  intro he
  unfold headS at he ⊢
  split
  · rename_i i hi
    rw [hi] at he
    simp at he
  · rename_i hi
    rw [hi] at he
    simp only at he ⊢
    split at he
    · simp at he
    · rename_i h1
      rw [if_neg h1]
      split at he
      · simp at he
      · rename_i h2
        rw [if_neg h2]
        split at he
        · simp at he
        · rename_i h3
          rw [if_neg h3]
          split at he
          · simp at he
          · rename_i h4
            rw [if_neg h4]
set_option maxHeartbeats 8000000 in
theorem readHead_any (A : Option Addr) (n c : Nat) (l : List UInt8) (w : World) (hS : Sizes w) (hB : Bs w A l) (hnl : n = l.length) (hc : n ≤ c) (hn : n ≤ 1000000000) :
    Calls Tryd.prog 32 #[.slice A n c] w fun e w' => e = .returned (rheadV (headS l)) ∧ Keeps w w' := by
  have HB := Lib.hid hB
  have HN := Lib.hid hnl
  have HS := Lib.hid hS
  have CM := Lib.hid (checkMagic_any A n c l w hB hnl hn)
  clear hB hnl hS
  cases hf : firstBad magicL l 0 with
  | some i =>
    rw [magicV_bad hf] at CM
    have HR := Lib.hid (show Ending.returned (.tuple #[.int .u32 0, .int .u32 0, .iface 88 (.agg #[.int .i64 8, .int .i64 (i : Int)])]) = Ending.returned (rheadV (headS l)) by rw [headS_bad hf]; rfl)
    clear hf
    go_enter Tryd.func32, Tryd.ntmps32
    go_wp2_with fail
    refine CM.out.mono ?_
    rintro e w1 ⟨rfl, k1⟩
    go_wp2_with fail
    exact bodyPost_ret (v := .tuple #[.int .u32 0, .int .u32 0, .iface 88 (.agg #[.int .i64 8, .int .i64 (i : Int)])]) (by simp [results, Tryd.results32, go_sem]) rfl ⟨HR.out, k1⟩
  | none =>
    rw [magicV_ok hf] at CM
    have HF := Lib.hid hf
    clear hf
    by_cases h12 : n < 12
    · have HR := Lib.hid (show Ending.returned (.tuple #[.int .u32 0, .int .u32 0, .iface 88 (.agg #[.int .i64 8, .int .i64 (n : Int)])]) = Ending.returned (rheadV (headS l)) by
        rw [headS_short HF.out (by have := HN.out; omega), ← HN.out]; rfl)
      go_enter Tryd.func32, Tryd.ntmps32
      go_wp2_with fail
      refine CM.out.mono ?_
      rintro e w1 ⟨rfl, k1⟩
      go_wp2_with fail
      exact bodyPost_ret (v := .tuple #[.int .u32 0, .int .u32 0, .iface 88 (.agg #[.int .i64 8, .int .i64 (n : Int)])]) (by simp [results, Tryd.results32, go_sem]) rfl ⟨HR.out, k1⟩
    · have h12' : ¬ l.length < 12 := by have := HN.out; omega
      have HH := Lib.hid (headS_cnt HF.out h12')
      clear h12'
      have G1 := Lib.hid (fun W (k : Keeps w W) => get_yes A n c l 4 4 W (HS.out.keep k) (HB.out.keep k) HN.out hc (by omega) (by decide) (by omega))
      have G2 := Lib.hid (fun W (k : Keeps w W) => get_yes A n c l 8 4 W (HS.out.keep k) (HB.out.keep k) HN.out hc (by omega) (by decide) (by omega))
      have b1 := numI_lt l 4 4
      have b2 := numI_lt l 8 4
      simp only [Nat.reducePow] at b1 b2
      have e1 : numAt l 4 4 = numI l 4 4 := rfl
      have e2 : numAt l 8 4 = numI l 8 4 := rfl
      rw [e1] at G1
      rw [e2] at G2
      obtain ⟨x, hx⟩ : ∃ x, numI l 4 4 = x := ⟨_, rfl⟩
      obtain ⟨y, hy⟩ : ∃ y, numI l 8 4 = y := ⟨_, rfl⟩
      rw [hx] at G1 b1 HH
      rw [hy] at G2 b2 HH
      clear hx hy e1 e2
      have CC := Lib.hid (fun W => checkCounts_any x y (by omega) (by omega) W)
      by_cases ce : (cntErr x y).1 = 0
      · rw [ce] at CC
        have HR := Lib.hid (show Ending.returned (.tuple #[.int .u32 (x : Int), .int .u32 (y : Int), .nilIface]) = Ending.returned (rheadV (headS l)) by rw [HH.out, if_pos ce]; rfl)
        rw [errV_zero] at CC
        have q1 := Lib.hid (show (x : Int) % 4294967296 = x by omega)
        have q2 := Lib.hid (show (y : Int) % 4294967296 = y by omega)
        clear ce b1 b2
        go_enter Tryd.func32, Tryd.ntmps32
        go_wp2_with fail
        refine CM.out.mono ?_
        rintro e w1 ⟨rfl, k1⟩
        go_wp2_with fail
        refine (G1.out _ k1).mono ?_
        rintro e w' ⟨rfl, rfl⟩
        go_wp2_with fail
        refine (G2.out _ k1).mono ?_
        rintro e w' ⟨rfl, rfl⟩
        go_wp2_with fail
        refine (CC.out _).mono ?_
        rintro e w' ⟨rfl, rfl⟩
        have q1 := q1.out
        have q2 := q2.out
        go_wp2_with fail
        exact bodyPost_ret (v := .tuple #[.int .u32 (x : Int), .int .u32 (y : Int), .nilIface]) (by simp [results, Tryd.results32, go_sem]) rfl ⟨HR.out, k1⟩
      · rw [errV_some ce] at CC
        obtain ⟨p, hp⟩ : ∃ p, (cntErr x y).1 = p := ⟨_, rfl⟩
        obtain ⟨q, hq⟩ : ∃ q, (cntErr x y).2 = q := ⟨_, rfl⟩
        rw [hp] at ce CC HH
        rw [hq] at CC HH
        have HR := Lib.hid (show Ending.returned (.tuple #[.int .u32 0, .int .u32 0, .iface 88 (.agg #[.int .i64 p, .int .i64 q])]) = Ending.returned (rheadV (headS l)) by rw [HH.out, if_neg ce]; unfold rheadV; rw [errV_some ce]; rfl)
        clear hp hq ce
        go_enter Tryd.func32, Tryd.ntmps32
        go_wp2_with fail
        refine CM.out.mono ?_
        rintro e w1 ⟨rfl, k1⟩
        go_wp2_with fail
        refine (G1.out _ k1).mono ?_
        rintro e w' ⟨rfl, rfl⟩
        go_wp2_with fail
        refine (G2.out _ k1).mono ?_
        rintro e w' ⟨rfl, rfl⟩
        go_wp2_with fail
        refine (CC.out _).mono ?_
        rintro e w' ⟨rfl, rfl⟩
        go_wp2_with fail
        exact bodyPost_ret (v := .tuple #[.int .u32 0, .int .u32 0, .iface 88 (.agg #[.int .i64 p, .int .i64 q])]) (by simp [results, Tryd.results32, go_sem]) rfl ⟨HR.out, k1⟩

set_option maxHeartbeats 4000000 in
theorem head_any (A : Option Addr) (n c : Nat) (l : List UInt8) (w : World) (hS : Sizes w) (hH : Handle w) (hB : Bs w A l) (hnl : n = l.length) (hc : n ≤ c) (hn : n ≤ 1000000000) :
    Calls Tryd.prog 16 #[.slice A n c] w fun e w' => e = .returned (headV (headS l)) ∧ Keeps w w' := by
  have R := Lib.hid (readHead_any A n c l w hS hB hnl hc hn)
  have T := Lib.hid (fun W (k : Keeps w W) => told_any (headS l).e (headS l).a (headS_e0 l) W (hH.keep k))
  clear hS hH hB hnl
  unfold rheadV at R
  unfold headV
  generalize (headS l).n = x at *
  generalize (headS l).m = y at *
  generalize (headS l).e = p at *
  generalize (headS l).a = q at *
  generalize errV p q = E at *
  go_enter Tryd.func16, Tryd.ntmps16
  go_wp2_with fail
  refine R.out.mono ?_
  rintro e w1 ⟨rfl, k1⟩
  go_wp2_with fail
  refine (T.out _ k1).mono ?_
  rintro e w2 ⟨rfl, k2⟩
  go_wp2_with fail
  exact bodyPost_ret (v := .tuple #[.int .u32 (x : Int), .int .u32 (y : Int), .int .i64 p, .int .i64 q]) (by simp [results, Tryd.results16, go_sem]) rfl ⟨rfl, keeps_trans k1 k2⟩
end Go.Proofs.YtbalejfloieiiaaDoor
