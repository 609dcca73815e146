/- The walks of WeightGroups, WeightTimes, WeightBetter. -/
import Derived.Test.YtihcojpejocklaaLawWeight
import Derived.Test.YtihcojpejocklaaBox
namespace Go.Proofs.Ytihcojpejocklaa
open Go.RowKit
set_option linter.unusedSimpArgs false
set_option linter.unusedVariables false
set_option maxRecDepth 100000

theorem times_walk (K : WeightOk) (n a : Nat) (hn : n < 256) (ha : a < 18446744073709551616) (w : World) :
    Calls Try.prog 8 #[.int .u8 n, .int .u64 a] w (Yes w) := by
  have WW := Lib.hid (fun W => works_weight K W)
  have F1 := Lib.hid (K.fits n a (by omega) ha)
  have KA := Lib.hid K
  clear K
  go_enter Try.func8, Try.ntmps8
  go_wp2_with fail
  go_loopw [5, 6, 7] (fun s t i wr => ∃ k : Nat, k ≤ n ∧ i = .int .i64 k ∧ s = .int .u64 ((bif fitB k a then k * a else 0 : Nat)) ∧ t = .bool (fitB k a) ∧ Keeps w wr) (fun _ _ i _ => n - (intOf i).toNat)
  case atStart => exact ⟨0, Nat.zero_le _, rfl, by simp, by simp [fitB, far], keeps_refl _⟩
  case round =>
    obtain ⟨k, hk, rfl, rfl, rfl, hkp⟩ := hrel
    cases hf : fitB k a with
    | false =>
      have hfn : fitB n a = false := by
        simp only [fitB, decide_eq_false_iff_not, Nat.not_lt] at hf ⊢
        exact Nat.le_trans hf (Nat.mul_le_mul_right _ hk)
      rw [hfn] at F1
      clear hf hfn
      simp only [cond_false]
      by_cases hlt : k < n
      all_goals
        go_wp2_with fail
        refine (F1.out _).mono ?_
        rintro e w1 ⟨rfl, k1⟩
        go_wp2_with fail
        refine (WW.out _).mono ?_
        rintro e w2 ⟨rfl, k2⟩
        go_wp2_with fail
        go_ret
        exact ⟨rfl, keeps_trans hkp (keeps_trans k1 k2)⟩
    | true =>
      simp only [cond_true]
      by_cases hlt : k < n
      · have hS : k * a < 18446744073709551616 := by
          have : k * a < far := by simpa [fitB] using hf
          unfold far at this
          omega
        have A1 := Lib.hid (KA.out.add (k * a) a hS ha)
        have e1 : addB (k * a) a = fitB (k + 1) a := by simp [addB, fitB, Nat.add_mul]
        have e2 : addV (k * a) a = (bif fitB (k + 1) a then (k + 1) * a else 0) := by simp [addV, e1, Nat.add_mul]
        rw [e1, e2] at A1
        clear hf e1 e2 hS
        generalize k * a = S at *
        obtain ⟨S', hS'⟩ : ∃ z, z = (bif fitB (k + 1) a then (k + 1) * a else 0) := ⟨_, rfl⟩
        obtain ⟨T', hT'⟩ : ∃ z, z = fitB (k + 1) a := ⟨_, rfl⟩
        rw [← hS', ← hT'] at A1
        have HS := Lib.hid hS'
        have HT := Lib.hid hT'
        clear hS' hT'
        go_wp2_with fail
        refine (A1.out _).mono ?_
        rintro e w1 ⟨rfl, k1⟩
        go_wp2_with fail
        go_roundw
        case rel => exact ⟨k + 1, by omega, by go_num, by rw [HS.out], by rw [HT.out], keeps_trans hkp k1⟩
        case measure => simp [intOf]; omega
      · obtain rfl : k = n := by omega
        rw [hf] at F1
        clear hf
        go_wp2_with fail
        refine (F1.out _).mono ?_
        rintro e w1 ⟨rfl, k1⟩
        go_wp2_with fail
        refine (WW.out _).mono ?_
        rintro e w2 ⟨rfl, k2⟩
        go_wp2_with fail
        go_ret
        exact ⟨rfl, keeps_trans hkp (keeps_trans k1 k2)⟩

/-- the walk of WeightGroups, whatever the five sums are -/
structure Five (a b c s p q r : Nat) (is one two three : Bool) : Prop where
  a1 : ∀ w, Calls Try.prog 11 #[.int .u64 a, .int .u64 b] w fun e w' => e = .returned (.tuple #[.int .u64 s, .bool is]) ∧ Keeps w w'
  a2 : ∀ w, Calls Try.prog 11 #[.int .u64 b, .int .u64 a] w fun e w' => e = .returned (.tuple #[.int .u64 s, .bool is]) ∧ Keeps w w'
  a3 : ∀ w, Calls Try.prog 11 #[.int .u64 s, .int .u64 c] w fun e w' => e = .returned (.tuple #[.int .u64 p, .bool one]) ∧ Keeps w w'
  a4 : ∀ w, Calls Try.prog 11 #[.int .u64 b, .int .u64 c] w fun e w' => e = .returned (.tuple #[.int .u64 q, .bool two]) ∧ Keeps w w'
  a5 : ∀ w, Calls Try.prog 11 #[.int .u64 a, .int .u64 q] w fun e w' => e = .returned (.tuple #[.int .u64 r, .bool three]) ∧ Keeps w w'
  s1 : is = true → (a : Int) ≤ s ∧ (b : Int) ≤ s ∧ (s : Int) < 9223372036854775808
  s0 : is = false → s = 0
  lr : (is && one) = (two && three)
  pr : (is && one) = true → p = r
set_option maxHeartbeats 4000000 in
theorem groups_core (K : WeightOk) (a b c s p q r : Nat) (is one two three : Bool) (F : Five a b c s p q r is one two three) (w : World) :
    Calls Try.prog 7 #[.int .u64 a, .int .u64 b, .int .u64 c] w (Yes w) := by
  have WW := Lib.hid (fun W => works_weight K W)
  have A1 := Lib.hid F.a1
  have A2 := Lib.hid F.a2
  have A3 := Lib.hid F.a3
  have A4 := Lib.hid F.a4
  have A5 := Lib.hid F.a5
  have h1 := F.s1
  have h0 := F.s0
  have lr := F.lr
  have pr := F.pr
  clear F K
  cases is
  all_goals
    cases one
    all_goals
      cases two
      all_goals
        cases three
        all_goals first
          | (exfalso; revert lr; decide)
          | (clear lr
             try (have hpr : p = r := pr rfl
                  subst hpr)
             clear pr
             try (have hs0 : s = 0 := h0 rfl
                  subst hs0)
             try (obtain ⟨i1, i2, i3⟩ := h1 rfl
                  have i4 : decide ((9223372036854775808 : Int) ≤ (s : Int)) = false := decide_eq_false (by omega)
                  clear i3)
             clear h0 h1
             go_enter Try.func7, Try.ntmps7
             go_wp2_with fail
             refine (A1.out _).mono ?_
             rintro e w1 ⟨rfl, k1⟩
             go_wp2_with fail
             refine (A2.out _).mono ?_
             rintro e w2 ⟨rfl, k2⟩
             go_wp2_with fail
             refine (A3.out _).mono ?_
             rintro e w3 ⟨rfl, k3⟩
             go_wp2_with fail
             refine (A4.out _).mono ?_
             rintro e w4 ⟨rfl, k4⟩
             go_wp2_with fail
             refine (A5.out _).mono ?_
             rintro e w5 ⟨rfl, k5⟩
             go_wp2_with fail
             refine (WW.out _).mono ?_
             rintro e w6 ⟨rfl, k6⟩
             go_wp2_with fail
             go_ret
             exact ⟨rfl, keeps_trans k1 (keeps_trans k2 (keeps_trans k3 (keeps_trans k4 (keeps_trans k5 k6))))⟩)

theorem groups_walk (K : WeightOk) (a b c : Nat) (ha : a < 18446744073709551616) (hb : b < 18446744073709551616) (hc : c < 18446744073709551616) (w : World) :
    Calls Try.prog 7 #[.int .u64 a, .int .u64 b, .int .u64 c] w (Yes w) := by
  have hs := addV_lt a b
  have hq := addV_lt b c
  have hfar : far < 18446744073709551616 := by decide
  refine groups_core K a b c (addV a b) (addV (addV a b) c) (addV b c) (addV a (addV b c)) (addB a b) (addB (addV a b) c) (addB b c) (addB a (addV b c))
    ⟨K.add a b ha hb, ?_, K.add _ c (by omega) hc, K.add b c hb hc, K.add a _ ha (by omega), ?_, addV_false, ?_, ?_⟩ w
  · rw [addV_comm a b, addB_comm a b]
    exact K.add b a hb ha
  · intro h
    rw [addV_true h]
    have h' : a + b < far := by simpa [addB] using h
    unfold far at h'
    omega
  · cases h1 : addB a b <;> cases h2 : addB b c
    · rfl
    · rw [addV_true h2]
      simp only [Bool.false_and, Bool.true_and]
      have h' : ¬ a + b < far := by simpa [addB] using h1
      symm
      simp only [addB, decide_eq_false_iff_not]
      omega
    · rw [addV_true h1]
      simp only [Bool.false_and, Bool.true_and]
      have h' : ¬ b + c < far := by simpa [addB] using h2
      simp only [addB, decide_eq_false_iff_not]
      omega
    · rw [addV_true h1, addV_true h2]
      simp [addB, Nat.add_assoc]
  · intro h
    simp only [Bool.and_eq_true] at h
    obtain ⟨h1, h2⟩ := h
    have e1 := addV_true h1
    have h3 : a + b + c < far := by rw [e1] at h2; simpa [addB] using h2
    have h4 : addB b c = true := by simp only [addB, decide_eq_true_eq]; omega
    have h5 : addB a (addV b c) = true := by rw [addV_true h4]; simp only [addB, decide_eq_true_eq]; omega
    rw [addV_true h2, addV_true h5, addV_true h4, e1, Nat.add_assoc]
end Go.Proofs.Ytihcojpejocklaa
