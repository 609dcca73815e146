/- Layer 14's statements: WitnessNil, WitnessMore. -/
import Derived.Test.YtkijfbnibfbldaaWitX
import Derived.Test.YtkijfbnibfbldaaOpenNet14
import Derived.Test.YtkijfbnibfbldaaOpenAsk
namespace Go.Proofs.Ytkijfbnibfbldaa
open Go.RowKit
set_option linter.unusedSimpArgs false
set_option linter.unusedVariables false
set_option maxRecDepth 100000

def largeN (x : WNet) : Bool := decide (300 < x.E.length) || decide (50 < x.B.length) || decide (50 < x.Z.length)
theorem largeN_false {x : WNet} (h : largeN x = false) : x.E.length ≤ 300 ∧ x.B.length ≤ 50 ∧ x.Z.length ≤ 50 := by
  unfold largeN at h
  simp only [Bool.or_eq_false_iff, decide_eq_false_iff_not] at h
  omega
set_option maxHeartbeats 4000000 in
theorem large_any (x : WNet) (w : World) : Calls Try.prog 11 #[.agg x.cells] w fun e w' => e = .returned (.bool (largeN x)) ∧ Keeps w w' := by
  unfold largeN
  obtain ⟨Ae, ce, Ab, cb, As, cs, E, B, Z⟩ := x
  simp only [WNet.cells]
  obtain ⟨n, hn⟩ : ∃ n, E.length = n := ⟨_, rfl⟩
  obtain ⟨m, hm⟩ : ∃ n, B.length = n := ⟨_, rfl⟩
  obtain ⟨z, hz⟩ : ∃ n, Z.length = n := ⟨_, rfl⟩
  rw [hn, hm, hz]
  clear hn hm hz
  have BX := Box.new w 25 #[.slice Ae n ce, .slice Ab m cb, .slice As z cs]
  have k0 := Lib.hid (keeps_alloc w (.cells #[.slice Ae n ce, .slice Ab m cb, .slice As z cs] 25))
  have c0 := BX.cell 0 rfl
  have c1 := BX.cell 1 rfl
  have c2 := BX.cell 2 rfl
  have lb := BX.lt
  clear BX
  by_cases h1 : 300 < n
  · have d1 : decide ((300 : Int) < (n : Int)) = true := decide_eq_true (by omega)
    have e1 : (decide (300 < n) || decide (50 < m) || decide (50 < z)) = true := by simp [h1]
    rw [e1]
    clear e1
    go_enter Try.func11, Try.ntmps11
    go_wp2_with fail
    go_ret
    exact ⟨rfl, k0.out⟩
  · have d1 : decide ((300 : Int) < (n : Int)) = false := decide_eq_false (by omega)
    by_cases h2 : 50 < m
    · have d2 : decide ((50 : Int) < (m : Int)) = true := decide_eq_true (by omega)
      have e1 : (decide (300 < n) || decide (50 < m) || decide (50 < z)) = true := by simp [h2]
      rw [e1]
      clear e1 h1 h2
      go_enter Try.func11, Try.ntmps11
      go_wp2_with fail
      go_ret
      exact ⟨rfl, k0.out⟩
    · have d2 : decide ((50 : Int) < (m : Int)) = false := decide_eq_false (by omega)
      by_cases h3 : 50 < z
      · have d3 : decide ((50 : Int) < (z : Int)) = true := decide_eq_true (by omega)
        have e1 : (decide (300 < n) || decide (50 < m) || decide (50 < z)) = true := by simp [h3]
        rw [e1]
        clear e1 h1 h2 h3
        go_enter Try.func11, Try.ntmps11
        go_wp2_with fail
        go_ret
        exact ⟨rfl, k0.out⟩
      · have d3 : decide ((50 : Int) < (z : Int)) = false := decide_eq_false (by omega)
        have e1 : (decide (300 < n) || decide (50 < m) || decide (50 < z)) = false := by simp [h1, h2, h3]
        rw [e1]
        clear e1 h1 h2 h3
        go_enter Try.func11, Try.ntmps11
        go_wp2_with fail
        go_ret
        exact ⟨rfl, k0.out⟩
set_option maxHeartbeats 1000000 in
theorem findNil1 (g : Nat) (a b c : Int) (w : World) : Calls Try.prog 13 #[.nilFunc, .func (.func 15) #[.pointer (some ⟨g, 0, none⟩)] #[], .int .u32 a, .int .u32 b, .int .u64 c] w fun e w' => e = .returned (.tuple #[.bool false, .int .i64 2]) ∧ Keeps w w' := by
  have q1 := (eql_out w).2
  go_enter Try.func13, Try.ntmps13
  go_wp2_with fail
  go_returns
  exact ⟨rfl, keeps_refl _⟩
set_option maxHeartbeats 1000000 in
theorem findNil2 (g : Nat) (a b c : Int) (w : World) : Calls Try.prog 13 #[.func (.func 17) #[.pointer (some ⟨g, 0, none⟩)] #[], .nilFunc, .int .u32 a, .int .u32 b, .int .u64 c] w fun e w' => e = .returned (.tuple #[.bool false, .int .i64 2]) ∧ Keeps w w' := by
  have q1 := (eql_out w).1 (.func 17) #[.pointer (some ⟨g, 0, none⟩)] #[]
  have q2 := (eql_avo w).2
  go_enter Try.func13, Try.ntmps13
  go_wp2_with fail
  go_returns
  exact ⟨rfl, keeps_refl _⟩
/-- both arguments, boxed -/
theorem boxes14 (w : World) (x : WNet) (fr to most : Nat) {W1 W2 : World} (h1 : W1 = w.alloc (.cells x.cells 25)) (h2 : W2 = W1.alloc (.cells #[.int .u32 (fr : Int), .int .u32 (to : Int), .int .u64 (most : Int)] 29)) :
    Box W2 w.heap.size 25 x.cells ∧ Box W2 (w.heap.size + 1) 29 #[.int .u32 (fr : Int), .int .u32 (to : Int), .int .u64 (most : Int)] ∧ Keeps w W2 := by
  subst h1
  subst h2
  have k0 := keeps_alloc w (.cells x.cells 25)
  have k1 := keeps_alloc (w.alloc (.cells x.cells 25)) (.cells #[.int .u32 (fr : Int), .int .u32 (to : Int), .int .u64 (most : Int)] 29)
  have BA := Box.new (w.alloc (.cells x.cells 25)) 29 #[.int .u32 (fr : Int), .int .u32 (to : Int), .int .u64 (most : Int)]
  rw [World.size_alloc] at BA
  exact ⟨(Box.new w 25 x.cells).keep k1, BA, keeps_trans k0 k1⟩
/-- the ask's cells, whatever stays -/
theorem ask_cells {W : World} {g : Nat} {a b c : Value} (h : Box W g 29 #[a, b, c]) : ∀ V, Keeps W V → V.cell? ⟨g, 0, none⟩ = some a ∧ V.cell? ⟨g, 1, none⟩ = some b ∧ V.cell? ⟨g, 2, none⟩ = some c ∧ g < V.heap.size :=
  fun V k => ⟨(h.keep k).cell 0 rfl, (h.keep k).cell 1 rfl, (h.keep k).cell 2 rfl, (h.keep k).lt⟩
set_option maxHeartbeats 4000000 in
theorem nil14_walk (K : HeapOk) (w : World) (x : WNet) (hx : WNetOk w x) (y : AskS) (hy : AskOk y) : Calls Try.prog 7 #[.agg x.cells, .agg #[.int .u32 (y.fr : Int), .int .u32 (y.to : Int), .int .u64 (y.most : Int)]] w (Yes w) := by
  have WK := Lib.hid (works14 K)
  have F1 := Lib.hid findNil1
  have F2 := Lib.hid findNil2
  obtain ⟨fr, to, most⟩ := y
  simp only
  obtain ⟨W1, h1⟩ : ∃ W, W = w.alloc (.cells x.cells 25) := ⟨_, rfl⟩
  obtain ⟨W2, h2⟩ : ∃ W, W = W1.alloc (.cells #[.int .u32 (fr : Int), .int .u32 (to : Int), .int .u64 (most : Int)] 29) := ⟨_, rfl⟩
  obtain ⟨BN, BA, k2⟩ := boxes14 w x fr to most h1 h2
  have AC := Lib.hid (ask_cells BA)
  have K2 := Lib.hid k2
  have HEQ := Lib.hid (show W2 = (w.alloc (.cells x.cells 25)).alloc (.cells #[.int .u32 (fr : Int), .int .u32 (to : Int), .int .u64 (most : Int)] 29) by rw [h2, h1])
  unfold WNet.cells at HEQ ⊢
  clear hx hy h1 h2 BN BA k2
  obtain ⟨a0, a1, a2, la⟩ := AC.out _ (keeps_refl _)
  rw [HEQ.out] at a0 a1 a2 la
  go_enter Try.func7, Try.ntmps7
  go_wp2_with fail
  rw [← HEQ.out] at a0 a1 a2 la ⊢
  refine (F1.out _ _ _ _ _).mono ?_
  rintro e w3 ⟨rfl, k3⟩
  have K3 := Lib.hid k3
  clear a0 a1 a2 la k3
  obtain ⟨a0, a1, a2, la⟩ := AC.out _ K3.out
  go_wp2_with fail
  refine (F2.out _ _ _ _ _).mono ?_
  rintro e w4 ⟨rfl, k4⟩
  have K4 := Lib.hid (keeps_trans K3.out k4)
  clear a0 a1 a2 la k4
  go_wp2_with fail
  refine (WK.out _).mono ?_
  rintro e w5 ⟨rfl, k5⟩
  go_wp2_with fail
  go_ret
  exact ⟨rfl, keeps_trans K2.out (keeps_trans K4.out k5)⟩
end Go.Proofs.Ytkijfbnibfbldaa
