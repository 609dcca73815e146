/- Layer 14's statements: WitnessForks. -/
import Derived.Test.YtkijfbnibfbldaaLawWit3
import Derived.Test.YtkijfbnibfbldaaRefWeight
import Derived.Test.YtkijfbnibfbldaaOpenFork
namespace Go.Proofs.Ytkijfbnibfbldaa
open Go.RowKit
set_option linter.unusedSimpArgs false
set_option linter.unusedVariables false
set_option maxRecDepth 100000

def outF (y : ForkS) : Outs := fun v => if v = 0 then (0, [⟨0, 1, y.a, 0⟩, ⟨0, 2, y.c, 0⟩, ⟨0, 3, y.e, 0⟩]) else if v = 1 then (0, [⟨1, 3, y.b, 0⟩]) else if v = 2 then (0, [⟨2, 3, y.d, 0⟩]) else (0, [])
def forkA (y : ForkS) : Array Value := #[.int .u64 (y.a : Int), .int .u64 (y.b : Int), .int .u64 (y.c : Int), .int .u64 (y.d : Int), .int .u64 (y.e : Int)]
theorem edK (t h x : Nat) (h1 : t < 4294967296) (h2 : h < 4294967296) (h3 : x < 18446744073709551616) : EdOk ⟨t, h, x, 0⟩ := ⟨h1, h2, h3, (by decide : (0 : Nat) < 4294967296)⟩
theorem outF_ok {y : ForkS} (hy : ForkOk y) (v : Nat) : (outF y v).2.length ≤ 1000000 ∧ ∀ e ∈ (outF y v).2, EdOk e := by
  unfold outF
  split
  · refine ⟨by simp, fun e he => ?_⟩
    simp only [List.mem_cons, List.not_mem_nil, or_false] at he
    rcases he with rfl | rfl | rfl
    · exact edK _ _ _ (by decide) (by decide) hy.a
    · exact edK _ _ _ (by decide) (by decide) hy.c
    · exact edK _ _ _ (by decide) (by decide) hy.e
  · split
    · refine ⟨by simp, fun e he => ?_⟩
      simp only [List.mem_singleton] at he
      subst he
      exact edK _ _ _ (by decide) (by decide) hy.b
    · split
      · refine ⟨by simp, fun e he => ?_⟩
        simp only [List.mem_singleton] at he
        subst he
        exact edK _ _ _ (by decide) (by decide) hy.d
      · simp
/-! what ways there are -/
theorem fork_way {y : ForkS} {v d : Nat} (h : Way (outF y) (fun _ => false) 0 v d) :
    (v = 0 ∧ d = 0) ∨ (v = 1 ∧ d = y.a ∧ addB 0 y.a = true) ∨ (v = 2 ∧ d = y.c ∧ addB 0 y.c = true) ∨
    (v = 3 ∧ ((d = y.e ∧ addB 0 y.e = true) ∨ (d = y.a + y.b ∧ addB y.a y.b = true) ∨ (d = y.c + y.d ∧ addB y.c y.d = true))) := by
  induction h with
  | start => exact .inl ⟨rfl, rfl⟩
  | @step u c e w he ha hx ih =>
    rcases ih with ⟨rfl, rfl⟩ | ⟨rfl, rfl, h1⟩ | ⟨rfl, rfl, h1⟩ | ⟨rfl, h1⟩
    · simp only [outF, if_true, List.mem_cons, List.not_mem_nil, or_false] at he
      rcases he with rfl | rfl | rfl
      · exact .inr (.inl ⟨rfl, by simp, hx⟩)
      · exact .inr (.inr (.inl ⟨rfl, by simp, hx⟩))
      · exact .inr (.inr (.inr ⟨rfl, .inl ⟨by simp, hx⟩⟩))
    · simp only [outF, Nat.one_ne_zero, if_false, if_true, List.mem_singleton] at he
      subst he
      exact .inr (.inr (.inr ⟨rfl, .inr (.inl ⟨rfl, hx⟩)⟩))
    · have : outF y 2 = (0, [⟨2, 3, y.d, 0⟩]) := rfl
      rw [this] at he
      simp only [List.mem_singleton] at he
      subst he
      exact .inr (.inr (.inr ⟨rfl, .inr (.inr ⟨rfl, hx⟩)⟩))
    · have : outF y 3 = (0, []) := rfl
      rw [this] at he
      simp at he
def forkB (y : ForkS) (most : Nat) : Bool := (decide (y.e < far) && decide (y.e ≤ most)) || (addB y.a y.b && decide (y.a + y.b ≤ most)) || (addB y.c y.d && decide (y.c + y.d ≤ most))
theorem fork_is {y : ForkS} {most : Nat} {r : Answ} (h : Ans (outF y) (fun _ => false) 3 most [] [(0, 0)] r) : r.2.1 = forkB y most ∧ r.2.2 = 0 := by
  have hE := h.ends (fr := 0) (SD := []) rfl (by simp) (Dij.start _ _ _)
  have hz : r.2.2 = 0 := by
    rcases hE with ⟨h1, h2, v, hv⟩ | ⟨h1, _⟩ | ⟨h1, _⟩
    · exfalso
      apply h1
      rw [← hv]
      unfold outF
      split
      · rfl
      · split
        · rfl
        · split <;> rfl
    · exact h1
    · exact h1
  refine ⟨?_, hz⟩
  have w1 : addB 0 y.a = true → Way (outF y) (fun _ => false) 0 1 y.a := fun h => by
    have := Way.step (o := outF y) (av := fun _ => false) (fr := 0) (e := ⟨0, 1, y.a, 0⟩) .start (by simp [outF]) rfl h
    simpa using this
  have w2 : addB 0 y.c = true → Way (outF y) (fun _ => false) 0 2 y.c := fun h => by
    have := Way.step (o := outF y) (av := fun _ => false) (fr := 0) (e := ⟨0, 2, y.c, 0⟩) .start (by simp [outF]) rfl h
    simpa using this
  have w3 : y.e < far → Way (outF y) (fun _ => false) 0 3 y.e := fun h => by
    have := Way.step (o := outF y) (av := fun _ => false) (fr := 0) (e := ⟨0, 3, y.e, 0⟩) .start (by simp [outF]) rfl (by simpa [addB] using h)
    simpa using this
  have l1 : addB y.a y.b = true → addB 0 y.a = true := by unfold addB; simp only [decide_eq_true_eq]; omega
  have l2 : addB y.c y.d = true → addB 0 y.c = true := by unfold addB; simp only [decide_eq_true_eq]; omega
  have w4 : addB y.a y.b = true → Way (outF y) (fun _ => false) 0 3 (y.a + y.b) := fun h =>
    Way.step (o := outF y) (av := fun _ => false) (fr := 0) (e := ⟨1, 3, y.b, 0⟩) (w1 (l1 h)) (by simp [outF]) rfl h
  have w5 : addB y.c y.d = true → Way (outF y) (fun _ => false) 0 3 (y.c + y.d) := fun h =>
    Way.step (o := outF y) (av := fun _ => false) (fr := 0) (e := ⟨2, 3, y.d, 0⟩) (w2 (l2 h)) (by simp [outF]) rfl h
  cases hb : r.2.1 with
  | true =>
    obtain ⟨-, SD, d, hc, hp, hd, -⟩ := hE.yes hb
    have hw := hp.way hc
    symm
    unfold forkB
    simp only [Bool.or_eq_true, Bool.and_eq_true, decide_eq_true_eq]
    rcases fork_way hw with ⟨h1, -⟩ | ⟨h1, -⟩ | ⟨h1, -⟩ | ⟨-, ⟨rfl, h1⟩ | ⟨rfl, h1⟩ | ⟨rfl, h1⟩⟩
    · cases h1
    · cases h1
    · cases h1
    · exact .inl (.inl ⟨by simpa [addB] using h1, hd⟩)
    · exact .inl (.inr ⟨h1, hd⟩)
    · exact .inr ⟨h1, hd⟩
  | false =>
    have hno := hE.no (all := [0, 1, 2, 3]) hb hz (fun v d hw => by
      rcases fork_way hw with ⟨rfl, -⟩ | ⟨rfl, -⟩ | ⟨rfl, -⟩ | ⟨rfl, -⟩ <;> simp) (by decide)
    symm
    rw [Bool.eq_false_iff]
    intro hf
    unfold forkB at hf
    simp only [Bool.or_eq_true, Bool.and_eq_true, decide_eq_true_eq] at hf
    rcases hf with (⟨h1, h2⟩ | ⟨h1, h2⟩) | ⟨h1, h2⟩
    · have := hno _ (w3 h1); omega
    · have := hno _ (w4 h1); omega
    · have := hno _ (w5 h1); omega

set_option maxHeartbeats 4000000 in
theorem forkOut_any {w : World} {g : Nat} {y : ForkS} (hb : Box w g 62 (forkA y)) (v : Nat) (hv : v < 4294967296) :
    Calls Try.prog 26 #[.pointer (some ⟨g, 0, none⟩), .int .u32 (v : Int)] w fun e w' => ∃ sv, e = .returned (.tuple #[sv, .int .i64 ((outF y v).1 : Int)]) ∧ Own w' w.heap.size 67 4 sv (outF y v).2.length (edsC (outF y v).2) ∧ Keeps w w' := by
  have c0 : w.cell? ⟨g, 0, none⟩ = some (.int .u64 (y.a : Int)) := hb.cell 0 rfl
  have c1 : w.cell? ⟨g, 1, none⟩ = some (.int .u64 (y.b : Int)) := hb.cell 1 rfl
  have c2 : w.cell? ⟨g, 2, none⟩ = some (.int .u64 (y.c : Int)) := hb.cell 2 rfl
  have c3 : w.cell? ⟨g, 3, none⟩ = some (.int .u64 (y.d : Int)) := hb.cell 3 rfl
  have c4 : w.cell? ⟨g, 4, none⟩ = some (.int .u64 (y.e : Int)) := hb.cell 4 rfl
  have lg := hb.lt
  clear hb
  obtain ⟨a, b, c, d, e⟩ := y
  simp only at c0 c1 c2 c3 c4
  unfold outF
  by_cases h0 : v = 0
  · rw [if_pos h0]
    subst h0
    have ON := Lib.hid (own_newW w.drew 67 4 3 (edsC [⟨0, 1, a, 0⟩, ⟨0, 2, c, 0⟩, ⟨0, 3, e, 0⟩]) rfl (by decide))
    have KN := Lib.hid (keeps_trans (keeps_drew w) (keeps_alloc w.drew (.cells (edsC [⟨0, 1, a, 0⟩, ⟨0, 2, c, 0⟩, ⟨0, 3, e, 0⟩]).toArray 67)))
    rw [show ((0 : Nat) : Int) = 0 from rfl]
    go_enter Try.func26, Try.ntmps26
    go_wp2_with fail
    go_region
    all_goals
      go_wp2_with fail
      go_returns
      exact ⟨_, rfl, ON.out, KN.out⟩
  · rw [if_neg h0]
    have d0 : ((v : Int) == 0) = false := by simp only [beq_eq_false_iff_ne, ne_eq]; omega
    by_cases h1 : v = 1
    · rw [if_pos h1]
      subst h1
      have ON := Lib.hid (own_newW w 67 4 1 (edsC [⟨1, 3, b, 0⟩]) rfl (by decide))
      have KN := Lib.hid (keeps_alloc w (.cells (edsC [⟨1, 3, b, 0⟩]).toArray 67))
      rw [show ((1 : Nat) : Int) = 1 from rfl] at d0 ⊢
      clear h0
      go_enter Try.func26, Try.ntmps26
      go_wp2_with fail
      go_returns
      exact ⟨_, rfl, ON.out, KN.out⟩
    · rw [if_neg h1]
      have d1 : ((v : Int) == 1) = false := by simp only [beq_eq_false_iff_ne, ne_eq]; omega
      by_cases h2 : v = 2
      · rw [if_pos h2]
        subst h2
        have ON := Lib.hid (own_newW w 67 4 1 (edsC [⟨2, 3, d, 0⟩]) rfl (by decide))
        have KN := Lib.hid (keeps_alloc w (.cells (edsC [⟨2, 3, d, 0⟩]).toArray 67))
        rw [show ((2 : Nat) : Int) = 2 from rfl] at d0 d1 ⊢
        clear h0 h1
        go_enter Try.func26, Try.ntmps26
        go_wp2_with fail
        go_returns
        exact ⟨_, rfl, ON.out, KN.out⟩
      · rw [if_neg h2]
        have d2 : ((v : Int) == 2) = false := by simp only [beq_eq_false_iff_ne, ne_eq]; omega
        clear h0 h1 h2
        go_enter Try.func26, Try.ntmps26
        go_wp2_with fail
        go_returns
        exact ⟨_, rfl, Own.nil _ _ _ _, keeps_refl _⟩
set_option maxHeartbeats 1000000 in
theorem forkShun_any (g : Value) (v : Int) (w : World) : Calls Try.prog 27 #[g, .int .u32 v] w fun e w' => e = .returned (.bool false) ∧ Keeps w w' := by
  go_enter Try.func27, Try.ntmps27
  go_wp2_with fail
  go_ret
  exact ⟨rfl, keeps_refl _⟩
end Go.Proofs.Ytkijfbnibfbldaa
