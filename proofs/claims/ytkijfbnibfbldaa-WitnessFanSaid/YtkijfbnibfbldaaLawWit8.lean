/- Layer 14's statements: WitnessFan. -/
import Derived.Test.YtkijfbnibfbldaaLawWit3
namespace Go.Proofs.Ytkijfbnibfbldaa
open Go.RowKit
set_option linter.unusedSimpArgs false
set_option linter.unusedVariables false
set_option maxRecDepth 100000

/-! ### Very many vertices that are come to at once -/
def fanE (many k : Nat) : List Ed := (List.range k).map fun j => ⟨0, j + 1, many - j, 4294967295⟩
def outFan (many : Nat) : Outs := fun v => if v = 0 then (0, fanE many many) else if v ≤ many then (0, [⟨v, many + 5, 0, 4294967295⟩]) else (0, [])
def avFan (many : Nat) : Nat → Bool := fun v => decide (many < (v + 13) % 4294967296) && decide (v ≤ many)
theorem fanE_len (many k : Nat) : (fanE many k).length = k := by simp [fanE]
theorem fanE_next (many k : Nat) : fanE many (k + 1) = fanE many k ++ [⟨0, k + 1, many - k, 4294967295⟩] := by simp [fanE, List.range_succ]
theorem fanE_mem {many k : Nat} {e : Ed} (h : e ∈ fanE many k) : ∃ j, j < k ∧ e = ⟨0, j + 1, many - j, 4294967295⟩ := by
  unfold fanE at h
  obtain ⟨j, hj, rfl⟩ := List.mem_map.1 h
  exact ⟨j, List.mem_range.1 hj, rfl⟩
theorem fan_is {many most : Nat} (h20 : 20 ≤ many) (h7 : many ≤ 70000) {r : Answ} (h : Ans (outFan many) (avFan many) (many + 5) most [] [(0, 0)] r) : r.2.1 = decide (14 ≤ most) ∧ r.2.2 = 0 := by
  have ho0 : outFan many 0 = (0, fanE many many) := if_pos rfl
  have l0 : LeastW 0 0 [(0, 0)] := ⟨by simp, fun u c hu => by simp at hu; rw [hu.1, hu.2]; exact lessB_irr _⟩
  have hd0 : delM [(0, 0)] 0 = ([] : Wt) := by simp [delM]
  obtain ⟨W1, hW1⟩ : ∃ W1, folW (avFan many) ([] ++ [0]) 0 (outFan many 0).2 (delM [(0, 0)] 0) = W1 := ⟨_, rfl⟩
  have on1 : Onces W1 := by rw [← hW1]; exact folW_onces _ _ _ _ (by rw [hd0]; simp [Onces])
  have mem1 : ∀ u c, (u, c) ∈ W1 → u + 13 ≤ many ∧ c = many + 1 - u ∧ 1 ≤ u := by
    intro u c hu
    rw [← hW1, hd0, ho0] at hu
    rcases folW_mem hu with hu | ⟨e, he, hg, rfl, rfl⟩
    · simp at hu
    · obtain ⟨j, hj, rfl⟩ := fanE_mem he
      unfold goB avFan at hg
      simp only [Bool.and_eq_true, Bool.not_eq_true', Bool.and_eq_false_iff, decide_eq_false_iff_not] at hg
      simp only at *
      have := hg.1.1
      omega
  have in1 : (many - 13, 14) ∈ W1 := by
    have he : (⟨0, many - 14 + 1, many - (many - 14), 4294967295⟩ : Ed) ∈ fanE many many := by
      unfold fanE
      exact List.mem_map.2 ⟨many - 14, List.mem_range.2 (by omega), rfl⟩
    have hg : goB (avFan many) ([] ++ [0]) 0 ⟨0, many - 14 + 1, many - (many - 14), 4294967295⟩ = true := by
      unfold goB avFan addB far
      simp only [Bool.and_eq_true, Bool.not_eq_true', Bool.and_eq_false_iff, decide_eq_false_iff_not, decide_eq_true_eq, List.nil_append, List.mem_singleton]
      omega
    obtain ⟨c', h1, h2⟩ := folW_at (av := avFan many) (W := []) (by simp [Onces]) he hg
    have h3 : (many - 14 + 1, c') ∈ W1 := by rw [← hW1, hd0, ho0]; exact h2
    have := mem1 _ _ h3
    have e1 : many - 13 = many - 14 + 1 := by omega
    have e2 : c' = 14 := by omega
    rw [e2] at h3
    rw [e1]
    exact h3
  have l1 : LeastW (many - 13) 14 W1 := ⟨in1, fun u c hu => by
    have := mem1 u c hu
    rw [lessB_false]
    simp only
    omega⟩
  have step0 : ∀ q, Ans (outFan many) (avFan many) (many + 5) most ([] ++ [0]) W1 q → Ans (outFan many) (avFan many) (many + 5) most [] [(0, 0)] q := fun q hq =>
    .go l0 (Nat.zero_le _) (by simp) (by omega) (by rw [ho0]) (by rw [hW1]; exact hq)
  by_cases hm : most < 14
  · have := h.one (List.Perm.refl _) (by simp [Onces]) (step0 _ (.far l1 (.inl hm)))
    rw [this]
    exact ⟨(decide_eq_false (by omega)).symm, rfl⟩
  · have ho1 : outFan many (many - 13) = (0, [⟨many - 13, many + 5, 0, 4294967295⟩]) := by
      unfold outFan
      rw [if_neg (by omega), if_pos (by omega)]
    obtain ⟨W2, hW2⟩ : ∃ W2, folW (avFan many) (([] ++ [0]) ++ [many - 13]) 14 (outFan many (many - 13)).2 (delM W1 (many - 13)) = W2 := ⟨_, rfl⟩
    have mem2 : ∀ u c, (u, c) ∈ W2 → 15 ≤ c ∨ (u = many + 5 ∧ c = 14) := by
      intro u c hu
      rw [← hW2, ho1] at hu
      rcases folW_mem hu with hu | ⟨e, he, hg, rfl, rfl⟩
      · unfold delM at hu
        obtain ⟨h1, h2⟩ := List.mem_filter.1 hu
        have := mem1 u c h1
        simp only [decide_eq_true_eq, ne_eq] at h2
        left
        omega
      · simp only [List.mem_singleton] at he
        subst he
        exact .inr ⟨rfl, rfl⟩
    have in2 : (many + 5, 14) ∈ W2 := by
      have hg : goB (avFan many) (([] ++ [0]) ++ [many - 13]) 14 ⟨many - 13, many + 5, 0, 4294967295⟩ = true := by
        unfold goB avFan addB far
        simp only [Bool.and_eq_true, Bool.not_eq_true', Bool.and_eq_false_iff, decide_eq_false_iff_not, decide_eq_true_eq, List.nil_append, List.mem_append, List.mem_singleton]
        omega
      obtain ⟨c', h1, h2⟩ := folW_at (av := avFan many) (l := [⟨many - 13, many + 5, 0, 4294967295⟩]) (delM_onces on1 (many - 13)) (by simp) hg
      have h3 : (many + 5, c') ∈ W2 := by rw [← hW2, ho1]; exact h2
      rcases mem2 _ _ h3 with h | ⟨-, rfl⟩
      · simp only at h1; omega
      · exact h3
    have l2 : LeastW (many + 5) 14 W2 := ⟨in2, fun u c hu => by
      rw [lessB_false]
      simp only
      rcases mem2 u c hu with h | ⟨h1, h2⟩ <;> omega⟩
    have := h.one (List.Perm.refl _) (by simp [Onces]) (step0 _ (.go l1 (by omega) (by simp) (by omega) (by rw [ho1]) (by rw [hW2]; exact .yes l2 (by omega) (by simp) rfl)))
    rw [this]
    exact ⟨(decide_eq_true (by omega)).symm, rfl⟩

theorem fan_cells {many j : Nat} (hj : j < many) : edC ⟨0, j + 1, many - j, 4294967295⟩ = [.int .u32 0, .int .u32 ((j : Int) + 1), .int .u64 ((many : Int) - ((j : Int) + 1) + 1), .int .u32 4294967295] := by
  simp only [edC]
  rw [show ((j + 1 : Nat) : Int) = (j : Int) + 1 from by omega, show ((many - j : Nat) : Int) = (many : Int) - ((j : Int) + 1) + 1 from by omega]
  rfl
set_option maxHeartbeats 8000000 in
theorem fanOut_any {w : World} {g many : Nat} (hb : Box w g 51 #[.int .u32 (many : Int), .int .u32 ((many : Int) + 5)]) (h20 : 20 ≤ many) (h7 : many ≤ 70000) (v : Nat) (hv : v < 4294967296) :
    Calls Try.prog 21 #[.pointer (some ⟨g, 0, none⟩), .int .u32 (v : Int)] w fun e w' => ∃ sv, e = .returned (.tuple #[sv, .int .i64 ((outFan many v).1 : Int)]) ∧ Own w' w.heap.size 67 4 sv (outFan many v).2.length (edsC (outFan many v).2) ∧ Keeps w w' := by
  obtain ⟨i0, hi, hz0, hz1, hz2⟩ := info_parts info_edgeW
  have BX := Lib.hid hb
  have c0 : w.cell? ⟨g, 0, none⟩ = some (.int .u32 (many : Int)) := hb.cell 0 rfl
  have c1 : w.cell? ⟨g, 1, none⟩ = some (.int .u32 ((many : Int) + 5)) := hb.cell 1 rfl
  have lg := hb.lt
  have m7 : (many : Int) ≤ 70000 := by omega
  have m1 : (1 : Int) ≤ (many : Int) := by omega
  unfold outFan
  clear hb
  by_cases h0 : v = 0
  · rw [if_pos h0]
    subst h0
    rw [show ((0 : Nat) : Int) = 0 from rfl]
    clear c0 c1 lg h20 m1 hv
    go_enter Try.func21, Try.ntmps21
    go_wp2_with fail
    go_loopw [6, 7] (fun u i wr => ∃ j : Nat, j ≤ many ∧ i = .int .u32 ((j : Int) + 1) ∧ Own wr w.heap.size 67 4 u j (edsC (fanE many j)) ∧ Keeps w wr) (fun _ i _ => many + 1 - (intOf i).toNat)
    case atStart => exact ⟨0, Nat.zero_le _, rfl, Own.nil _ _ _ _, keeps_refl _⟩
    case round =>
      obtain ⟨j, hj, rfl, hO, hkp⟩ := hrel
      have HO := Lib.hid hO
      have HK := Lib.hid hkp
      obtain ⟨Ao, co, rfl, hco, -, -, -⟩ := hO.form
      have c0 : wr.cell? ⟨g, 0, none⟩ = some (.int .u32 (many : Int)) := (BX.out.keep hkp).cell 0 rfl
      have lg := (BX.out.keep hkp).lt
      clear hO hkp
      by_cases hlt : j < many
      · have j1 : (j : Int) + 1 ≤ (many : Int) := by omega
        have HJ := Lib.hid hlt
        clear hj hlt
        have mli : (j : Int) ≤ 70000 := by omega
        have ML' : j ≤ 70000 := by omega
        have AT := Lib.hid (show ∀ W : World, At (W.alloc (.cells #[.int .u32 0, .int .u32 ((j : Int) + 1), .int .u64 ((many : Int) - ((j : Int) + 1) + 1), .int .u32 4294967295] 67)) (W.alloc (.cells #[.int .u32 0, .int .u32 ((j : Int) + 1), .int .u64 ((many : Int) - ((j : Int) + 1) + 1), .int .u32 4294967295] 67)).heap.size (some ⟨W.heap.size, 0, none⟩) [.int .u32 0, .int .u32 ((j : Int) + 1), .int .u64 ((many : Int) - ((j : Int) + 1) + 1), .int .u32 4294967295] from fun W => At.new _ _ _ _ (by simp))
        go_wp2_with (at_builtin; refine wpList_app _ rfl _ _ 22 rfl w.heap.size 67 i0 (.agg #[.int .u32 0, .int .u32 0, .int .u64 0, .int .u32 0]) 4 24 Try.underlying22 hi hz0 hz1 hz2 rfl (by decide) _ j (edsC (fanE many j)) rfl ((HO.out).keep (keeps_alloc _ _)) _ _ 1 1 [.int .u32 0, .int .u32 ((j : Int) + 1), .int .u64 ((many : Int) - ((j : Int) + 1) + 1), .int .u32 4294967295] rfl rfl (AT.out wr) (by intro u hu; simp only [List.mem_cons, List.not_mem_nil, or_false] at hu; rcases hu with rfl | rfl | rfl | rfl <;> rfl) (by unfold maxLen; omega) (by omega) (keeps_trans HK.out (keeps_alloc _ _)).size ?_)
        intro v8 w8 o8 g8 b8
        have kA := keeps_trans HK.out (keeps_alloc wr (.cells #[.int .u32 0, .int .u32 ((j : Int) + 1), .int .u64 ((many : Int) - ((j : Int) + 1) + 1), .int .u32 4294967295] 67))
        have k8 : Keeps w w8 := Below.grown kA g8 kA.size (fun g hg => (HO.out.lt g hg).1)
        have O8 := Lib.hid (show Own w8 w.heap.size 67 4 v8 (j + 1) (edsC (fanE many (j + 1))) by
          rw [fanE_next, edsC_putW, fan_cells HJ.out]
          exact o8)
        clear o8 g8 b8
        go_wp2_with fail
        go_roundw
        case rel => exact ⟨j + 1, HJ.out, by go_num, O8.out, k8⟩
        case measure => have := HJ.out; simp [intOf]; omega
      · obtain rfl : j = many := by omega
        have j1 : ¬ (j : Int) + 1 ≤ (j : Int) := by omega
        have j2 : decide ((j : Int) + 1 ≤ (j : Int)) = false := decide_eq_false (by omega)
        have FL := Lib.hid (fanE_len j j)
        clear hj hlt
        go_wp2_with fail
        go_returns
        refine ⟨_, rfl, ?_, HK.out⟩
        simp only
        rw [FL.out]
        exact HO.out
  · rw [if_neg h0]
    have d0 : ((v : Int) == 0) = false := by simp only [beq_eq_false_iff_ne, ne_eq]; omega
    have d1 : decide ((0 : Int) < (v : Int)) = true := decide_eq_true (by omega)
    have d1n : decide (0 < v) = true := decide_eq_true (by omega)
    by_cases hvm : v ≤ many
    · rw [if_pos hvm]
      have d2 : decide ((v : Int) ≤ (many : Int)) = true := decide_eq_true (by omega)
      have d2n : decide (v ≤ many) = true := decide_eq_true hvm
      have AT := Lib.hid (show ∀ W : World, At (W.alloc (.cells #[.int .u32 (v : Int), .int .u32 ((many : Int) + 5), .int .u64 0, .int .u32 4294967295] 67)) (W.alloc (.cells #[.int .u32 (v : Int), .int .u32 ((many : Int) + 5), .int .u64 0, .int .u32 4294967295] 67)).heap.size (some ⟨W.heap.size, 0, none⟩) [.int .u32 (v : Int), .int .u32 ((many : Int) + 5), .int .u64 0, .int .u32 4294967295] from fun W => At.new _ _ _ _ (by simp))
      clear h0 hvm hv h20
      go_enter Try.func21, Try.ntmps21
      go_wp2_with fail
      go_loopw [6, 7] (fun u i wr => u = .slice none 0 0 ∧ i = .int .u32 1 ∧ Keeps w wr) (fun _ _ _ => 0)
      case atStart => exact ⟨rfl, rfl, keeps_refl _⟩
      case round =>
        obtain ⟨rfl, rfl, hks⟩ := hrel
        have KS := Lib.hid hks
        have c0 : wr.cell? ⟨g, 0, none⟩ = some (.int .u32 (many : Int)) := (BX.out.keep hks).cell 0 rfl
        have c1 : wr.cell? ⟨g, 1, none⟩ = some (.int .u32 ((many : Int) + 5)) := (BX.out.keep hks).cell 1 rfl
        have lg := (BX.out.keep hks).lt
        clear hks
        go_wp2_with (at_builtin; refine wpList_app _ rfl _ _ 22 rfl w.heap.size 67 i0 (.agg #[.int .u32 0, .int .u32 0, .int .u64 0, .int .u32 0]) 4 24 Try.underlying22 hi hz0 hz1 hz2 rfl (by decide) _ 0 [] rfl (Own.nil _ _ _ _) _ _ 1 1 [.int .u32 (v : Int), .int .u32 ((many : Int) + 5), .int .u64 0, .int .u32 4294967295] rfl rfl (AT.out wr) (by intro u hu; simp only [List.mem_cons, List.not_mem_nil, or_false] at hu; rcases hu with rfl | rfl | rfl | rfl <;> rfl) (by unfold maxLen; omega) (by omega) (keeps_trans KS.out (keeps_alloc _ _)).size ?_)
        intro v8 w8 o8 g8 b8
        have kA := keeps_trans KS.out (keeps_alloc wr (.cells #[.int .u32 (v : Int), .int .u32 ((many : Int) + 5), .int .u64 0, .int .u32 4294967295] 67))
        have k8 : Keeps w w8 := Below.grown kA g8 kA.size (fun g hg => by cases hg)
        have O8 := Lib.hid (show Own w8 w.heap.size 67 4 v8 1 [.int .u32 (v : Int), .int .u32 ((many : Int) + 5), .int .u64 0, .int .u32 4294967295] from by simpa using o8)
        clear o8 g8 b8
        go_wp2_with fail
        go_returns
        exact ⟨_, rfl, O8.out, k8⟩
    · rw [if_neg hvm]
      have d2 : decide ((v : Int) ≤ (many : Int)) = false := decide_eq_false (by omega)
      have d2n : decide (v ≤ many) = false := decide_eq_false hvm
      clear h0 hvm hv h20
      go_enter Try.func21, Try.ntmps21
      go_wp2_with fail
      go_loopw [6, 7] (fun u i wr => u = .slice none 0 0 ∧ i = .int .u32 1 ∧ Keeps w wr) (fun _ _ _ => 0)
      case atStart => exact ⟨rfl, rfl, keeps_refl _⟩
      case round =>
        obtain ⟨rfl, rfl, hks⟩ := hrel
        have KS := Lib.hid hks
        have c0 : wr.cell? ⟨g, 0, none⟩ = some (.int .u32 (many : Int)) := (BX.out.keep hks).cell 0 rfl
        have lg := (BX.out.keep hks).lt
        clear hks
        go_wp2_with fail
        go_returns
        exact ⟨_, rfl, Own.nil _ _ _ _, KS.out⟩
set_option maxHeartbeats 4000000 in
theorem fanAvoid_any {w : World} {g many : Nat} {b : Value} (hb : Box w g 51 #[.int .u32 (many : Int), b]) (v : Nat) (hv : v < 4294967296) :
    Calls Try.prog 22 #[.pointer (some ⟨g, 0, none⟩), .int .u32 (v : Int)] w fun e w' => e = .returned (.bool (avFan many v)) ∧ Keeps w w' := by
  have c0 : w.cell? ⟨g, 0, none⟩ = some (.int .u32 (many : Int)) := hb.cell 0 rfl
  have lg := hb.lt
  unfold avFan
  obtain ⟨x, hx⟩ : ∃ x, (v + 13) % 4294967296 = x := ⟨_, rfl⟩
  have hwx : IntKind.u32.wrap ((v : Int) + 13) = (x : Int) := by rw [IntKind.wrap_u32]; omega
  rw [hx]
  clear hb hx hv
  by_cases h1 : many < x
  · have d1 : decide ((many : Int) < (x : Int)) = true := decide_eq_true (by omega)
    have d1n : decide (many < x) = true := decide_eq_true h1
    by_cases h2 : v ≤ many
    · have d2 : decide ((v : Int) ≤ (many : Int)) = true := decide_eq_true (by omega)
      have d2n : decide (v ≤ many) = true := decide_eq_true h2
      have e0 : (decide (many < x) && decide (v ≤ many)) = true := by rw [d1n, d2n]; rfl
      rw [e0]
      clear h1 h2 e0
      go_enter Try.func22, Try.ntmps22
      go_wp2_with fail
      go_ret
      exact ⟨rfl, keeps_refl _⟩
    · have d2 : decide ((v : Int) ≤ (many : Int)) = false := decide_eq_false (by omega)
      have d2n : decide (v ≤ many) = false := decide_eq_false h2
      have e0 : (decide (many < x) && decide (v ≤ many)) = false := by rw [d1n, d2n]; rfl
      rw [e0]
      clear h1 h2 e0
      go_enter Try.func22, Try.ntmps22
      go_wp2_with fail
      go_ret
      exact ⟨rfl, keeps_refl _⟩
  · have d1 : decide ((many : Int) < (x : Int)) = false := decide_eq_false (by omega)
    have d1n : decide (many < x) = false := decide_eq_false h1
    have e0 : (decide (many < x) && decide (v ≤ many)) = false := by rw [d1n]; rfl
    rw [e0]
    clear h1 e0
    go_enter Try.func22, Try.ntmps22
    go_wp2_with fail
    go_ret
    exact ⟨rfl, keeps_refl _⟩
theorem outFan_ok {many : Nat} (h7 : many ≤ 70000) (v : Nat) (hv : v < 4294967296) : (outFan many v).2.length ≤ 1000000 ∧ ∀ e ∈ (outFan many v).2, EdOk e := by
  unfold outFan
  split
  · refine ⟨by simp only; rw [fanE_len]; omega, fun e he => ?_⟩
    obtain ⟨j, hj, rfl⟩ := fanE_mem he
    exact ⟨by simp only; omega, by simp only; omega, by simp only; omega, (by decide : (4294967295 : Nat) < 4294967296)⟩
  · split
    · refine ⟨by simp, fun e he => ?_⟩
      simp only [List.mem_singleton] at he
      subst he
      exact ⟨hv, by simp only; omega, (by decide : (0 : Nat) < 18446744073709551616), (by decide : (4294967295 : Nat) < 4294967296)⟩
    · simp
set_option maxHeartbeats 8000000 in
theorem fan14_walk (K : HeapOk) (w : World) (many : Nat) (hmany : many < 4294967296) (most : Nat) (hm : most < 18446744073709551616) : Calls Try.prog 6 #[.int .u32 (many : Int), .int .u64 (most : Int)] w (Yes w) := by
  have WK := Lib.hid (works14 K)
  have m32 : (many : Int) < 4294967296 := by omega
  have m0 : (0 : Int) ≤ (many : Int) := by omega
  by_cases h1 : many < 20
  · have d1 : decide ((many : Int) < 20) = true := decide_eq_true (by omega)
    have d1n : decide (many < 20) = true := decide_eq_true h1
    clear h1 hmany
    go_enter Try.func6, Try.ntmps6
    go_wp2_with fail
    refine (WK.out _).mono ?_
    rintro e w2 ⟨rfl, k2⟩
    go_wp2_with fail
    go_ret
    exact ⟨rfl, k2⟩
  · have d1 : decide ((many : Int) < 20) = false := decide_eq_false (by omega)
    have d1n : decide (many < 20) = false := decide_eq_false h1
    by_cases h2 : 70000 < many
    · have d2 : decide ((70000 : Int) < (many : Int)) = true := decide_eq_true (by omega)
      clear h1 h2 hmany
      go_enter Try.func6, Try.ntmps6
      go_wp2_with fail
      refine (WK.out _).mono ?_
      rintro e w2 ⟨rfl, k2⟩
      go_wp2_with fail
      go_ret
      exact ⟨rfl, k2⟩
    · have d2 : decide ((70000 : Int) < (many : Int)) = false := decide_eq_false (by omega)
      have m7 : (many : Int) ≤ 70000 := by omega
      have kb := keeps_alloc w (.cells #[.int .u32 (many : Int), .int .u32 ((many : Int) + 5)] 51)
      have B0 := Box.new w 51 #[.int .u32 (many : Int), .int .u32 ((many : Int) + 5)]
      obtain ⟨xb, hxb⟩ : ∃ xb, decide (14 ≤ most) = xb := ⟨_, rfl⟩
      have FN := Lib.hid (show Calls Try.prog 13 #[.func (.func 21) #[.pointer (some ⟨w.heap.size, 0, none⟩)] #[], .func (.func 22) #[.pointer (some ⟨w.heap.size, 0, none⟩)] #[], .int .u32 0, .int .u32 ((many : Int) + 5), .int .u64 (most : Int)] (w.alloc (.cells #[.int .u32 (many : Int), .int .u32 ((many : Int) + 5)] 51)) (fun e w' => e = .returned (.tuple #[.bool xb, .int .i64 0]) ∧ Keeps (w.alloc (.cells #[.int .u32 (many : Int), .int .u32 ((many : Int) + 5)] 51)) w') from
        Calls.mono (keepFind K (o := outFan many) (av := avFan many) _ _ _ _ _ (enters_of Try.func21 rfl rfl) (enters_of Try.func22 rfl rfl) (fun w' v k hv => fanOut_any (B0.keep k) (by omega) (by omega) v hv) (fun w' v k hv => fanAvoid_any (B0.keep k) v hv) (fun v hv => outFan_ok (by omega) v hv) 0 (many + 5) most (by decide) (by omega) hm) (by
          rintro e w' ⟨r, rfl, hA, k⟩
          obtain ⟨r1, r2⟩ := fan_is (by omega) (by omega) hA
          rw [r1, r2, hxb]
          exact ⟨rfl, k⟩))
      have d3 : decide ((14 : Int) ≤ (most : Int)) = xb := by rw [← hxb]; by_cases h : 14 ≤ most <;> simp [h] <;> omega
      have KB := Lib.hid kb
      clear h1 h2 hmany B0 kb hxb hm
      go_enter Try.func6, Try.ntmps6
      go_wp2_with fail
      refine FN.out.mono ?_
      rintro e w2 ⟨rfl, k2⟩
      cases xb
      all_goals
        go_wp2_with fail
        refine (WK.out _).mono ?_
        rintro e w3 ⟨rfl, k3⟩
        go_wp2_with fail
        go_ret
        exact ⟨rfl, keeps_trans KB.out (keeps_trans k2 k3)⟩
end Go.Proofs.Ytkijfbnibfbldaa
