/- The walk of OctetHalves. -/
import Derived.Test.YtbbkkbfpojndmaaDoorLawGets
namespace Go.Proofs.YtbbkkbfpojndmaaDoor
open Go.RowKit
set_option linter.unusedSimpArgs false
set_option linter.unusedVariables false

theorem numAt_half (l : List UInt8) (p h : Nat) (hp : p + 2 * h ≤ l.length) : numAt l p (2 * h) = numAt l p h + 256 ^ h * numAt l (p + h) h := by
  unfold numAt
  have e : (l.drop p).take (2 * h) = (l.drop p).take h ++ (l.drop (p + h)).take h := by
    rw [Nat.two_mul, List.take_add, List.drop_drop]
  rw [e, le_append, List.length_take, List.length_drop, Nat.min_eq_left (by omega)]

set_option maxRecDepth 100000 in
set_option maxHeartbeats 4000000 in
theorem halves_walk (A : Option Addr) (n c : Nat) (l : List UInt8) (pos : Int) (w : World) (hS : Sizes w) (hB : Bs w A l) (hn : n = l.length) (hc : n ≤ c) (p1 : -9223372036854775808 ≤ pos) (p2 : pos ≤ 9223372036854775807) (hlen : n ≤ maxLen) :
    Calls Tryd.prog 9 #[.slice A n c, .int .i64 pos] w (Yes w) := by
  unfold maxLen at hlen
  by_cases h : (65536 : Int) < n
  · have W := Lib.hid (works_any w hS)
    have HN := Lib.hid hn
    clear hn hB
    go_enter Tryd.func9, Tryd.ntmps9
    go_wp2_with (go_at_call 11; refine W.out.mono ?_; rintro e w1 ⟨rfl, k1⟩)
    go_ret
    exact ⟨rfl, k1⟩
  · have hm : n ≤ 65536 := by omega
    have k0 := keeps_alloc w (.cells #[.int .i64 8, .int .i64 4, .int .i64 2] 3)
    have HN := Lib.hid hn
    clear hn
    have x0 := Lib.hid (heap_alloc_new w (.cells #[.int .i64 8, .int .i64 4, .int .i64 2] 3))
    go_enter Tryd.func9, Tryd.ntmps9
    go_wp2_with fail
    have K0 := keeps_refl (w.alloc (.cells #[.int .i64 8, .int .i64 4, .int .i64 2] 3))
    generalize hW0 : w.alloc (.cells #[.int .i64 8, .int .i64 4, .int .i64 2] 3) = W0 at *
    clear hW0
    go_loopw [6, 7, 8, 9, 10, 11, 12, 13] (fun i _ _ _ _ _ _ _ wr => ∃ k : Nat, k ≤ 3 ∧ i = .int .i64 k ∧ W0 = wr) (fun i _ _ _ _ _ _ _ _ => 3 - (intOf i).toNat)
    case atStart => exact ⟨0, by omega, rfl, rfl⟩
    case round =>
      obtain ⟨k, hk, rfl, rfl⟩ := hrel
      have hS1 := hS.keep k0
      have hB1 := hB.keep k0
      rcases (by omega : k = 0 ∨ k = 1 ∨ k = 2 ∨ k = 3) with rfl | rfl | rfl | rfl
      · have c0 : W0.cell? ⟨w.heap.size, 0, none⟩ = some (.int .i64 8) := cell_of_row W0 w.heap.size 0 _ _ _ x0.out
        by_cases hno : pos < 0 ∨ (n : Int) - 8 < pos
        · have G := Lib.hid (get_no A n c pos 8 W0 hS1 (by omega) p1 p2 (.inr hno))
          rcases hno with h0 | h0
          · go_wp2_with (go_at_call 13; refine G.out.mono ?_; rintro e w' ⟨rfl, rfl⟩)
            go_roundw
            case rel => exact ⟨1, by omega, rfl, trivial⟩
            case measure => simp [intOf]
          · by_cases h1 : pos < 0
            all_goals
              go_wp2_with (go_at_call 13; refine G.out.mono ?_; rintro e w' ⟨rfl, rfl⟩)
              go_roundw
              case rel => exact ⟨1, by omega, rfl, trivial⟩
              case measure => simp [intOf]
        · obtain ⟨p, rfl⟩ : ∃ p : Nat, pos = (p : Int) := ⟨pos.toNat, by omega⟩
          have hp : p + 8 ≤ n := by omega
          have hp1 : ¬ ((p : Int) < 0) := by omega
          have hp2 : (p : Int) ≤ (n : Int) - 8 := by omega
          have G := Lib.hid (get_yes A n c l p 8 W0 hS1 hB1 HN.out hc (by omega) rfl hp)
          have GL := Lib.hid (get_yes A n c l p 4 W0 hS1 hB1 HN.out hc (by omega) rfl (by omega))
          have GH := Lib.hid (get_yes A n c l (p + 4) 4 W0 hS1 hB1 HN.out hc (by omega) rfl (by omega))
          have hl := numAt_lt l p 4
          have hh := numAt_lt l (p + 4) 4
          have he := numAt_half l p 4 (by rw [← HN.out]; omega)
          simp only [Nat.reduceMul, Nat.reducePow] at he
          have HE := Lib.hid he
          have hl' : (numAt l p 4 : Int) ≤ 4294967295 := by omega
          have hh' : (numAt l (p + 4) 4 : Int) ≤ 4294967295 := by omega
          have hsum : ((numAt l p 8 : Nat) : Int) = (numAt l p 4 : Int) + 4294967296 * (numAt l (p + 4) 4 : Int) := by rw [he]; omega
          have HS := Lib.hid hsum
          clear hl hh he hsum hno hB1 hS1
          generalize numAt l p 4 = X at *
          generalize numAt l (p + 4) 4 = Y at *
          generalize numAt l p 8 = Z at *
          go_wp2_with fail
          refine G.out.mono ?_
          rintro e w' ⟨rfl, rfl⟩
          go_wp2_with fail
          refine GL.out.mono ?_
          rintro e w' ⟨rfl, rfl⟩
          go_wp2_with fail
          refine GH.out.mono ?_
          rintro e w' ⟨rfl, rfl⟩
          rw [HS.out]
          go_wp2_with fail
          go_roundw
          case rel => exact ⟨1, by omega, rfl, trivial⟩
          case measure => simp [intOf]
      · have c0 : W0.cell? ⟨w.heap.size, 1, none⟩ = some (.int .i64 4) := cell_of_row W0 w.heap.size 1 _ _ _ x0.out
        by_cases hno : pos < 0 ∨ (n : Int) - 4 < pos
        · have G := Lib.hid (get_no A n c pos 4 W0 hS1 (by omega) p1 p2 (.inr hno))
          rcases hno with h0 | h0
          · go_wp2_with (go_at_call 13; refine G.out.mono ?_; rintro e w' ⟨rfl, rfl⟩)
            go_roundw
            case rel => exact ⟨2, by omega, rfl, trivial⟩
            case measure => simp [intOf]
          · by_cases h1 : pos < 0
            all_goals
              go_wp2_with (go_at_call 13; refine G.out.mono ?_; rintro e w' ⟨rfl, rfl⟩)
              go_roundw
              case rel => exact ⟨2, by omega, rfl, trivial⟩
              case measure => simp [intOf]
        · obtain ⟨p, rfl⟩ : ∃ p : Nat, pos = (p : Int) := ⟨pos.toNat, by omega⟩
          have hp : p + 4 ≤ n := by omega
          have hp1 : ¬ ((p : Int) < 0) := by omega
          have hp2 : (p : Int) ≤ (n : Int) - 4 := by omega
          have G := Lib.hid (get_yes A n c l p 4 W0 hS1 hB1 HN.out hc (by omega) rfl hp)
          have GL := Lib.hid (get_yes A n c l p 2 W0 hS1 hB1 HN.out hc (by omega) rfl (by omega))
          have GH := Lib.hid (get_yes A n c l (p + 2) 2 W0 hS1 hB1 HN.out hc (by omega) rfl (by omega))
          have hl := numAt_lt l p 2
          have hh := numAt_lt l (p + 2) 2
          have he := numAt_half l p 2 (by rw [← HN.out]; omega)
          simp only [Nat.reduceMul, Nat.reducePow] at he
          have HE := Lib.hid he
          have hl' : (numAt l p 2 : Int) ≤ 65535 := by omega
          have hh' : (numAt l (p + 2) 2 : Int) ≤ 65535 := by omega
          have hsum : ((numAt l p 4 : Nat) : Int) = (numAt l p 2 : Int) + 65536 * (numAt l (p + 2) 2 : Int) := by rw [he]; omega
          have HS := Lib.hid hsum
          clear hl hh he hsum hno hB1 hS1
          generalize numAt l p 2 = X at *
          generalize numAt l (p + 2) 2 = Y at *
          generalize numAt l p 4 = Z at *
          go_wp2_with fail
          refine G.out.mono ?_
          rintro e w' ⟨rfl, rfl⟩
          go_wp2_with fail
          refine GL.out.mono ?_
          rintro e w' ⟨rfl, rfl⟩
          go_wp2_with fail
          refine GH.out.mono ?_
          rintro e w' ⟨rfl, rfl⟩
          rw [HS.out]
          go_wp2_with fail
          go_roundw
          case rel => exact ⟨2, by omega, rfl, trivial⟩
          case measure => simp [intOf]
      · have c0 : W0.cell? ⟨w.heap.size, 2, none⟩ = some (.int .i64 2) := cell_of_row W0 w.heap.size 2 _ _ _ x0.out
        by_cases hno : pos < 0 ∨ (n : Int) - 2 < pos
        · have G := Lib.hid (get_no A n c pos 2 W0 hS1 (by omega) p1 p2 (.inr hno))
          rcases hno with h0 | h0
          · go_wp2_with (go_at_call 13; refine G.out.mono ?_; rintro e w' ⟨rfl, rfl⟩)
            go_roundw
            case rel => exact ⟨3, by omega, rfl, trivial⟩
            case measure => simp [intOf]
          · by_cases h1 : pos < 0
            all_goals
              go_wp2_with (go_at_call 13; refine G.out.mono ?_; rintro e w' ⟨rfl, rfl⟩)
              go_roundw
              case rel => exact ⟨3, by omega, rfl, trivial⟩
              case measure => simp [intOf]
        · obtain ⟨p, rfl⟩ : ∃ p : Nat, pos = (p : Int) := ⟨pos.toNat, by omega⟩
          have hp : p + 2 ≤ n := by omega
          have hp1 : ¬ ((p : Int) < 0) := by omega
          have hp2 : (p : Int) ≤ (n : Int) - 2 := by omega
          have G := Lib.hid (get_yes A n c l p 2 W0 hS1 hB1 HN.out hc (by omega) rfl hp)
          have GL := Lib.hid (get_yes A n c l p 1 W0 hS1 hB1 HN.out hc (by omega) rfl (by omega))
          have GH := Lib.hid (get_yes A n c l (p + 1) 1 W0 hS1 hB1 HN.out hc (by omega) rfl (by omega))
          have hl := numAt_lt l p 1
          have hh := numAt_lt l (p + 1) 1
          have he := numAt_half l p 1 (by rw [← HN.out]; omega)
          simp only [Nat.reduceMul, Nat.reducePow] at he
          have HE := Lib.hid he
          have hl' : (numAt l p 1 : Int) ≤ 255 := by omega
          have hh' : (numAt l (p + 1) 1 : Int) ≤ 255 := by omega
          have hsum : ((numAt l p 2 : Nat) : Int) = (numAt l p 1 : Int) + 256 * (numAt l (p + 1) 1 : Int) := by rw [he]; omega
          have HS := Lib.hid hsum
          clear hl hh he hsum hno hB1 hS1
          generalize numAt l p 1 = X at *
          generalize numAt l (p + 1) 1 = Y at *
          generalize numAt l p 2 = Z at *
          go_wp2_with fail
          refine G.out.mono ?_
          rintro e w' ⟨rfl, rfl⟩
          go_wp2_with fail
          refine GL.out.mono ?_
          rintro e w' ⟨rfl, rfl⟩
          go_wp2_with fail
          refine GH.out.mono ?_
          rintro e w' ⟨rfl, rfl⟩
          rw [HS.out]
          go_wp2_with fail
          go_roundw
          case rel => exact ⟨3, by omega, rfl, trivial⟩
          case measure => simp [intOf]
      · go_wp2_with fail
        refine (works_any W0 hS1).mono ?_
        rintro e w1 ⟨rfl, k1⟩
        go_wp2_with fail
        go_ret
        exact ⟨rfl, keeps_trans k0 k1⟩
end Go.Proofs.YtbbkkbfpojndmaaDoor
