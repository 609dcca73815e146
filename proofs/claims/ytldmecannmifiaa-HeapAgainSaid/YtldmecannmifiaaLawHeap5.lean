/- The walk of HeapAgain. -/
import Derived.Test.YtldmecannmifiaaLawHeap3
import Derived.Deep.QuietTactic
import Derived.BigQuiet
namespace Go.Proofs.Ytldmecannmifiaa
open Go.RowKit
set_option linter.unusedSimpArgs false
set_option linter.unusedVariables false
set_option maxRecDepth 100000

set_option maxHeartbeats 8000000 in
theorem againH_walk (K : HeapOk) (A : Option Addr) (n c : Nat) (l : List It) (b : Nat) (hb : b < 256) (w : World)
    (hB : At w w.heap.size A (l.flatMap itC)) (hx : ∀ e ∈ l, ItOk e) (hn : n = l.length) (hlen : n ≤ maxLen) :
    Calls Try.prog 9 #[.slice A n c, .int .u8 b] w (Yes w) := by
  unfold maxLen at hlen
  have WW := Lib.hid (fun W => works_heap K W)
  by_cases h : (600 : Int) < n ∨ n = 0
  · clear hn hB
    by_cases h1 : (600 : Int) < n
    · clear h
      go_enter Try.func9, Try.ntmps9
      go_wp2_with fail
      refine (WW.out _).mono ?_
      rintro e w1 ⟨rfl, k1⟩
      go_wp2_with fail
      go_ret
      exact ⟨rfl, k1⟩
    · obtain rfl : n = 0 := by omega
      clear h h1
      go_enter Try.func9, Try.ntmps9
      go_wp2_with fail
      refine (WW.out _).mono ?_
      rintro e w1 ⟨rfl, k1⟩
      go_wp2_with fail
      go_ret
      exact ⟨rfl, k1⟩
  · have h1 : (n : Int) ≤ 600 := by omega
    have h0 : ((n : Int) == 0) = false := by simp; omega
    have hpos : 0 < n := by omega
    have hne : l ≠ [] := by intro e; subst e; simp at hn; omega
    obtain ⟨x, hxl⟩ := least_of hne
    have HP := Lib.hid hpos
    have HN := Lib.hid hn
    have HX := Lib.hid hx
    have HB := Lib.hid hB
    have HL := Lib.hid hxl
    have HOx := Lib.hid (hx x hxl.mem)
    have LL := Lib.hid (show l.length ≤ 600 by omega)
    have hle : (l.erase x).length = l.length - 1 := List.length_erase_of_mem hxl.mem
    have HLE := Lib.hid hle
    have HC := Lib.hid (List.perm_cons_erase hxl.mem)
    clear hn hx hB h hxl hne hle hpos
    go_enter Try.func9, Try.ntmps9
    go_wp2_with fail
    refine (K.new w).mono ?_
    rintro e w1 ⟨p, F, rfl, h1, hF, k1⟩
    have M1 : Mine K w.heap.size w1 p F [] := ⟨h1, hF⟩
    clear h1 hF
    go_wp2_with fail
    go_loopw [6] (fun i wr => ∃ (k : Nat) (F : Nat → Prop), k ≤ n ∧ i = .int .i64 k ∧ Mine K w.heap.size wr p F (l.take k) ∧ Keeps w wr) (fun i _ => n - (intOf i).toNat)
    case atStart => exact ⟨0, F, Nat.zero_le _, rfl, M1, k1⟩
    case round =>
      clear M1 k1
      obtain ⟨k, F3, hk, rfl, hM, hkp⟩ := hrel
      by_cases hlt : k < n
      · obtain ⟨y, hy⟩ : ∃ y, l[k]? = some y := ⟨_, List.getElem?_eq_getElem (by have := HN.out; omega)⟩
        obtain ⟨ad, rfl, hbl, hI⟩ := its_at HB.out hy
        obtain ⟨c0, c1⟩ := hI.keep hkp
        have P := Lib.hid (K.push y hM.h (HX.out _ (List.mem_of_getElem? hy)) (by have := LL.out; rw [List.length_take]; omega))
        have HYK := Lib.hid hy
        clear hy
        go_wp2_with fail
        refine P.out.mono ?_
        rintro e w3 ⟨F4, rfl, h3, t3⟩
        go_wp2_with fail
        go_roundw
        case rel => exact ⟨k + 1, F4, by omega, by go_num, hM.next (K.perm h3 (take_perm l HYK.out)) t3 hkp.size, t3.keeps hkp hM.b⟩
        case measure => simp [intOf]; omega
      · obtain rfl : k = n := by omega
        have e1 : l.take k = l := by rw [HN.out, List.take_length]
        rw [e1] at hM
        clear hlt hk e1
        have P := Lib.hid (K.pop x hM.h HL.out HX.out (by have := LL.out; omega))
        go_wp2_with fail
        refine P.out.mono ?_
        rintro e w3 ⟨F4, rfl, h3, t3⟩
        have hM3 := hM.next h3 t3 hkp.size
        have hk3 := t3.keeps hkp hM.b
        have kz := keeps_alloc w3 (.cells #[.int .u64 (x.k : Int), .int .u32 (x.i : Int)] 32)
        have hM4 := hM3.keep kz
        have hk4 := keeps_trans hk3 kz
        have BX := Box.new w3 32 #[.int .u64 (x.k : Int), .int .u32 (x.i : Int)]
        have nz : ¬ F4 w3.heap.size := fun e => Nat.lt_irrefl _ (K.lt hM3.h _ e)
        have hge : w.heap.size ≤ w3.heap.size := hk3.size
        clear h3 t3 hM kz hM3 P hk3 hkp
        go_wp2_with fail
        generalize w3.alloc (.cells #[.int .u64 (x.k : Int), .int .u32 (x.i : Int)] 32) = W4 at *
        generalize w3.heap.size = bx at *
        go_loopw [9] (fun i wr => ∃ (j : Nat) (F : Nat → Prop), j ≤ b ∧ i = .int .i64 j ∧ Mine K w.heap.size wr p F (l.erase x) ∧ ¬ F bx ∧ Box wr bx 32 #[.int .u64 (x.k : Int), .int .u32 (x.i : Int)] ∧ Keeps w wr) (fun i _ => b - (intOf i).toNat)
        case atStart => exact ⟨0, F4, Nat.zero_le _, rfl, hM4, nz, BX, hk4⟩
        case round =>
          clear hM4 nz BX hk4
          obtain ⟨j, F5, hj, rfl, hM, nz, BX, hkp⟩ := hrel
          obtain ⟨a0, a1⟩ := ItBox.cells BX
          by_cases hlt : j < b
          · have P := Lib.hid (K.push x hM.h HOx.out (by have := LL.out; have := HLE.out; omega))
            go_wp2_with fail
            refine P.out.mono ?_
            rintro e w5 ⟨F6, rfl, h5, t5⟩
            have hM5 := hM.next (K.perm h5 HC.out.symm) t5 hkp.size
            have hk5 := t5.keeps hkp hM.b
            have BX5 := Box.turn BX t5 nz
            have nz5 := t5.not BX.lt nz
            clear h5 t5 hM BX nz hkp P a0 a1
            have P := Lib.hid (K.len hM5.h (by have := LL.out; omega))
            rw [← HN.out] at P
            go_wp2_with fail
            refine P.out.mono ?_
            rintro e w6 ⟨rfl, k6⟩
            have hM6 := hM5.keep k6
            have hk6 := keeps_trans hk5 k6
            have BX6 := BX5.keep k6
            clear hM5 hk5 BX5 k6 P
            have P := Lib.hid (K.pop x hM6.h HL.out HX.out (by have := LL.out; omega))
            go_wp2_with fail
            refine P.out.mono ?_
            rintro e w7 ⟨F7, rfl, h7, t7⟩
            have hM7 := hM6.next h7 t7 hk6.size
            have hk7 := t7.keeps hk6 hM6.b
            have BX7 := Box.turn BX6 t7 nz5
            have nz7 := t7.not BX6.lt nz5
            have kz := keeps_alloc w7 (.cells #[.int .u64 (x.k : Int), .int .u32 (x.i : Int)] 32)
            have hM8 := hM7.keep kz
            have hk8 := keeps_trans hk7 kz
            have BX8 := BX7.keep kz
            obtain ⟨a0, a1⟩ := ItBox.cells BX7
            have la := BX7.lt
            clear h7 t7 hM6 hk6 BX6 nz5 kz P hM7 hk7
            go_wp2_with fail
            go_roundw
            case rel => exact ⟨j + 1, F7, by omega, by go_num, hM8, nz7, BX8, hk8⟩
            case measure => simp [intOf]; omega
          · obtain rfl : j = b := by omega
            clear hlt hj
            obtain ⟨wo, rfl⟩ : ∃ wo : World, wo = wr := ⟨_, rfl⟩
            go_wp2_with fail
            go_loopw [12] (fun i wr => ∃ (m : Nat), m ≤ k ∧ i = .int .i64 m ∧ Keeps wo wr) (fun i _ => k - (intOf i).toNat)
            case atStart => exact ⟨0, Nat.zero_le _, rfl, keeps_refl _⟩
            case round =>
              obtain ⟨m, hm, rfl, hks⟩ := hrel
              have BX1 := BX.keep hks
              have hM1 := hM.keep hks
              by_cases hlt : m < k
              · obtain ⟨y, hy⟩ : ∃ y, l[m]? = some y := ⟨_, List.getElem?_eq_getElem (by have := HN.out; omega)⟩
                obtain ⟨ad, rfl, hbl, hI⟩ := its_at HB.out hy
                obtain ⟨c0, c1⟩ := hI.keep (keeps_trans hkp hks)
                obtain ⟨d0, d1⟩ := ItBox.cells BX1
                have hless := HL.out.le y (List.mem_of_getElem? hy)
                rw [lessB_false] at hless
                have hk0 : (0 : Int) ≤ (m : Int) := by omega
                have hkn : (m : Int) < (k : Int) := by omega
                by_cases he : x.k = y.k
                · have e1 : ((y.k : Int) == (x.k : Int)) = true := by simp; omega
                  have e2 : decide (y.k < x.k) = false := decide_eq_false (by omega)
                  have e3 : decide (y.i < x.i) = false := decide_eq_false (by omega)
                  clear hless he hy a0 a1
                  go_wp2_with fail
                  go_quiet (fail)
                  go_wp2_with fail
                  go_roundw
                  case rel => exact ⟨m + 1, by omega, by go_num, keeps_trans hks (keeps_drewN _ _)⟩
                  case measure => simp [intOf]; omega
                · have e1 : ((y.k : Int) == (x.k : Int)) = false := by simp; omega
                  have e2 : decide (y.k < x.k) = false := decide_eq_false (by omega)
                  clear hless he hy a0 a1
                  go_wp2_with fail
                  go_quiet (fail)
                  go_wp2_with fail
                  go_roundw
                  case rel => exact ⟨m + 1, by omega, by go_num, keeps_trans hks (keeps_drewN _ _)⟩
                  case measure => simp [intOf]; omega
              · obtain rfl : m = k := by omega
                have P := Lib.hid (K.len hM1.h (by have := LL.out; have := HLE.out; omega))
                have hi1 : (m : Int) - 1 = ((m - 1 : Nat) : Int) := by have := HP.out; omega
                rw [HLE.out, ← HN.out] at P
                clear hlt hm
                go_wp2_with fail
                refine P.out.mono ?_
                rintro e w9 ⟨rfl, k9⟩
                go_wp2_with fail
                refine (WW.out _).mono ?_
                rintro e w10 ⟨rfl, k10⟩
                go_wp2_with fail
                go_ret
                exact ⟨rfl, keeps_trans hkp (keeps_trans hks (keeps_trans k9 k10))⟩
end Go.Proofs.Ytldmecannmifiaa
