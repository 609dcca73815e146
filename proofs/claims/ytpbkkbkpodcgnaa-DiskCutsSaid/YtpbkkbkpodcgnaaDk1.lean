/- Package disk: the small functions. -/
import Derived.Test.YtpbkkbkpodcgnaaProg
import Derived.Test.YtpbkkbkpodcgnaaDiskOne
import Derived.Test.YtpbkkbkpodcgnaaOnly
import Derived.Test.YtpbkkbkpodcgnaaBox
import Derived.Test.YtpbkkbkpodcgnaaMapV
import Derived.Deep.RegionHeld3
namespace Go.Proofs.Ytpbkkbkpodcgnaa
open Go.RowKit
set_option linter.unusedSimpArgs false
set_option linter.unusedVariables false
set_option maxRecDepth 100000

/-- the cells of a disk: its two maps, the quota, how far the power is, is it off -/
def dkC (mf ml : Nat) (q armed : Nat) (off : Bool) : Array Value := #[.map (some mf), .map (some ml), .int .i64 (q : Int), .int .i64 (armed : Int), .bool off]
theorem sectorsOf_any (n : Nat) (hn : n ≤ 1000000000) (w : World) : Calls Try.prog 45 #[.int .i64 (n : Int)] w fun e w' => e = .returned (.int .i64 (sect n : Int)) ∧ w = w' := by
  have e : (sect n : Int) = ((n : Int) + 64 - 1) / 64 := by unfold sect; omega
  have hq : Int.tdiv ((n : Int) + 64 - 1) 64 = ((n : Int) + 64 - 1) / 64 := Int.tdiv_eq_ediv_of_nonneg (by omega)
  rw [e]
  clear e
  go_enter Try.func45, Try.ntmps45
  go_wp2_with fail
  go_ret
  exact ⟨by first | rfl | (simp only [hq]) | (congr 2; rw [hq]) | (congr 2; unfold wrap64; omega), rfl⟩
theorem isQuota_any (n : Int) (w : World) : Calls Try.prog 57 #[.int .i64 n] w fun e w' => e = .returned (.bool (decide (0 ≤ n ∧ n ≤ 1048576))) ∧ w = w' := by
  by_cases h1 : 0 ≤ n
  · by_cases h2 : n ≤ 1048576
    · rw [decide_eq_true ⟨h1, h2⟩]
      go_enter Try.func57, Try.ntmps57
      go_wp2_with fail
      go_ret
      exact ⟨rfl, rfl⟩
    · rw [decide_eq_false (fun h => h2 h.2)]
      have e := decide_eq_false h2
      clear h2
      go_enter Try.func57, Try.ntmps57
      go_wp2_with fail
      go_ret
      exact ⟨by rw [← e]; rfl, rfl⟩
  · rw [decide_eq_false (fun h => h1 h.1)]
    have h1' : n < 0 := by omega
    clear h1
    go_enter Try.func57, Try.ntmps57
    go_wp2_with fail
    go_ret
    exact ⟨rfl, rfl⟩
/-- what is answered without power -/
def pwr (off : Bool) : Int := if off then 6 else 0
theorem checkPower_any {w : World} {b mf ml q armed : Nat} {off : Bool} (h : Box w b 83 (dkC mf ml q armed off)) : Calls Try.prog 56 #[.pointer (some ⟨b, 0, none⟩)] w fun e w' => e = .returned (.int .i64 (pwr off)) ∧ w = w' := by
  have c4 : w.cell? ⟨b, 4, none⟩ = some (.bool off) := h.cell 4 rfl
  cases off
  · go_enter Try.func56, Try.ntmps56
    go_wp2_with fail
    go_ret
    exact ⟨rfl, rfl⟩
  · go_enter Try.func56, Try.ntmps56
    go_wp2_with fail
    go_ret
    exact ⟨rfl, rfl⟩
theorem checkPower_nil (w : World) : Calls Try.prog 56 #[.pointer none] w fun e w' => e = .returned (.int .i64 2) ∧ w = w' := by
  go_enter Try.func56, Try.ntmps56
  go_wp2_with fail
  go_ret
  exact ⟨rfl, rfl⟩
theorem begin_nil (w : World) : Calls Try.prog 46 #[.pointer none] w fun e w' => e = .returned (.int .i64 2) ∧ w = w' := by
  have C := Lib.hid checkPower_nil
  go_enter Try.func46, Try.ntmps46
  go_wp2_with (go_at_call 56; refine (C.out _).mono ?_; rintro e w' ⟨rfl, rfl⟩)
  go_ret
  exact ⟨rfl, rfl⟩
/-- the fuse behind an operation's beginning, and the power -/
def fuseA (armed : Nat) : Nat := armed - 1
def fuseO (armed : Nat) (off : Bool) : Bool := if 0 < armed then decide (armed = 1) else off
theorem begin_any {w : World} {b mf ml q armed : Nat} {off : Bool} (h : Box w b 83 (dkC mf ml q armed off)) (ha : armed ≤ 9223372036854775807) : Calls Try.prog 46 #[.pointer (some ⟨b, 0, none⟩)] w fun e w' =>
    e = .returned (.int .i64 (pwr (fuseO armed off))) ∧ Box w' b 83 (dkC mf ml q (fuseA armed) (fuseO armed off)) ∧ Only w w' (fun c => c = b) := by
  have c3 : w.cell? ⟨b, 3, none⟩ = some (.int .i64 (armed : Int)) := h.cell 3 rfl
  have c4 : w.cell? ⟨b, 4, none⟩ = some (.bool off) := h.cell 4 rfl
  have f3 := h.frozen 3
  have f4 := h.frozen 4
  have hl := h.lt
  have H := Lib.hid h
  have C := Lib.hid (fun (W : World) (hb : Box W b 83 (dkC mf ml q (fuseA armed) (fuseO armed off))) => checkPower_any hb)
  by_cases h0 : armed = 0
  · subst h0
    have e1 : fuseO 0 off = off := rfl
    have e2 : fuseA 0 = 0 := rfl
    rw [e1, e2] at C ⊢
    clear h e1 e2
    go_enter Try.func46, Try.ntmps46
    go_wp2_with fail
    refine (C.out _ H.out).mono ?_
    rintro e w' ⟨rfl, rfl⟩
    go_wp2_with fail
    go_ret
    exact ⟨rfl, H.out, Only.refl _ _⟩
  · obtain ⟨k, rfl⟩ : ∃ k, armed = k + 1 := ⟨armed - 1, by omega⟩
    have hk : ((k + 1 : Nat) : Int) = (k : Int) + 1 := by omega
    have hp : (0 : Int) < (k : Int) + 1 := by omega
    have hkm : (k : Int) ≤ 9223372036854775806 := by omega
    rw [hk] at c3
    have e2 : fuseA (k + 1) = k := rfl
    rw [e2] at C ⊢
    have q1 := h.set 3 (.int .i64 (k : Int))
    have O1 : Only w (w.setCell ⟨b, 3, none⟩ (.int .i64 (k : Int))) (fun c => c = b) := ⟨rfl, rfl, rfl, by simp, fun i _ hn => Below.heap_setCell _ ⟨b, 3, none⟩ _ i hn⟩
    have d3 : (w.setCell ⟨b, 3, none⟩ (.int .i64 (k : Int))).cell? ⟨b, 3, none⟩ = some (.int .i64 (k : Int)) := q1.cell 3 rfl
    have g4 := q1.frozen 4
    have l1 := q1.lt
    by_cases h1 : k = 0
    · have e1 : fuseO (k + 1) off = true := by simp [fuseO, h1]
      rw [e1] at C ⊢
      have hk0 : ((k : Int) == 0) = true := by simp [h1]
      have q2 := q1.set 4 (.bool true)
      have Q2 := Lib.hid (show Box _ b 83 (dkC mf ml q k true) from q2)
      have O2 := Lib.hid (O1.trans (S1 := fun c => c = b) (w2 := (w.setCell ⟨b, 3, none⟩ (.int .i64 (k : Int))).setCell ⟨b, 4, none⟩ (.bool true)) ⟨rfl, rfl, rfl, by simp, fun i _ hn => Below.heap_setCell _ ⟨b, 4, none⟩ _ i hn⟩ (fun _ h => .inl h))
      clear h q1 O1 e1 e2 h0 h1 q2
      go_enter Try.func46, Try.ntmps46
      go_wp2_with fail
      refine (C.out _ Q2.out).mono ?_
      rintro e w' ⟨rfl, rfl⟩
      go_wp2_with fail
      go_ret
      exact ⟨rfl, Q2.out, O2.out⟩
    · have e1 : fuseO (k + 1) off = false := by simp [fuseO, h1]
      rw [e1] at C ⊢
      have hk0 : ((k : Int) == 0) = false := by rw [beq_eq_false_iff_ne]; omega
      have q2 := q1.set 4 (.bool false)
      have Q2 := Lib.hid (show Box _ b 83 (dkC mf ml q k false) from q2)
      have O2 := Lib.hid (O1.trans (S1 := fun c => c = b) (w2 := (w.setCell ⟨b, 3, none⟩ (.int .i64 (k : Int))).setCell ⟨b, 4, none⟩ (.bool false)) ⟨rfl, rfl, rfl, by simp, fun i _ hn => Below.heap_setCell _ ⟨b, 4, none⟩ _ i hn⟩ (fun _ h => .inl h))
      clear h q1 O1 e1 e2 h0 h1 q2
      go_enter Try.func46, Try.ntmps46
      go_wp2_with fail
      refine (C.out _ Q2.out).mono ?_
      rintro e w' ⟨rfl, rfl⟩
      go_wp2_with fail
      go_ret
      exact ⟨rfl, Q2.out, O2.out⟩
end Go.Proofs.Ytpbkkbkpodcgnaa
