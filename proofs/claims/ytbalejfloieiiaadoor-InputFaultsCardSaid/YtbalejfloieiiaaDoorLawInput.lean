/- What the calls of package input answer; the anchor of layer 5's statements. -/
import Derived.Test.YtbalejfloieiiaaDoorRefInput6
import Derived.Test.YtbalejfloieiiaaDoorRefInput5
import Derived.Deep.RegionHeld3
namespace Go.Proofs.YtbalejfloieiiaaDoor
open Go.RowKit
set_option linter.unusedSimpArgs false
set_option linter.unusedVariables false
set_option maxRecDepth 100000

/-- What a law leaves. -/
def Yes (w : World) (e : Ending) (w' : World) : Prop := e = .returned (.bool true) ∧ Keeps w w'
/-- What the calls of package input answer; Z is what they want of the world (variables that lie there). -/
structure InputOk where
  Z : World → Prop
  keep : ∀ {w w' : World}, Z w → Keeps w w' → Z w'
  head : ∀ (A : Option Addr) (n c : Nat) (l : List UInt8) (w : World), Z w → Bs w A l → n = l.length → n ≤ c → n ≤ 1000000 →
    Calls Tryd.prog 16 #[.slice A n c] w fun e w' => e = .returned (headV (headS l)) ∧ Keeps w w'
  row : ∀ (A : Option Addr) (n c : Nat) (l : List UInt8) (N : Nat) (w : World), Z w → N < 4294967296 → Bs w A l → n = l.length → n ≤ c → n ≤ 1000000 →
    Calls Tryd.prog 18 #[.slice A n c, .int .u32 (N : Int)] w fun e w' => e = .returned (rowV (rowS l N)) ∧ Keeps w w'
  check : ∀ (A : Option Addr) (n c : Nat) (l : List UInt8) (w : World), Z w → Bs w A l → n = l.length → n ≤ c → n ≤ 1000000 →
    Calls Tryd.prog 21 #[.slice A n c] w (CheckV w (checkS l))
  write : ∀ (N : Nat) (A : Option Addr) (n c : Nat) (l : List Ed) (w : World), Z w → N < 4294967296 → At w w.heap.size A (edsC l) → (∀ e ∈ l, EdOk e) → n = l.length → n ≤ c → n ≤ 5000 →
    Calls Tryd.prog 25 #[.int .u32 (N : Int), .slice A n c] w (WriteV w N l)
  reduce : ∀ (A : Option Addr) (n c : Nat) (l : List Ed) (w : World), Z w → At w w.heap.size A (edsC l) → (∀ e ∈ l, EdOk e) → n = l.length → n ≤ c → n ≤ 5000 →
    Calls Tryd.prog 29 #[.slice A n c] w fun e w' => ∃ a, Red l a ∧ NewE w a e w'

def oneE : List Ed := [⟨0, 1, 5, 0⟩]
theorem one_ok : ∀ e ∈ oneE, EdOk e := by
  intro e he
  simp [oneE] at he
  subst he
  exact ⟨by decide, by decide, by decide, by decide⟩
theorem one_w : WOk 2 oneE := by
  refine ⟨⟨by decide, by decide, by decide⟩, fun e he => ?_⟩
  simp [oneE] at he
  subst he
  exact ⟨by decide, by decide, by decide⟩
theorem one_len : (writeB 2 oneE).length = 28 := by rw [writeB_length]; rfl
theorem one_check : checkS (writeB 2 oneE) = ⟨2, [⟨0, 1, 5, 4294967295⟩], 0, 0⟩ := check_write one_ok one_w
theorem one_cut : checkS ((writeB 2 oneE).take 27) = ⟨0, [], 8, 27⟩ := check_cut (by rw [one_check]) (by rw [one_len]; decide)

set_option maxHeartbeats 1000000 in
theorem works_input (K : InputOk) (w : World) (hZ : K.Z w) : Calls Tryd.prog 14 #[] w (Yes w) := by
  have k0 := keeps_alloc w (.cells #[.int .u32 0, .int .u32 1, .int .u64 5, .int .u32 0] 31)
  have W := Lib.hid (K.write 2 (some ⟨w.heap.size, 0, none⟩) 1 1 oneE _ (K.keep hZ k0) (by decide) (At.new w [.int .u32 0, .int .u32 1, .int .u64 5, .int .u32 0] 31 _ (by simp)) one_ok rfl (by decide) (by decide))
  have HZ := Lib.hid (K.keep hZ k0)
  go_enter Tryd.func14, Tryd.ntmps14
  go_wp2_with fail
  generalize w.alloc (.cells #[.int .u32 0, .int .u32 1, .int .u64 5, .int .u32 0] 31) = W0 at *
  refine W.out.mono ?_
  rintro e w1 hw
  rcases hw with ⟨-, v, rfl, own, k1⟩ | ⟨hn, -⟩
  · rw [one_len] at own
    obtain ⟨A, cap, rfl, hc, hm, -⟩ := own.form
    have hB : Bs w1 A (writeB 2 oneE) := own.at_
    have C := Lib.hid (K.check A 28 cap (writeB 2 oneE) w1 (K.keep HZ.out k1) hB one_len.symm hc (by decide))
    rw [one_check] at C
    have HB := Lib.hid hB
    clear own hB
    go_wp2_with fail
    refine C.out.mono ?_
    rintro e w2 ⟨v2, rfl, own2, k2⟩
    obtain ⟨A2, cap2, rfl, hc2, hm2, -⟩ := own2.form
    obtain ⟨g, rfl, -⟩ := own2.cell (j := 0) (by decide)
    obtain ⟨⟨c0, c1, c2, c3⟩, -⟩ := own_edge' (j := 0) (e := ⟨0, 1, 5, 4294967295⟩) own2 rfl
    have lg := (own2.lt g rfl).2
    have hB2 := HB.out.keep k2
    have hi : (27 : Int) ≤ (cap : Int) := by omega
    have C2 := Lib.hid (K.check A 27 cap ((writeB 2 oneE).take 27) w2 (K.keep HZ.out (keeps_trans k1 k2)) (hB2.take 27) (by rw [List.length_take, one_len]; rfl) (by omega) (by decide))
    rw [one_cut] at C2
    clear own2 hB2
    go_wp2_with fail
    refine C2.out.mono ?_
    rintro e w3 ⟨v3, rfl, own3, k3⟩
    obtain ⟨A3, cap3, rfl, -⟩ := own3.form
    clear own3
    go_wp2_with fail
    go_ret
    exact ⟨rfl, keeps_trans k0 (keeps_trans k1 (keeps_trans k2 k3))⟩
  · exact absurd one_w hn
end Go.Proofs.YtbalejfloieiiaaDoor
