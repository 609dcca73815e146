/- StreamNil. -/
import Derived.Test.YtmholhjdpkfleaaDoorQStrE
namespace Go.Proofs.YtmholhjdpkfleaaDoor
open Go.RowKit
set_option linter.unusedSimpArgs false
set_option linter.unusedVariables false
set_option maxRecDepth 100000

theorem nil11_open (w : World) (sv : ByteArray) (n : Int) : Calls Tryd.prog 15 #[.pointer none, .string sv, .int .i64 n] w fun e w' => e = .returned (.tuple #[.pointer none, .int .i64 2]) ∧ Keeps w w' := by
  go_enter Tryd.func15, Tryd.ntmps15
  go_wp2_with fail
  go_returns
  exact ⟨rfl, keeps_refl _⟩
theorem nil11_len (w : World) : Calls Tryd.prog 12 #[.pointer none] w fun e w' => e = .returned (.tuple #[.int .i64 0, .int .i64 2]) ∧ Keeps w w' := by
  go_enter Tryd.func12, Tryd.ntmps12
  go_wp2_with fail
  go_returns
  exact ⟨rfl, keeps_refl _⟩
theorem nil11_get (w : World) (i : Int) : Calls Tryd.prog 13 #[.pointer none, .int .i64 i] w fun e w' => e = .returned (.tuple #[.slice none 0 0, .int .i64 2]) ∧ Keeps w w' := by
  go_enter Tryd.func13, Tryd.ntmps13
  go_wp2_with fail
  go_returns
  exact ⟨rfl, keeps_refl _⟩
theorem nil11_add (w : World) (A : Option Addr) (n c : Nat) : Calls Tryd.prog 16 #[.pointer none, .slice A n c] w fun e w' => e = .returned (.int .i64 2) ∧ Keeps w w' := by
  have KA := Lib.hid (keeps_alloc w (.cells #[.slice A n c] 31))
  go_enter Tryd.func16, Tryd.ntmps16
  go_wp2_with fail
  go_ret
  exact ⟨rfl, KA.out⟩
theorem nil11_set (w : World) (i : Int) (A : Option Addr) (n c : Nat) : Calls Tryd.prog 17 #[.pointer none, .int .i64 i, .slice A n c] w fun e w' => e = .returned (.int .i64 2) ∧ Keeps w w' := by
  have KA := Lib.hid (keeps_alloc w (.cells #[.slice A n c] 31))
  go_enter Tryd.func17, Tryd.ntmps17
  go_wp2_with fail
  go_ret
  exact ⟨rfl, KA.out⟩
set_option maxHeartbeats 8000000 in
theorem nil11_walk (K : DiskOk) (PK : PageOk) (i : Int) (A : Option Addr) (n c : Nat) (nm : List UInt8) (w : World) (hZ : K.Z w) (hS : Sizes w) (hn : n ≤ 9223372036854775807) (hl : nm.length ≤ maxLen) :
    Calls Tryd.prog 4 #[.int .i64 i, .slice A n c, .string (str nm)] w (Yes11 w) := by
  have WK := Lib.hid (fun (W : World) (q : Keeps w W) => works11 K PK W (K.keep hZ q) (hS.keep q))
  have hsz := str_size nm
  have hl2 : nm.length ≤ 9223372036854775807 := by unfold maxLen at hl; omega
  clear hZ hS hl
  generalize hL : nm.length = L at *
  generalize str nm = sv at *
  by_cases h1 : 4096 < n
  · have hi : (4096 : Int) < (n : Int) := by omega
    go_enter Tryd.func4, Tryd.ntmps4
    go_wp2_with fail
    refine (WK.out _ (keeps_refl _)).mono ?_
    rintro e w9 ⟨rfl, k9⟩
    have K9 := Lib.hid k9
    clear k9
    go_wp2_with fail
    go_ret
    exact ⟨rfl, K9.out⟩
  · have hb : decide ((4096 : Int) < (n : Int)) = false := decide_eq_false (by omega)
    have hb2 : decide (4096 < n) = false := decide_eq_false h1
    by_cases h2 : 4096 < L
    · have hi : (4096 : Int) < (L : Int) := by omega
      go_enter Tryd.func4, Tryd.ntmps4
      go_wp2_with fail
      refine (WK.out _ (keeps_refl _)).mono ?_
      rintro e w9 ⟨rfl, k9⟩
      have K9 := Lib.hid k9
      clear k9
      go_wp2_with fail
      go_ret
      exact ⟨rfl, K9.out⟩
    · have hc : decide ((4096 : Int) < (L : Int)) = false := decide_eq_false (by omega)
      have hc2 : decide (4096 < L) = false := decide_eq_false h2
      have N0 := Lib.hid nil11_open
      have N1 := Lib.hid nil11_len
      have N2 := Lib.hid nil11_get
      have N3 := Lib.hid nil11_add
      have N4 := Lib.hid nil11_set
      go_enter Tryd.func4, Tryd.ntmps4
      go_wp2_with fail
      refine (N0.out _ _ _).mono ?_
      rintro e w3 ⟨rfl, k3⟩
      have K3 := Lib.hid k3
      clear k3
      go_wp2_with fail
      refine (N1.out _).mono ?_
      rintro e w4 ⟨rfl, k4⟩
      have K4 := Lib.hid (keeps_trans K3.out k4)
      clear k4
      go_wp2_with fail
      refine (N2.out _ _).mono ?_
      rintro e w5 ⟨rfl, k5⟩
      have K5 := Lib.hid (keeps_trans K4.out k5)
      clear k5
      go_wp2_with fail
      refine (N3.out _ _ _ _).mono ?_
      rintro e w6 ⟨rfl, k6⟩
      have K6 := Lib.hid (keeps_trans K5.out k6)
      clear k6
      go_wp2_with fail
      refine (N4.out _ _ _ _ _).mono ?_
      rintro e w7 ⟨rfl, k7⟩
      have K7 := Lib.hid (keeps_trans K6.out k7)
      clear k7
      go_wp2_with fail
      refine (WK.out _ K7.out).mono ?_
      rintro e w9 ⟨rfl, k9⟩
      have K9 := Lib.hid (keeps_trans K7.out k9)
      clear k9
      go_wp2_with fail
      go_ret
      exact ⟨rfl, K9.out⟩
end Go.Proofs.YtmholhjdpkfleaaDoor
