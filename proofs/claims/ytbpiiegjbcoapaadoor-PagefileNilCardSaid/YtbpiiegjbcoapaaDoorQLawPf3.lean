/- PagefileNil. -/
import Derived.Test.YtbpiiegjbcoapaaDoorPfNil
import Derived.Test.YtbpiiegjbcoapaaDoorQLawPf
namespace Go.Proofs.YtbpiiegjbcoapaaDoor
open Go.RowKit
set_option linter.unusedSimpArgs false
set_option linter.unusedVariables false
set_option maxRecDepth 100000

set_option maxHeartbeats 4000000 in
theorem nil8_walk (K : DiskOk) (PK : PageOk) (sv : ByteArray) (k : Int) (hk : IsI k) (A : Option Addr) (n c : Nat) (w : World) (hZ : K.Z w) (hS : Sizes w) (hm : n ≤ 9223372036854775807) (hsv : sv.size ≤ 9223372036854775807) :
    Calls Tryd.prog 3 #[.string sv, .int .i64 k, .slice A n c] w (Yes8 w) := by
  have WK := Lib.hid (fun (W : World) (q : Keeps w W) => works8 K PK W (K.keep hZ q) (hS.keep q))
  have ways : (4096 : Int) < (sv.size : Int) ∨ (¬ (4096 : Int) < (sv.size : Int) ∧ (4096 : Int) < (n : Int)) ∨ (¬ (4096 : Int) < (sv.size : Int) ∧ ¬ (4096 : Int) < (n : Int)) := by omega
  have N1 := Lib.hid (nil8_Create sv)
  have N2 := Lib.hid (nil8_Open sv)
  have N3 := Lib.hid (nil8_Bad sv)
  have N4 := Lib.hid nil8_Pages
  have N5 := Lib.hid (nil8_Read k)
  have N6 := Lib.hid (nil8_Write k A n c)
  have N7 := Lib.hid nil8_Sync
  have N8 := Lib.hid nil8_Name
  clear hZ hS
  go_enter Tryd.func3, Tryd.ntmps3
  rcases ways with w1 | ⟨w1, w2⟩ | ⟨w1, w2⟩
  · go_wp2_with fail
    refine (WK.out _ (keeps_refl _)).mono ?_
    rintro e w9 ⟨rfl, k9⟩
    go_wp2_with fail
    go_ret
    exact ⟨rfl, k9⟩
  · go_wp2_with fail
    refine (WK.out _ (keeps_refl _)).mono ?_
    rintro e w9 ⟨rfl, k9⟩
    go_wp2_with fail
    go_ret
    exact ⟨rfl, k9⟩
  · go_wp2_with fail
    refine (N1.out _).mono ?_
    rintro e x1 ⟨rfl, k1⟩
    go_wp2_with fail
    refine (N2.out _).mono ?_
    rintro e x2 ⟨rfl, k2⟩
    have q2 := keeps_trans k1 k2
    go_wp2_with fail
    refine (N3.out _).mono ?_
    rintro e x3 ⟨rfl, k3⟩
    have q3 := keeps_trans q2 k3
    go_wp2_with fail
    refine (N4.out _).mono ?_
    rintro e x4 ⟨rfl, k4⟩
    have q4 := keeps_trans q3 k4
    go_wp2_with fail
    refine (N5.out _).mono ?_
    rintro e x5 ⟨rfl, k5⟩
    have q5 := keeps_trans q4 k5
    go_wp2_with fail
    refine (N6.out _).mono ?_
    rintro e x6 ⟨rfl, k6⟩
    have q6 := keeps_trans q5 k6
    go_wp2_with fail
    refine (N7.out _).mono ?_
    rintro e x7 ⟨rfl, k7⟩
    have q7 := keeps_trans q6 k7
    go_wp2_with fail
    refine (N8.out _).mono ?_
    rintro e x8 ⟨rfl, k8⟩
    have q8 := keeps_trans q7 k8
    go_wp2_with fail
    refine (WK.out _ q8).mono ?_
    rintro e w9 ⟨rfl, k9⟩
    go_wp2_with fail
    go_ret
    exact ⟨rfl, keeps_trans q8 k9⟩
end Go.Proofs.YtbpiiegjbcoapaaDoor
