/- Package pagefile: what is answered of no disk, and of no file. -/
import Derived.Test.YtbpiiegjbcoapaaDoorDkNil
namespace Go.Proofs.YtbpiiegjbcoapaaDoor
open Go.RowKit
set_option linter.unusedSimpArgs false
set_option linter.unusedVariables false
set_option maxRecDepth 100000

theorem nil8_Create (sv : ByteArray) (w : World) : Calls Tryd.prog 10 #[.pointer none, .string sv] w fun e w' => e = .returned (.tuple #[.pointer none, .int .i64 2]) ∧ Keeps w w' := by
  have C := Lib.hid (nil_Create sv w)
  go_enter Tryd.func10, Tryd.ntmps10
  go_wp2_with fail
  refine C.out.mono ?_
  rintro e w1 ⟨rfl, k1⟩
  go_wp2_with fail
  go_returns
  exact ⟨rfl, k1⟩
theorem nil8_Open (sv : ByteArray) (w : World) : Calls Tryd.prog 11 #[.pointer none, .string sv] w fun e w' => e = .returned (.tuple #[.pointer none, .int .i64 2]) ∧ Keeps w w' := by
  have C := Lib.hid (nil_Size sv w)
  go_enter Tryd.func11, Tryd.ntmps11
  go_wp2_with fail
  refine C.out.mono ?_
  rintro e w1 ⟨rfl, k1⟩
  go_wp2_with fail
  go_returns
  exact ⟨rfl, k1⟩
theorem nil8_Bad (sv : ByteArray) (w : World) : Calls Tryd.prog 12 #[.pointer none, .string sv] w fun e w' => e = .returned (.tuple #[.slice none 0 0, .int .i64 2]) ∧ Keeps w w' := by
  have C := Lib.hid (nil8_Open sv w)
  go_enter Tryd.func12, Tryd.ntmps12
  go_wp2_with fail
  refine C.out.mono ?_
  rintro e w1 ⟨rfl, k1⟩
  go_wp2_with fail
  go_returns
  exact ⟨rfl, k1⟩
theorem nil8_Name (w : World) : Calls Tryd.prog 17 #[.pointer none] w fun e w' => e = .returned (.string ⟨#[]⟩) ∧ Keeps w w' := by
  go_enter Tryd.func17, Tryd.ntmps17
  go_wp2_with fail
  go_ret
  exact ⟨rfl, keeps_refl _⟩
theorem nil8_Pages (w : World) : Calls Tryd.prog 13 #[.pointer none] w fun e w' => e = .returned (.tuple #[.int .i64 0, .int .i64 2]) ∧ Keeps w w' := by
  go_enter Tryd.func13, Tryd.ntmps13
  go_wp2_with fail
  go_returns
  exact ⟨rfl, keeps_refl _⟩
theorem nil8_Read (k : Int) (w : World) : Calls Tryd.prog 14 #[.pointer none, .int .i64 k] w fun e w' => e = .returned (.tuple #[.slice none 0 0, .int .i64 2]) ∧ Keeps w w' := by
  go_enter Tryd.func14, Tryd.ntmps14
  go_wp2_with fail
  go_returns
  exact ⟨rfl, keeps_refl _⟩
theorem nil8_Write (k : Int) (A : Option Addr) (n c : Nat) (w : World) : Calls Tryd.prog 15 #[.pointer none, .int .i64 k, .slice A n c] w fun e w' => e = .returned (.int .i64 2) ∧ Keeps w w' := by
  go_enter Tryd.func15, Tryd.ntmps15
  go_wp2_with fail
  go_ret
  exact ⟨rfl, keeps_refl _⟩
theorem nil8_Sync (w : World) : Calls Tryd.prog 16 #[.pointer none] w fun e w' => e = .returned (.int .i64 2) ∧ Keeps w w' := by
  go_enter Tryd.func16, Tryd.ntmps16
  go_wp2_with fail
  go_ret
  exact ⟨rfl, keeps_refl _⟩
end Go.Proofs.YtbpiiegjbcoapaaDoor
