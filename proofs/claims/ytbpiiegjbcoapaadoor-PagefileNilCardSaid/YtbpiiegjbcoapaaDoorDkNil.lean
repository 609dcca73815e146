/- Package disk: what is answered of no disk. -/
import Derived.Test.YtbpiiegjbcoapaaDoorDkA
namespace Go.Proofs.YtbpiiegjbcoapaaDoor
open Go.RowKit
set_option linter.unusedSimpArgs false
set_option linter.unusedVariables false
set_option maxRecDepth 100000

theorem nil_Create (sv : ByteArray) (w : World) : Calls Tryd.prog 29 #[.pointer none, .string sv] w fun e w' => e = .returned (.int .i64 2) ∧ Keeps w w' := by
  have C := Lib.hid begin_nil
  go_enter Tryd.func29, Tryd.ntmps29
  go_wp2_with (go_at_call 42; refine (C.out _).mono ?_; rintro e w' ⟨rfl, rfl⟩)
  go_ret
  exact ⟨rfl, by first | exact keeps_refl _ | exact keeps_alloc _ _ | exact keeps_trans (keeps_alloc _ _) (keeps_alloc _ _)⟩
theorem nil_Write (sv : ByteArray) (x : Int) (B : Option Addr) (m d : Nat) (w : World) : Calls Tryd.prog 26 #[.pointer none, .string sv, .int .i64 x, .slice B m d] w fun e w' => e = .returned (.int .i64 2) ∧ Keeps w w' := by
  have C := Lib.hid begin_nil
  go_enter Tryd.func26, Tryd.ntmps26
  go_wp2_with (go_at_call 42; refine (C.out _).mono ?_; rintro e w' ⟨rfl, rfl⟩)
  go_ret
  exact ⟨rfl, by first | exact keeps_refl _ | exact keeps_alloc _ _ | exact keeps_trans (keeps_alloc _ _) (keeps_alloc _ _)⟩
theorem nil_Sync (sv : ByteArray) (w : World) : Calls Tryd.prog 34 #[.pointer none, .string sv] w fun e w' => e = .returned (.int .i64 2) ∧ Keeps w w' := by
  have C := Lib.hid begin_nil
  go_enter Tryd.func34, Tryd.ntmps34
  go_wp2_with (go_at_call 42; refine (C.out _).mono ?_; rintro e w' ⟨rfl, rfl⟩)
  go_ret
  exact ⟨rfl, by first | exact keeps_refl _ | exact keeps_alloc _ _ | exact keeps_trans (keeps_alloc _ _) (keeps_alloc _ _)⟩
theorem nil_Read (sv : ByteArray) (x y : Int) (w : World) : Calls Tryd.prog 22 #[.pointer none, .string sv, .int .i64 x, .int .i64 y] w fun e w' => e = .returned (.tuple #[.slice none 0 0, .int .i64 2]) ∧ Keeps w w' := by
  have C := Lib.hid checkPower_nil
  go_enter Tryd.func22, Tryd.ntmps22
  go_wp2_with (go_at_call 35; refine (C.out _).mono ?_; rintro e w' ⟨rfl, rfl⟩)
  exact bodyPost_ret (v := .tuple #[.slice none 0 0, .int .i64 2]) (by simp [results, Tryd.results22, go_sem]) rfl ⟨rfl, by first | exact keeps_refl _ | exact keeps_alloc _ _⟩
theorem nil_Size (sv : ByteArray) (w : World) : Calls Tryd.prog 27 #[.pointer none, .string sv] w fun e w' => e = .returned (.tuple #[.int .i64 0, .int .i64 2]) ∧ Keeps w w' := by
  have C := Lib.hid checkPower_nil
  go_enter Tryd.func27, Tryd.ntmps27
  go_wp2_with (go_at_call 35; refine (C.out _).mono ?_; rintro e w' ⟨rfl, rfl⟩)
  exact bodyPost_ret (v := .tuple #[.int .i64 0, .int .i64 2]) (by simp [results, Tryd.results27, go_sem]) rfl ⟨rfl, by first | exact keeps_refl _ | exact keeps_alloc _ _⟩
theorem nil_Arm (x : Int) (w : World) : Calls Tryd.prog 24 #[.pointer none, .int .i64 x] w fun e w' => e = .returned (.int .i64 2) ∧ Keeps w w' := by
  go_enter Tryd.func24, Tryd.ntmps24
  go_wp2_with fail
  go_ret
  exact ⟨rfl, by first | exact keeps_refl _ | exact keeps_alloc _ _ | exact keeps_trans (keeps_alloc _ _) (keeps_alloc _ _)⟩
theorem nil_On (B : Option Addr) (m d : Nat) (w : World) : Calls Tryd.prog 25 #[.pointer none, .slice B m d] w fun e w' => e = .returned (.int .i64 2) ∧ Keeps w w' := by
  go_enter Tryd.func25, Tryd.ntmps25
  go_wp2_with fail
  go_ret
  exact ⟨rfl, by first | exact keeps_refl _ | exact keeps_alloc _ _ | exact keeps_trans (keeps_alloc _ _) (keeps_alloc _ _)⟩
theorem nil_Flip (sv : ByteArray) (x : Int) (y : Int) (w : World) : Calls Tryd.prog 21 #[.pointer none, .string sv, .int .i64 x, .int .u8 y] w fun e w' => e = .returned (.int .i64 2) ∧ Keeps w w' := by
  have C := Lib.hid checkPower_nil
  go_enter Tryd.func21, Tryd.ntmps21
  go_wp2_with (go_at_call 35; refine (C.out _).mono ?_; rintro e w' ⟨rfl, rfl⟩)
  go_ret
  exact ⟨rfl, by first | exact keeps_refl _ | exact keeps_alloc _ _ | exact keeps_trans (keeps_alloc _ _) (keeps_alloc _ _)⟩
theorem nil_Used (w : World) : Calls Tryd.prog 64 #[.pointer none] w fun e w' => e = .returned (.int .i64 0) ∧ Keeps w w' := by
  go_enter Tryd.func64, Tryd.ntmps64
  go_wp2_with fail
  go_ret
  exact ⟨rfl, by first | exact keeps_refl _ | exact keeps_alloc _ _ | exact keeps_trans (keeps_alloc _ _) (keeps_alloc _ _)⟩
theorem nil_Loose (w : World) : Calls Tryd.prog 23 #[.pointer none] w fun e w' => e = .returned (.slice none 0 0) ∧ Keeps w w' := by
  go_enter Tryd.func23, Tryd.ntmps23
  go_wp2_with fail
  go_ret
  exact ⟨rfl, by first | exact keeps_refl _ | exact keeps_alloc _ _ | exact keeps_trans (keeps_alloc _ _) (keeps_alloc _ _)⟩
end Go.Proofs.YtbpiiegjbcoapaaDoor
