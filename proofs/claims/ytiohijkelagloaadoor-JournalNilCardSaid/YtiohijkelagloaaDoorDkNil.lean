/- Package disk: what is answered of no disk. -/
import Derived.Test.YtiohijkelagloaaDoorDkA
namespace Go.Proofs.YtiohijkelagloaaDoor
open Go.RowKit
set_option linter.unusedSimpArgs false
set_option linter.unusedVariables false
set_option maxRecDepth 100000

theorem nil_Create (sv : ByteArray) (w : World) : Calls Tryd.prog 12 #[.pointer none, .string sv] w fun e w' => e = .returned (.int .i64 2) ∧ Keeps w w' := by
  have C := Lib.hid begin_nil
  go_enter Tryd.func12, Tryd.ntmps12
  go_wp2_with (go_at_call 33; refine (C.out _).mono ?_; rintro e w' ⟨rfl, rfl⟩)
  go_ret
  exact ⟨rfl, by first | exact keeps_refl _ | exact keeps_alloc _ _ | exact keeps_trans (keeps_alloc _ _) (keeps_alloc _ _)⟩
theorem nil_Write (sv : ByteArray) (x : Int) (B : Option Addr) (m d : Nat) (w : World) : Calls Tryd.prog 13 #[.pointer none, .string sv, .int .i64 x, .slice B m d] w fun e w' => e = .returned (.int .i64 2) ∧ Keeps w w' := by
  have C := Lib.hid begin_nil
  go_enter Tryd.func13, Tryd.ntmps13
  go_wp2_with (go_at_call 33; refine (C.out _).mono ?_; rintro e w' ⟨rfl, rfl⟩)
  go_ret
  exact ⟨rfl, by first | exact keeps_refl _ | exact keeps_alloc _ _ | exact keeps_trans (keeps_alloc _ _) (keeps_alloc _ _)⟩
theorem nil_Cut (sv : ByteArray) (x : Int) (w : World) : Calls Tryd.prog 31 #[.pointer none, .string sv, .int .i64 x] w fun e w' => e = .returned (.int .i64 2) ∧ Keeps w w' := by
  have C := Lib.hid begin_nil
  go_enter Tryd.func31, Tryd.ntmps31
  go_wp2_with (go_at_call 33; refine (C.out _).mono ?_; rintro e w' ⟨rfl, rfl⟩)
  go_ret
  exact ⟨rfl, by first | exact keeps_refl _ | exact keeps_alloc _ _ | exact keeps_trans (keeps_alloc _ _) (keeps_alloc _ _)⟩
theorem nil_Sync (sv : ByteArray) (w : World) : Calls Tryd.prog 15 #[.pointer none, .string sv] w fun e w' => e = .returned (.int .i64 2) ∧ Keeps w w' := by
  have C := Lib.hid begin_nil
  go_enter Tryd.func15, Tryd.ntmps15
  go_wp2_with (go_at_call 33; refine (C.out _).mono ?_; rintro e w' ⟨rfl, rfl⟩)
  go_ret
  exact ⟨rfl, by first | exact keeps_refl _ | exact keeps_alloc _ _ | exact keeps_trans (keeps_alloc _ _) (keeps_alloc _ _)⟩
theorem nil_Read (sv : ByteArray) (x y : Int) (w : World) : Calls Tryd.prog 28 #[.pointer none, .string sv, .int .i64 x, .int .i64 y] w fun e w' => e = .returned (.tuple #[.slice none 0 0, .int .i64 2]) ∧ Keeps w w' := by
  have C := Lib.hid checkPower_nil
  go_enter Tryd.func28, Tryd.ntmps28
  go_wp2_with (go_at_call 43; refine (C.out _).mono ?_; rintro e w' ⟨rfl, rfl⟩)
  exact bodyPost_ret (v := .tuple #[.slice none 0 0, .int .i64 2]) (by simp [results, Tryd.results28, go_sem]) rfl ⟨rfl, by first | exact keeps_refl _ | exact keeps_alloc _ _⟩
theorem nil_Size (sv : ByteArray) (w : World) : Calls Tryd.prog 17 #[.pointer none, .string sv] w fun e w' => e = .returned (.tuple #[.int .i64 0, .int .i64 2]) ∧ Keeps w w' := by
  have C := Lib.hid checkPower_nil
  go_enter Tryd.func17, Tryd.ntmps17
  go_wp2_with (go_at_call 43; refine (C.out _).mono ?_; rintro e w' ⟨rfl, rfl⟩)
  exact bodyPost_ret (v := .tuple #[.int .i64 0, .int .i64 2]) (by simp [results, Tryd.results17, go_sem]) rfl ⟨rfl, by first | exact keeps_refl _ | exact keeps_alloc _ _⟩
theorem nil_Arm (x : Int) (w : World) : Calls Tryd.prog 23 #[.pointer none, .int .i64 x] w fun e w' => e = .returned (.int .i64 2) ∧ Keeps w w' := by
  go_enter Tryd.func23, Tryd.ntmps23
  go_wp2_with fail
  go_ret
  exact ⟨rfl, by first | exact keeps_refl _ | exact keeps_alloc _ _ | exact keeps_trans (keeps_alloc _ _) (keeps_alloc _ _)⟩
theorem nil_On (B : Option Addr) (m d : Nat) (w : World) : Calls Tryd.prog 26 #[.pointer none, .slice B m d] w fun e w' => e = .returned (.int .i64 2) ∧ Keeps w w' := by
  go_enter Tryd.func26, Tryd.ntmps26
  go_wp2_with fail
  go_ret
  exact ⟨rfl, by first | exact keeps_refl _ | exact keeps_alloc _ _ | exact keeps_trans (keeps_alloc _ _) (keeps_alloc _ _)⟩
theorem nil_Flip (sv : ByteArray) (x : Int) (y : Int) (w : World) : Calls Tryd.prog 27 #[.pointer none, .string sv, .int .i64 x, .int .u8 y] w fun e w' => e = .returned (.int .i64 2) ∧ Keeps w w' := by
  have C := Lib.hid checkPower_nil
  go_enter Tryd.func27, Tryd.ntmps27
  go_wp2_with (go_at_call 43; refine (C.out _).mono ?_; rintro e w' ⟨rfl, rfl⟩)
  go_ret
  exact ⟨rfl, by first | exact keeps_refl _ | exact keeps_alloc _ _ | exact keeps_trans (keeps_alloc _ _) (keeps_alloc _ _)⟩
theorem nil_Used (w : World) : Calls Tryd.prog 55 #[.pointer none] w fun e w' => e = .returned (.int .i64 0) ∧ Keeps w w' := by
  go_enter Tryd.func55, Tryd.ntmps55
  go_wp2_with fail
  go_ret
  exact ⟨rfl, by first | exact keeps_refl _ | exact keeps_alloc _ _ | exact keeps_trans (keeps_alloc _ _) (keeps_alloc _ _)⟩
theorem nil_Dead (w : World) : Calls Tryd.prog 25 #[.pointer none] w fun e w' => e = .returned (.bool false) ∧ Keeps w w' := by
  go_enter Tryd.func25, Tryd.ntmps25
  go_wp2_with fail
  go_ret
  exact ⟨rfl, by first | exact keeps_refl _ | exact keeps_alloc _ _ | exact keeps_trans (keeps_alloc _ _) (keeps_alloc _ _)⟩
theorem nil_Loose (w : World) : Calls Tryd.prog 48 #[.pointer none] w fun e w' => e = .returned (.slice none 0 0) ∧ Keeps w w' := by
  go_enter Tryd.func48, Tryd.ntmps48
  go_wp2_with fail
  go_ret
  exact ⟨rfl, by first | exact keeps_refl _ | exact keeps_alloc _ _ | exact keeps_trans (keeps_alloc _ _) (keeps_alloc _ _)⟩
end Go.Proofs.YtiohijkelagloaaDoor
