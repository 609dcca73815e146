/- Package disk: what is answered of no disk. -/
import Derived.Test.YtpbkkbkpodcgnaaDkA
namespace Go.Proofs.Ytpbkkbkpodcgnaa
open Go.RowKit
set_option linter.unusedSimpArgs false
set_option linter.unusedVariables false
set_option maxRecDepth 100000

theorem nil_Create (sv : ByteArray) (w : World) : Calls Try.prog 21 #[.pointer none, .string sv] w fun e w' => e = .returned (.int .i64 2) ∧ Keeps w w' := by
  have C := Lib.hid begin_nil
  go_enter Try.func21, Try.ntmps21
  go_wp2_with (go_at_call 46; refine (C.out _).mono ?_; rintro e w' ⟨rfl, rfl⟩)
  go_ret
  exact ⟨rfl, by first | exact keeps_refl _ | exact keeps_alloc _ _ | exact keeps_trans (keeps_alloc _ _) (keeps_alloc _ _)⟩
theorem nil_Remove (sv : ByteArray) (w : World) : Calls Try.prog 36 #[.pointer none, .string sv] w fun e w' => e = .returned (.int .i64 2) ∧ Keeps w w' := by
  have C := Lib.hid begin_nil
  go_enter Try.func36, Try.ntmps36
  go_wp2_with (go_at_call 46; refine (C.out _).mono ?_; rintro e w' ⟨rfl, rfl⟩)
  go_ret
  exact ⟨rfl, by first | exact keeps_refl _ | exact keeps_alloc _ _ | exact keeps_trans (keeps_alloc _ _) (keeps_alloc _ _)⟩
theorem nil_Rename (sv tv : ByteArray) (w : World) : Calls Try.prog 35 #[.pointer none, .string sv, .string tv] w fun e w' => e = .returned (.int .i64 2) ∧ Keeps w w' := by
  have C := Lib.hid begin_nil
  go_enter Try.func35, Try.ntmps35
  go_wp2_with (go_at_call 46; refine (C.out _).mono ?_; rintro e w' ⟨rfl, rfl⟩)
  go_ret
  exact ⟨rfl, by first | exact keeps_refl _ | exact keeps_alloc _ _ | exact keeps_trans (keeps_alloc _ _) (keeps_alloc _ _)⟩
theorem nil_Write (sv : ByteArray) (x : Int) (B : Option Addr) (m d : Nat) (w : World) : Calls Try.prog 23 #[.pointer none, .string sv, .int .i64 x, .slice B m d] w fun e w' => e = .returned (.int .i64 2) ∧ Keeps w w' := by
  have C := Lib.hid begin_nil
  go_enter Try.func23, Try.ntmps23
  go_wp2_with (go_at_call 46; refine (C.out _).mono ?_; rintro e w' ⟨rfl, rfl⟩)
  go_ret
  exact ⟨rfl, by first | exact keeps_refl _ | exact keeps_alloc _ _ | exact keeps_trans (keeps_alloc _ _) (keeps_alloc _ _)⟩
theorem nil_Cut (sv : ByteArray) (x : Int) (w : World) : Calls Try.prog 22 #[.pointer none, .string sv, .int .i64 x] w fun e w' => e = .returned (.int .i64 2) ∧ Keeps w w' := by
  have C := Lib.hid begin_nil
  go_enter Try.func22, Try.ntmps22
  go_wp2_with (go_at_call 46; refine (C.out _).mono ?_; rintro e w' ⟨rfl, rfl⟩)
  go_ret
  exact ⟨rfl, by first | exact keeps_refl _ | exact keeps_alloc _ _ | exact keeps_trans (keeps_alloc _ _) (keeps_alloc _ _)⟩
theorem nil_Sync (sv : ByteArray) (w : World) : Calls Try.prog 25 #[.pointer none, .string sv] w fun e w' => e = .returned (.int .i64 2) ∧ Keeps w w' := by
  have C := Lib.hid begin_nil
  go_enter Try.func25, Try.ntmps25
  go_wp2_with (go_at_call 46; refine (C.out _).mono ?_; rintro e w' ⟨rfl, rfl⟩)
  go_ret
  exact ⟨rfl, by first | exact keeps_refl _ | exact keeps_alloc _ _ | exact keeps_trans (keeps_alloc _ _) (keeps_alloc _ _)⟩
theorem nil_Read (sv : ByteArray) (x y : Int) (w : World) : Calls Try.prog 28 #[.pointer none, .string sv, .int .i64 x, .int .i64 y] w fun e w' => e = .returned (.tuple #[.slice none 0 0, .int .i64 2]) ∧ Keeps w w' := by
  have C := Lib.hid checkPower_nil
  go_enter Try.func28, Try.ntmps28
  go_wp2_with (go_at_call 56; refine (C.out _).mono ?_; rintro e w' ⟨rfl, rfl⟩)
  exact bodyPost_ret (v := .tuple #[.slice none 0 0, .int .i64 2]) (by simp [results, Try.results28, go_sem]) rfl ⟨rfl, by first | exact keeps_refl _ | exact keeps_alloc _ _⟩
theorem nil_Size (sv : ByteArray) (w : World) : Calls Try.prog 31 #[.pointer none, .string sv] w fun e w' => e = .returned (.tuple #[.int .i64 0, .int .i64 2]) ∧ Keeps w w' := by
  have C := Lib.hid checkPower_nil
  go_enter Try.func31, Try.ntmps31
  go_wp2_with (go_at_call 56; refine (C.out _).mono ?_; rintro e w' ⟨rfl, rfl⟩)
  exact bodyPost_ret (v := .tuple #[.int .i64 0, .int .i64 2]) (by simp [results, Try.results31, go_sem]) rfl ⟨rfl, by first | exact keeps_refl _ | exact keeps_alloc _ _⟩
theorem nil_Quota (x : Int) (w : World) : Calls Try.prog 37 #[.pointer none, .int .i64 x] w fun e w' => e = .returned (.int .i64 2) ∧ Keeps w w' := by
  go_enter Try.func37, Try.ntmps37
  go_wp2_with fail
  go_ret
  exact ⟨rfl, by first | exact keeps_refl _ | exact keeps_alloc _ _ | exact keeps_trans (keeps_alloc _ _) (keeps_alloc _ _)⟩
theorem nil_Arm (x : Int) (w : World) : Calls Try.prog 20 #[.pointer none, .int .i64 x] w fun e w' => e = .returned (.int .i64 2) ∧ Keeps w w' := by
  go_enter Try.func20, Try.ntmps20
  go_wp2_with fail
  go_ret
  exact ⟨rfl, by first | exact keeps_refl _ | exact keeps_alloc _ _ | exact keeps_trans (keeps_alloc _ _) (keeps_alloc _ _)⟩
theorem nil_On (B : Option Addr) (m d : Nat) (w : World) : Calls Try.prog 26 #[.pointer none, .slice B m d] w fun e w' => e = .returned (.int .i64 2) ∧ Keeps w w' := by
  go_enter Try.func26, Try.ntmps26
  go_wp2_with fail
  go_ret
  exact ⟨rfl, by first | exact keeps_refl _ | exact keeps_alloc _ _ | exact keeps_trans (keeps_alloc _ _) (keeps_alloc _ _)⟩
theorem nil_Flip (sv : ByteArray) (x : Int) (y : Int) (w : World) : Calls Try.prog 38 #[.pointer none, .string sv, .int .i64 x, .int .u8 y] w fun e w' => e = .returned (.int .i64 2) ∧ Keeps w w' := by
  have C := Lib.hid checkPower_nil
  go_enter Try.func38, Try.ntmps38
  go_wp2_with (go_at_call 56; refine (C.out _).mono ?_; rintro e w' ⟨rfl, rfl⟩)
  go_ret
  exact ⟨rfl, by first | exact keeps_refl _ | exact keeps_alloc _ _ | exact keeps_trans (keeps_alloc _ _) (keeps_alloc _ _)⟩
theorem nil_Names (w : World) : Calls Try.prog 14 #[.pointer none] w fun e w' => e = .returned (.slice none 0 0) ∧ Keeps w w' := by
  go_enter Try.func14, Try.ntmps14
  go_wp2_with fail
  go_ret
  exact ⟨rfl, by first | exact keeps_refl _ | exact keeps_alloc _ _ | exact keeps_trans (keeps_alloc _ _) (keeps_alloc _ _)⟩
theorem nil_Used (w : World) : Calls Try.prog 17 #[.pointer none] w fun e w' => e = .returned (.int .i64 0) ∧ Keeps w w' := by
  go_enter Try.func17, Try.ntmps17
  go_wp2_with fail
  go_ret
  exact ⟨rfl, by first | exact keeps_refl _ | exact keeps_alloc _ _ | exact keeps_trans (keeps_alloc _ _) (keeps_alloc _ _)⟩
theorem nil_Dead (w : World) : Calls Try.prog 18 #[.pointer none] w fun e w' => e = .returned (.bool false) ∧ Keeps w w' := by
  go_enter Try.func18, Try.ntmps18
  go_wp2_with fail
  go_ret
  exact ⟨rfl, by first | exact keeps_refl _ | exact keeps_alloc _ _ | exact keeps_trans (keeps_alloc _ _) (keeps_alloc _ _)⟩
theorem nil_Loose (w : World) : Calls Try.prog 15 #[.pointer none] w fun e w' => e = .returned (.slice none 0 0) ∧ Keeps w w' := by
  go_enter Try.func15, Try.ntmps15
  go_wp2_with fail
  go_ret
  exact ⟨rfl, by first | exact keeps_refl _ | exact keeps_alloc _ _ | exact keeps_trans (keeps_alloc _ _) (keeps_alloc _ _)⟩
theorem nil_Files (w : World) : Calls Try.prog 16 #[.pointer none] w fun e w' => e = .returned (.slice none 0 0) ∧ Keeps w w' := by
  have C := Lib.hid nil_Names
  go_enter Try.func16, Try.ntmps16
  go_wp2_with (go_at_call 14; refine (C.out _).mono ?_; rintro e w' ⟨rfl, k1⟩)
  have K1 := Lib.hid k1
  clear k1
  go_loopw [3, 9] (fun r i wr => r = .slice none 0 0 ∧ i = .int .i64 0 ∧ Keeps w wr) (fun _ _ _ => 0)
  case atStart => exact ⟨rfl, rfl, K1.out⟩
  case round =>
    obtain ⟨rfl, rfl, kr⟩ := hrel
    go_wp2_with fail
    go_ret
    exact ⟨rfl, kr⟩
end Go.Proofs.Ytpbkkbkpodcgnaa
