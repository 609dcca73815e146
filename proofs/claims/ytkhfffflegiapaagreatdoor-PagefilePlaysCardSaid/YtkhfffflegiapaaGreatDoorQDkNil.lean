/- Package disk: what is answered of no disk. -/
import Derived.Test.YtkhfffflegiapaaGreatDoorQDkA
import Derived.Test.YtkhfffflegiapaaGreatDoorQPfBad
import Derived.Test.YtkhfffflegiapaaGreatDoorQPfVast
namespace Go.Proofs.YtkhfffflegiapaaGreatDoor
open Go.RowKit
set_option linter.unusedSimpArgs false
set_option linter.unusedVariables false
set_option maxRecDepth 100000

theorem nil_Create (sv : ByteArray) (w : World) : Calls Tryz.prog 28 #[.pointer none, .string sv] w fun e w' => e = .returned (.int .i64 2) ∧ Keeps w w' := by
  have C := Lib.hid begin_nil
  go_enter Tryz.func28, Tryz.ntmps28
  go_wp2_with (go_at_call 59; refine (C.out _).mono ?_; rintro e w' ⟨rfl, rfl⟩)
  go_ret
  exact ⟨rfl, by first | exact keeps_refl _ | exact keeps_alloc _ _ | exact keeps_trans (keeps_alloc _ _) (keeps_alloc _ _)⟩
theorem nil_Remove (sv : ByteArray) (w : World) : Calls Tryz.prog 64 #[.pointer none, .string sv] w fun e w' => e = .returned (.int .i64 2) ∧ Keeps w w' := by
  have C := Lib.hid begin_nil
  go_enter Tryz.func64, Tryz.ntmps64
  go_wp2_with (go_at_call 59; refine (C.out _).mono ?_; rintro e w' ⟨rfl, rfl⟩)
  go_ret
  exact ⟨rfl, by first | exact keeps_refl _ | exact keeps_alloc _ _ | exact keeps_trans (keeps_alloc _ _) (keeps_alloc _ _)⟩
theorem nil_Write (sv : ByteArray) (x : Int) (B : Option Addr) (m d : Nat) (w : World) : Calls Tryz.prog 105 #[.pointer none, .string sv, .int .i64 x, .slice B m d] w fun e w' => e = .returned (.int .i64 2) ∧ Keeps w w' := by
  have C := Lib.hid begin_nil
  go_enter Tryz.func105, Tryz.ntmps105
  go_wp2_with (go_at_call 59; refine (C.out _).mono ?_; rintro e w' ⟨rfl, rfl⟩)
  go_ret
  exact ⟨rfl, by first | exact keeps_refl _ | exact keeps_alloc _ _ | exact keeps_trans (keeps_alloc _ _) (keeps_alloc _ _)⟩
theorem nil_Cut (sv : ByteArray) (x : Int) (w : World) : Calls Tryz.prog 110 #[.pointer none, .string sv, .int .i64 x] w fun e w' => e = .returned (.int .i64 2) ∧ Keeps w w' := by
  have C := Lib.hid begin_nil
  go_enter Tryz.func110, Tryz.ntmps110
  go_wp2_with (go_at_call 59; refine (C.out _).mono ?_; rintro e w' ⟨rfl, rfl⟩)
  go_ret
  exact ⟨rfl, by first | exact keeps_refl _ | exact keeps_alloc _ _ | exact keeps_trans (keeps_alloc _ _) (keeps_alloc _ _)⟩
theorem nil_Sync (sv : ByteArray) (w : World) : Calls Tryz.prog 92 #[.pointer none, .string sv] w fun e w' => e = .returned (.int .i64 2) ∧ Keeps w w' := by
  have C := Lib.hid begin_nil
  go_enter Tryz.func92, Tryz.ntmps92
  go_wp2_with (go_at_call 59; refine (C.out _).mono ?_; rintro e w' ⟨rfl, rfl⟩)
  go_ret
  exact ⟨rfl, by first | exact keeps_refl _ | exact keeps_alloc _ _ | exact keeps_trans (keeps_alloc _ _) (keeps_alloc _ _)⟩
theorem nil_Read (sv : ByteArray) (x y : Int) (w : World) : Calls Tryz.prog 106 #[.pointer none, .string sv, .int .i64 x, .int .i64 y] w fun e w' => e = .returned (.tuple #[.slice none 0 0, .int .i64 2]) ∧ Keeps w w' := by
  have C := Lib.hid checkPower_nil
  go_enter Tryz.func106, Tryz.ntmps106
  go_wp2_with (go_at_call 87; refine (C.out _).mono ?_; rintro e w' ⟨rfl, rfl⟩)
  exact bodyPost_ret (v := .tuple #[.slice none 0 0, .int .i64 2]) (by simp [results, Tryz.results106, go_sem]) rfl ⟨rfl, by first | exact keeps_refl _ | exact keeps_alloc _ _⟩
theorem nil_Size (sv : ByteArray) (w : World) : Calls Tryz.prog 108 #[.pointer none, .string sv] w fun e w' => e = .returned (.tuple #[.int .i64 0, .int .i64 2]) ∧ Keeps w w' := by
  have C := Lib.hid checkPower_nil
  go_enter Tryz.func108, Tryz.ntmps108
  go_wp2_with (go_at_call 87; refine (C.out _).mono ?_; rintro e w' ⟨rfl, rfl⟩)
  exact bodyPost_ret (v := .tuple #[.int .i64 0, .int .i64 2]) (by simp [results, Tryz.results108, go_sem]) rfl ⟨rfl, by first | exact keeps_refl _ | exact keeps_alloc _ _⟩
theorem nil_Quota (x : Int) (w : World) : Calls Tryz.prog 45 #[.pointer none, .int .i64 x] w fun e w' => e = .returned (.int .i64 2) ∧ Keeps w w' := by
  go_enter Tryz.func45, Tryz.ntmps45
  go_wp2_with fail
  go_ret
  exact ⟨rfl, by first | exact keeps_refl _ | exact keeps_alloc _ _ | exact keeps_trans (keeps_alloc _ _) (keeps_alloc _ _)⟩
theorem nil_Arm (x : Int) (w : World) : Calls Tryz.prog 27 #[.pointer none, .int .i64 x] w fun e w' => e = .returned (.int .i64 2) ∧ Keeps w w' := by
  go_enter Tryz.func27, Tryz.ntmps27
  go_wp2_with fail
  go_ret
  exact ⟨rfl, by first | exact keeps_refl _ | exact keeps_alloc _ _ | exact keeps_trans (keeps_alloc _ _) (keeps_alloc _ _)⟩
theorem nil_On (B : Option Addr) (m d : Nat) (w : World) : Calls Tryz.prog 29 #[.pointer none, .slice B m d] w fun e w' => e = .returned (.int .i64 2) ∧ Keeps w w' := by
  go_enter Tryz.func29, Tryz.ntmps29
  go_wp2_with fail
  go_ret
  exact ⟨rfl, by first | exact keeps_refl _ | exact keeps_alloc _ _ | exact keeps_trans (keeps_alloc _ _) (keeps_alloc _ _)⟩
theorem nil_Flip (sv : ByteArray) (x : Int) (y : Int) (w : World) : Calls Tryz.prog 46 #[.pointer none, .string sv, .int .i64 x, .int .u8 y] w fun e w' => e = .returned (.int .i64 2) ∧ Keeps w w' := by
  have C := Lib.hid checkPower_nil
  go_enter Tryz.func46, Tryz.ntmps46
  go_wp2_with (go_at_call 87; refine (C.out _).mono ?_; rintro e w' ⟨rfl, rfl⟩)
  go_ret
  exact ⟨rfl, by first | exact keeps_refl _ | exact keeps_alloc _ _ | exact keeps_trans (keeps_alloc _ _) (keeps_alloc _ _)⟩
theorem nil_Names (w : World) : Calls Tryz.prog 20 #[.pointer none] w fun e w' => e = .returned (.slice none 0 0) ∧ Keeps w w' := by
  go_enter Tryz.func20, Tryz.ntmps20
  go_wp2_with fail
  go_ret
  exact ⟨rfl, by first | exact keeps_refl _ | exact keeps_alloc _ _ | exact keeps_trans (keeps_alloc _ _) (keeps_alloc _ _)⟩
theorem nil_Used (w : World) : Calls Tryz.prog 192 #[.pointer none] w fun e w' => e = .returned (.int .i64 0) ∧ Keeps w w' := by
  go_enter Tryz.func192, Tryz.ntmps192
  go_wp2_with fail
  go_ret
  exact ⟨rfl, by first | exact keeps_refl _ | exact keeps_alloc _ _ | exact keeps_trans (keeps_alloc _ _) (keeps_alloc _ _)⟩
theorem nil_Loose (w : World) : Calls Tryz.prog 24 #[.pointer none] w fun e w' => e = .returned (.slice none 0 0) ∧ Keeps w w' := by
  go_enter Tryz.func24, Tryz.ntmps24
  go_wp2_with fail
  go_ret
  exact ⟨rfl, by first | exact keeps_refl _ | exact keeps_alloc _ _ | exact keeps_trans (keeps_alloc _ _) (keeps_alloc _ _)⟩
theorem nil_Files (w : World) : Calls Tryz.prog 23 #[.pointer none] w fun e w' => e = .returned (.slice none 0 0) ∧ Keeps w w' := by
  have C := Lib.hid nil_Names
  go_enter Tryz.func23, Tryz.ntmps23
  go_wp2_with (go_at_call 20; refine (C.out _).mono ?_; rintro e w' ⟨rfl, k1⟩)
  have K1 := Lib.hid k1
  clear k1
  go_loopw [3, 9] (fun r i wr => r = .slice none 0 0 ∧ i = .int .i64 0 ∧ Keeps w wr) (fun _ _ _ => 0)
  case atStart => exact ⟨rfl, rfl, K1.out⟩
  case round =>
    obtain ⟨rfl, rfl, kr⟩ := hrel
    go_wp2_with fail
    go_ret
    exact ⟨rfl, kr⟩
end Go.Proofs.YtkhfffflegiapaaGreatDoor
/- Package pagefile: what is answered of no disk, and of no file. -/
namespace Go.Proofs.YtkhfffflegiapaaGreatDoor
open Go.RowKit
set_option linter.unusedSimpArgs false
set_option linter.unusedVariables false
set_option maxRecDepth 100000

theorem nil8_Create (sv : ByteArray) (w : World) : Calls Tryz.prog 66 #[.pointer none, .string sv] w fun e w' => e = .returned (.tuple #[.pointer none, .int .i64 2]) ∧ Keeps w w' := by
  have C := Lib.hid (nil_Create sv w)
  go_enter Tryz.func66, Tryz.ntmps66
  go_wp2_with fail
  refine C.out.mono ?_
  rintro e w1 ⟨rfl, k1⟩
  go_wp2_with fail
  go_returns
  exact ⟨rfl, k1⟩
theorem nil8_Open (sv : ByteArray) (w : World) : Calls Tryz.prog 71 #[.pointer none, .string sv] w fun e w' => e = .returned (.tuple #[.pointer none, .int .i64 2]) ∧ Keeps w w' := by
  have C := Lib.hid (nil_Size sv w)
  go_enter Tryz.func71, Tryz.ntmps71
  go_wp2_with fail
  refine C.out.mono ?_
  rintro e w1 ⟨rfl, k1⟩
  go_wp2_with fail
  go_returns
  exact ⟨rfl, k1⟩
theorem nil8_Bad (sv : ByteArray) (w : World) : Calls Tryz.prog 72 #[.pointer none, .string sv] w fun e w' => e = .returned (.tuple #[.slice none 0 0, .int .i64 2]) ∧ Keeps w w' := by
  have C := Lib.hid (nil8_Open sv w)
  go_enter Tryz.func72, Tryz.ntmps72
  go_wp2_with fail
  refine C.out.mono ?_
  rintro e w1 ⟨rfl, k1⟩
  go_wp2_with fail
  go_returns
  exact ⟨rfl, k1⟩
theorem nil8_Name (w : World) : Calls Tryz.prog 70 #[.pointer none] w fun e w' => e = .returned (.string ⟨#[]⟩) ∧ Keeps w w' := by
  go_enter Tryz.func70, Tryz.ntmps70
  go_wp2_with fail
  go_ret
  exact ⟨rfl, keeps_refl _⟩
theorem nil8_Pages (w : World) : Calls Tryz.prog 69 #[.pointer none] w fun e w' => e = .returned (.tuple #[.int .i64 0, .int .i64 2]) ∧ Keeps w w' := by
  go_enter Tryz.func69, Tryz.ntmps69
  go_wp2_with fail
  go_returns
  exact ⟨rfl, keeps_refl _⟩
theorem nil8_Read (k : Int) (w : World) : Calls Tryz.prog 68 #[.pointer none, .int .i64 k] w fun e w' => e = .returned (.tuple #[.slice none 0 0, .int .i64 2]) ∧ Keeps w w' := by
  go_enter Tryz.func68, Tryz.ntmps68
  go_wp2_with fail
  go_returns
  exact ⟨rfl, keeps_refl _⟩
theorem nil8_Write (k : Int) (A : Option Addr) (n c : Nat) (w : World) : Calls Tryz.prog 67 #[.pointer none, .int .i64 k, .slice A n c] w fun e w' => e = .returned (.int .i64 2) ∧ Keeps w w' := by
  go_enter Tryz.func67, Tryz.ntmps67
  go_wp2_with fail
  go_ret
  exact ⟨rfl, keeps_refl _⟩
theorem nil8_Sync (w : World) : Calls Tryz.prog 53 #[.pointer none] w fun e w' => e = .returned (.int .i64 2) ∧ Keeps w w' := by
  go_enter Tryz.func53, Tryz.ntmps53
  go_wp2_with fail
  go_ret
  exact ⟨rfl, keeps_refl _⟩
end Go.Proofs.YtkhfffflegiapaaGreatDoor
/- What is done with files of pages, and told: the state and the answers as functions; what 'does' leaves. -/
namespace Go.Proofs.YtkhfffflegiapaaGreatDoor
open Go.RowKit
set_option linter.unusedSimpArgs false
set_option linter.unusedVariables false
set_option maxRecDepth 100000

/-- the disk, the name of the file that is held (or none), and what is told -/
def doS8 (s : Ds) (g : Option (List UInt8)) (o : Op8) : Ds × Option (List UInt8) × Told8 :=
  if o.kind = 0 then ((createS s o.name).1, if (createS s o.name).2 = 0 then some o.name else none, ⟨[], [], 0, if (createS s o.name).2 = 0 then o.name else [], (createS s o.name).2⟩)
  else if o.kind = 1 then (s, if openE s o.name = 0 then some o.name else none, ⟨[], [], 0, if openE s o.name = 0 then o.name else [], openE s o.name⟩)
  else if o.kind = 2 then (s, g, match g with | none => ⟨[], [], 0, [], 2⟩ | some nm => ⟨(readP s nm o.k).1, [], 0, [], (readP s nm o.k).2⟩)
  else if o.kind = 3 then (match g with | none => s | some nm => (writeP s nm o.k o.b).1, g, ⟨o.b, [], 0, [], match g with | none => 2 | some nm => (writeP s nm o.k o.b).2⟩)
  else if o.kind = 4 then (match g with | none => s | some nm => (syncS s nm).1, g, ⟨[], [], 0, [], match g with | none => 2 | some nm => (syncS s nm).2⟩)
  else if o.kind = 5 then (s, g, match g with | none => ⟨[], [], 0, [], 2⟩ | some nm => ⟨[], [], ((sizeS s nm).1 / 256 : Nat), [], (sizeS s nm).2⟩)
  else if o.kind = 6 then (s, g, ⟨[], (badP s o.name).1.map fun (k : Nat) => (k : Int), 0, [], (badP s o.name).2⟩)
  else if o.kind = 7 then ((rawS s o.d.x).1, g, ⟨[], [], 0, [], (rawS s o.d.x).2⟩)
  else (s, g, ⟨[], [], 0, [], 0⟩)
/-- the file that is held, or none -/
def HeldAt (w : World) (b : Nat) (F : Nat → Prop) : Option (List UInt8) → Value → Prop
  | none, fv => fv = .pointer none
  | some nm, fv => ∃ f, fv = .pointer (some ⟨f, 0, none⟩) ∧ PfAt w f b nm ∧ ¬ F f ∧ nm.length ≤ 70000
theorem HeldAt.turn {w w' : World} {b : Nat} {F F' : Nat → Prop} {g : Option (List UInt8)} {fv : Value} (h : HeldAt w b F g fv) (t : Turns w w' F F') : HeldAt w' b F' g fv := by
  cases g with
  | none => exact h
  | some nm =>
    obtain ⟨f, e, h1, h2, h3⟩ := h
    obtain ⟨k1, k2⟩ := h1.turn t h2
    exact ⟨f, e, k1, k2, h3⟩
theorem HeldAt.keep {w w' : World} {b : Nat} {F : Nat → Prop} {g : Option (List UInt8)} {fv : Value} (h : HeldAt w b F g fv) (k : Keeps w w') : HeldAt w' b F g fv := h.turn (Turns.of_keeps k)
def DoneV8 (K : DiskOk) (w0 w : World) (b : Nat) (F : Nat → Prop) (s : Ds) (g : Option (List UInt8)) (o : Op8) (fv0 : Value) (e : Ending) (w' : World) : Prop :=
  ∃ v fv F', e = .returned (.tuple #[v, fv]) ∧ ToldAt w' w.heap.size (doS8 s g o).2.2 v ∧ Have K w0 w' b F' (doS8 s g o).1 ∧ Turns w w' F F' ∧ HeldAt w' b F' (doS8 s g o).2.1 fv ∧ (fv = fv0 ∨ ∀ a, fv = .pointer (some a) → w.heap.size ≤ a.block)
theorem box_third8 (w : World) (x y : Obj) (T : TypeId) (cs : Array Value) : Box (((w.alloc x).alloc y).alloc (.cells cs T)) (w.heap.size + 1 + 1) T cs := by
  have := Box.new ((w.alloc x).alloc y) T cs
  simpa using this
theorem box_mid8 (w : World) (x : Obj) (T : TypeId) (cs : Array Value) (z : Obj) : Box (((w.alloc x).alloc (.cells cs T)).alloc z) (w.heap.size + 1) T cs := (box_snd8 w x T cs).keep (keeps_alloc _ _)
end Go.Proofs.YtkhfffflegiapaaGreatDoor
