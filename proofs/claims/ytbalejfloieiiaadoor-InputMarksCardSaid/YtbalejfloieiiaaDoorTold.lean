/- Practice: what an error of the package's own tells, found by errors.As. -/
import Derived.Test.YtbalejfloieiiaaDoorAsVal
import Derived.Test.YtbalejfloieiiaaDoorBox
import Derived.BigQuiet
namespace Go.Proofs.YtbalejfloieiiaaDoor
open Go.RowKit
set_option linter.unusedSimpArgs false
set_option linter.unusedVariables false
set_option maxRecDepth 100000

theorem told_none (w : World) : Calls Tryd.prog 33 #[.nilIface] w fun e w' => e = .returned (.tuple #[.int .i64 0, .int .i64 0]) ∧ Keeps w w' := by
  have k0 := keeps_alloc w (.cells #[.int .i64 0, .int .i64 0] 88)
  go_enter Tryd.func33, Tryd.ntmps33
  go_wp2_with fail
  refine (as_nil _ _).mono ?_
  rintro e w1 ⟨rfl, rfl⟩
  go_wp2_with fail
  go_ret2
  exact ⟨rfl, k0⟩
theorem keeps_four (w : World) (a b c d : Obj) : Keeps w ((((w.alloc a).alloc b).alloc c).alloc d) := keeps_trans (keeps_trans (keeps_trans (keeps_alloc _ _) (keeps_alloc _ _)) (keeps_alloc _ _)) (keeps_alloc _ _)
theorem below_two {w W : World} {B g i j : Nat} (h : Keeps w W) (hB : B ≤ w.heap.size) (hg : B ≤ g) (u v : Value) : Below B w ((W.setCell ⟨g, i, none⟩ u).setCell ⟨g, j, none⟩ v) := by
  have k' := h.mono hB
  refine ⟨k'.os, k'.tape, k'.output, by simpa using k'.size, fun q hq => ?_⟩
  have hne : q ≠ g := by omega
  rw [Below.heap_setCell _ ⟨g, j, none⟩ _ q hne, Below.heap_setCell _ ⟨g, i, none⟩ _ q hne]
  exact k'.block q hq
theorem box_two {w W : World} {b : Nat} {T : TypeId} {o0 o1 : Value} (h : Box w b T #[o0, o1]) (k : Keeps w W) (u v : Value) : Box ((W.setCell ⟨b, 0, none⟩ u).setCell ⟨b, 1, none⟩ v) b T #[u, v] := by
  simpa using ((h.keep k).set 0 u).set 1 v
/-- errors.As at a variable of the call's own: it holds the error then, and nothing below it has turned -/
theorem as_found {T : TypeId} (x0 x1 : Int) (tb : Nat) (o0 o1 : Value) (w : World) (hH : Handle w) (hb : Box w tb T #[o0, o1]) :
    Calls Tryd.prog 54 #[.iface 88 (.agg #[.int .i64 x0, .int .i64 x1]), .iface 92 (.pointer (some ⟨tb, 0, none⟩))] w fun ev w' => ev = .returned (.bool true) ∧ Box w' tb T #[.int .i64 x0, .int .i64 x1] ∧ Below tb w w' := by
  refine (as_hit x0 x1 tb o0 o1 w hH (hb.cell 0 rfl) (hb.cell 1 rfl) (hb.frozen 0) (hb.frozen 1)).mono ?_
  rintro e w' ⟨rfl, rfl⟩
  exact ⟨rfl, box_two hb (keeps_four _ _ _ _ _) _ _, below_two (keeps_four _ _ _ _ _) (Nat.le_of_lt hb.lt) (Nat.le_refl _) _ _⟩
set_option maxHeartbeats 4000000 in
theorem told_some (k p : Int) (w : World) (hH : Handle w) : Calls Tryd.prog 33 #[.iface 88 (.agg #[.int .i64 k, .int .i64 p])] w fun e w' => e = .returned (.tuple #[.int .i64 k, .int .i64 p]) ∧ Keeps w w' := by
  have k0 := keeps_alloc w (.cells #[.int .i64 0, .int .i64 0] 88)
  have B0 := Box.new w 88 #[.int .i64 0, .int .i64 0]
  have AS := Lib.hid (as_found k p w.heap.size (.int .i64 0) (.int .i64 0) _ (hH.keep k0) B0)
  have K0 := Lib.hid k0
  clear B0 k0
  go_enter Tryd.func33, Tryd.ntmps33
  go_wp2_with fail
  generalize w.alloc (.cells #[.int .i64 0, .int .i64 0] 88) = W0 at *
  refine AS.out.mono ?_
  rintro e w1 ⟨rfl, B1, k1⟩
  have c0 := B1.cell 0 rfl
  have c1 := B1.cell 1 rfl
  have K1 := Lib.hid (Below.trans K0.out k1)
  go_wp2_with fail
  go_quiet (fail)
  go_wp2_with fail
  go_ret2
  exact ⟨rfl, keeps_trans K1.out (keeps_drewN _ _)⟩
end Go.Proofs.YtbalejfloieiiaaDoor
