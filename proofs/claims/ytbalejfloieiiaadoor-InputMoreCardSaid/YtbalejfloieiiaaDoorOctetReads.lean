/- The contracts of package octet: rows of numbers, read. -/
import Derived.Test.YtbalejfloieiiaaDoorOctetRows
namespace Go.Proofs.YtbalejfloieiiaaDoor
open Go.RowKit
set_option linter.unusedSimpArgs false
set_option linter.unusedVariables false
set_option maxRecDepth 100000

theorem flip_ {P : Program} {f : FuncId} {args : Array Value} {w : World} {v : Value} (h : Calls P f args w fun e w' => e = .returned v ∧ w = w') : Calls P f args w fun e w' => e = .returned v ∧ w' = w :=
  h.mono fun _ _ h => ⟨h.1, h.2.symm⟩

/-- What a row's reader leaves. -/
def Read2 (w : World) (T : Value) (e : Ending) (w' : World) : Prop := e = .returned T ∧ Keeps w w'

theorem Bs.drewAlloc {w : World} {A : Option Addr} {l : List UInt8} (h : Bs w A l) (o : Obj) : Bs (w.alloc o).drew A l := h.keep (keeps_trans (keeps_alloc w o) (keeps_drew _))

set_option maxHeartbeats 400000 in
theorem readEdge_no (A : Option Addr) (n c : Nat) (w : World) (hn : n ≠ 20) :
    Calls Tryd.prog 75 #[.slice A n c] w (Read2 w (.tuple #[.agg #[.int .u32 0, .int .u32 0, .int .u64 0, .int .u32 0], .int .i64 8])) := by
  have hne : ((n : Int) != 20) = true := by simp; omega
  go_enter Tryd.func75, Tryd.ntmps75
  go_wp2
  go_returns
  exact ⟨rfl, keeps_alloc _ _⟩

set_option maxHeartbeats 800000 in
theorem readEdge_yes (A : Option Addr) (c : Nat) (l : List UInt8) (w : World) (hB : Bs w A l) (hl : l.length = 20) (hc : 20 ≤ c) :
    Calls Tryd.prog 75 #[.slice A 20 c] w (Read2 w (.tuple #[.agg #[.int .u32 (numAt l 0 4), .int .u32 (numAt l 4 4), .int .u64 (numAt l 8 8), .int .u32 (numAt l 16 4)], .int .i64 0])) := by
  obtain ⟨ad, rfl⟩ := hB.some_ (by omega)
  have hW := hB.drewAlloc (.cells #[.int .u32 0, .int .u32 0, .int .u64 0, .int .u32 0] 31)
  have hlen : ∀ k s, k + s ≤ 20 → ((l.drop k).take s).length = s := fun k s h => by rw [List.length_take, List.length_drop]; omega
  have F0 := (hW.drop 0).take 4
  rw [Addr.add_zero' ad] at F0
  have G0 := Lib.hid F0
  clear F0
  have F4 := (hW.drop 4).take 4
  rw [Addr.add_succ' ad 3] at F4
  have G4 := Lib.hid F4
  clear F4
  have F8 := (hW.drop 8).take 8
  rw [Addr.add_succ' ad 7] at F8
  have G8 := Lib.hid F8
  clear F8
  have F16 := (hW.drop 16).take 4
  rw [Addr.add_succ' ad 15] at F16
  have G16 := Lib.hid F16
  clear F16
  have HL := Lib.hid hlen
  clear hB hW hlen
  have b4 : (4 : Int) ≤ (c : Int) := by omega
  have b8 : (8 : Int) ≤ (c : Int) := by omega
  have m4 : ¬ c = 4 := by omega
  have b16 : (16 : Int) ≤ (c : Int) := by omega
  have m8 : ¬ c = 8 := by omega
  have b20 : (20 : Int) ≤ (c : Int) := by omega
  have m16 : ¬ c = 16 := by omega
  go_enter Tryd.func75, Tryd.ntmps75
  go_wp2
  refine wp_region_still_tail 13 (by kernel_rfl) (by kernel_rfl) ?_
  change wpStill _ _ (World.drew (w.alloc (.cells #[.int .u32 0, .int .u32 0, .int .u64 0, .int .u32 0] 31))) _ _ _
  simp only [List.take_succ_cons, List.take_zero, List.drop_succ_cons, List.drop_zero]
  still_step
  still_step
  still_call (flip_ (join32_any _ _ _ _ G0.out (by rw [HL.out _ _ (by omega)]; omega) _ (HL.out _ _ (by omega)).symm))
  still_step
  still_step
  still_call (flip_ (join32_any _ _ _ _ G4.out (by rw [HL.out _ _ (by omega)]; omega) _ (HL.out _ _ (by omega)).symm))
  still_step
  still_step
  still_call (flip_ (join64_any _ _ _ _ G8.out (by rw [HL.out _ _ (by omega)]; omega) _ (HL.out _ _ (by omega)).symm))
  still_step
  still_step
  still_call (flip_ (join32_any _ _ _ _ G16.out (by rw [HL.out _ _ (by omega)]; omega) _ (HL.out _ _ (by omega)).symm))
  repeat still_step
  refine wpStill_nil ?_
  change wpList _ _ _ _ _ (World.drew (w.alloc (.cells #[.int .u32 0, .int .u32 0, .int .u64 0, .int .u32 0] 31)))
  go_wp2
  go_returns
  exact ⟨by simp [numAt], keeps_trans (keeps_alloc _ _) (keeps_drew _)⟩

end Go.Proofs.YtbalejfloieiiaaDoor
