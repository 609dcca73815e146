/- JournalNil. -/
import Derived.Test.YtiohijkelagloaaDoorQLawJr
import Derived.Test.YtiohijkelagloaaDoorDkNil
namespace Go.Proofs.YtiohijkelagloaaDoor
open Go.RowKit
set_option linter.unusedSimpArgs false
set_option linter.unusedVariables false
set_option maxRecDepth 100000

theorem jrOpen_nil (w : World) : Calls Tryd.prog 16 #[.pointer none] w fun e w' => e = .returned (.tuple #[.pointer none, .int .i64 2]) ∧ Keeps w w' := by
  have SZ : Calls Tryd.prog 40 #[.pointer none] w fun e w' => e = .returned (.tuple #[.int .i64 0, .int .i64 2]) ∧ Keeps w w' := by
    have C := Lib.hid (nil_Size ⟨#[106, 111, 117, 114, 110, 97, 108]⟩ w)
    go_enter Tryd.func40, Tryd.ntmps40
    go_wp2_with fail
    refine C.out.mono ?_
    rintro e w1 ⟨rfl, k1⟩
    go_wp2_with fail
    go_returns
    exact ⟨rfl, k1⟩
  have S := Lib.hid SZ
  clear SZ
  go_enter Tryd.func16, Tryd.ntmps16
  go_wp2_with fail
  refine S.out.mono ?_
  rintro e w1 ⟨rfl, k1⟩
  go_wp2_with fail
  go_returns
  exact ⟨rfl, k1⟩
set_option maxHeartbeats 4000000 in
theorem nil9_walk (K : DiskOk) (r : RecS) (n : Int) (w : World) (hZ : K.Z w) (hS : Sizes w) :
    Calls Tryd.prog 4 #[.agg #[.int .u32 (r.kind : Int), .int .u32 (r.a : Int), .int .u32 (r.b : Int)], .int .i64 n] w (Yes9 w) := by
  have WK := Lib.hid (fun (W : World) (q : Keeps w W) => works9 K W (K.keep hZ q) (hS.keep q))
  have A := Lib.hid (fun W => jrAdd_nil r W)
  unfold recC at A
  have k0 := keeps_alloc w (.cells #[.int .u32 (r.kind : Int), .int .u32 (r.a : Int), .int .u32 (r.b : Int)] 43)
  have BX := Box.new w 43 #[.int .u32 (r.kind : Int), .int .u32 (r.a : Int), .int .u32 (r.b : Int)]
  clear hZ hS
  go_enter Tryd.func4, Tryd.ntmps4
  go_wp2_with fail
  refine (jrOpen_nil _).mono ?_
  rintro e w1 ⟨rfl, k1⟩
  have b1 := BX.keep k1
  have c0 := b1.cell 0 rfl
  have c1 := b1.cell 1 rfl
  have c2 := b1.cell 2 rfl
  go_wp2_with fail
  refine (A.out _).mono ?_
  rintro e w2 ⟨rfl, k2⟩
  go_wp2_with fail
  refine (jrBack_nil n _).mono ?_
  rintro e w3 ⟨rfl, k3⟩
  go_wp2_with fail
  refine (jrRecs_nil _).mono ?_
  rintro e w4 ⟨rfl, k4⟩
  have K4 := Lib.hid (keeps_trans k0 (keeps_trans (keeps_trans k1 k2) (keeps_trans k3 k4)))
  go_wp2_with fail
  refine (WK.out _ K4.out).mono ?_
  rintro e w5 ⟨rfl, k5⟩
  go_wp2_with fail
  go_ret
  exact ⟨rfl, keeps_trans K4.out k5⟩
end Go.Proofs.YtiohijkelagloaaDoor
