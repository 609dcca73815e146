/- The anchor of layer 1's statements answers true. -/
import Derived.Test.YtbbkkbfpojndmaaDoorOctetReads
import Derived.Test.YtbbkkbfpojndmaaDoorRefA
namespace Go.Proofs.YtbbkkbfpojndmaaDoor
open Go.RowKit
set_option linter.unusedSimpArgs false
set_option linter.unusedVariables false

set_option maxHeartbeats 800000 in
theorem works_any (w : World) (hS : Sizes w) :
    Calls Tryd.prog 11 #[] w fun e w' => e = .returned (.bool true) ∧ Keeps w w' := by
  have hS0 : Sizes (w.alloc (.cells #[.int .u8 9] 5)) := hS.keep (keeps_alloc _ _)
  have hB0 : Bs (w.alloc (.cells #[.int .u8 9] 5)) (some ⟨w.heap.size, 0, none⟩) [9] := At.new w _ _ _ (by simp)
  have k0 := keeps_alloc w (.cells #[.int .u8 9] 5)
  go_enter Tryd.func11, Tryd.ntmps11
  go_wp2_with fail
  refine (put_any _ _ _ [9] 66051 2 _ hS0 hB0 rfl (by omega) (by simp)).mono ?_
  rintro e w1 ⟨v1, rfl, o1, k1⟩
  obtain ⟨A1, c1, rfl, hc1, hm1, -, -⟩ := o1.form
  have hB1 : Bs w1 A1 [9, 3, 2] := Own.at_ o1
  have hS1 := hS0.keep k1
  have k01 := keeps_trans k0 k1
  have e1 : ([9] ++ if isSz 2 = true then nb (Int.toNat 2) 66051 else []).length = 3 := by decide
  rw [e1] at hc1 ⊢
  clear o1 hS0 hB0 k0 k1 e1
  go_wp2_with fail
  have g := get_yes A1 3 c1 [9, 3, 2] 1 2 w1 hS1 hB1 rfl hc1 (by omega) rfl (by omega)
  rw [show numAt [9, 3, 2] 1 2 = 515 from rfl] at g
  refine g.mono ?_
  rintro e w' ⟨rfl, rfl⟩
  clear g
  go_wp2_with fail
  refine (edge_any 1 2 3 4294967295 (by omega) (by omega) (by omega) (by omega) _).mono ?_
  rintro e w2 ⟨v2, rfl, o2, k2⟩
  obtain ⟨A2, c2, rfl, hc2, hm2, -, -⟩ := o2.form
  have hB2 : Bs w2 A2 (edgeB 1 2 3 4294967295) := Own.at_ o2
  have hB12 := hB1.keep k2
  have k02 := keeps_trans k01 k2
  rw [edgeB_length] at hc2 ⊢
  clear o2 k2 k01 hB1 hS1
  go_wp2_with fail
  have r := readEdge_yes A2 c2 _ w2 hB2 (edgeB_length _ _ _ _) hc2
  rw [edgeB_0 _ _ _ _ (by omega), edgeB_4 _ _ _ _ (by omega), edgeB_8 _ _ _ _ (by omega), edgeB_16 _ _ _ _ (by omega)] at r
  refine r.mono ?_
  rintro e w3 ⟨rfl, k3⟩
  have hB3 := hB12.keep k3
  have k03 := keeps_trans k02 k3
  clear r k3 hB12 k02 hB2
  have kc := convTo (w3.alloc (.cells #[.int .u32 1, .int .u32 2, .int .u64 3, .int .u32 4294967295] 37)) A1 [9, 3, 2] 3 c1 rfl (hB3.keep (keeps_alloc _ _))
  have ks : ((str [9, 3, 2]).toList == [9, 3, 2]) = true := by rw [str_toList]; rfl
  clear hB3
  go_wp2
  go_ret
  exact ⟨rfl, keeps_trans k03 (keeps_alloc _ _)⟩
end Go.Proofs.YtbbkkbfpojndmaaDoor
