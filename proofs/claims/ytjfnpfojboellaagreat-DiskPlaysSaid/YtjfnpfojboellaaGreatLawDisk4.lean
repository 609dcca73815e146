/- The anchor of layer 6's statements. -/
import Derived.Test.YtjfnpfojboellaaGreatLawDisk3
namespace Go.Proofs.YtjfnpfojboellaaGreat
open Go.RowKit
set_option linter.unusedSimpArgs false
set_option linter.unusedVariables false
set_option maxRecDepth 100000

def wk1 : Ds := (createS ⟨[], 4, 0, false⟩ [97]).1
def wk2 : Ds := (writeS wk1 [97] 0 [7, 8]).1
def wk3 : Ds := (syncS wk2 [97]).1
theorem wk_a : (createS ⟨[], 4, 0, false⟩ [97]).2 = 0 := by decide
theorem wk_b : (writeS wk1 [97] 0 [7, 8]).2 = 0 := by decide
theorem wk_c : (syncS wk2 [97]).2 = 0 := by decide
theorem wk_d : readS wk3 [97] 1 9 = ([8], 0) := by decide
theorem wk_e : usedL wk3.l = 1 := by decide
theorem strA : strV [97] = .string (ByteArray.mk #[97]) := rfl
set_option maxHeartbeats 8000000 in
theorem works6 (K : DiskOk) (w : World) (hZ : K.Z w) : Calls Tryz.prog 5 #[] w (Yes w) := by
  have N := Lib.hid (K.new 4 w hZ (by decide) (by decide))
  have HZ := Lib.hid hZ
  clear hZ
  go_enter Tryz.func5, Tryz.ntmps5
  go_wp2_with fail
  refine N.out.mono ?_
  rintro e w1 (⟨-, -, b, F, rfl, hD, hF, k1⟩ | ⟨h, -⟩)
  · have HV : Have K w w1 b F ⟨[], 4, 0, false⟩ := ⟨hD, hF, k1⟩
    have C1 := Lib.hid (K.create [97] (HV.z HZ.out) HV.D (by decide))
    rw [wk_a] at C1
    have V1 := Lib.hid HV
    clear HV hD hF k1
    unfold dpt at *
    rw [strA] at C1
    go_wp2_with fail
    refine C1.out.mono ?_
    rintro e w2 ⟨rfl, F2, hD, hT⟩
    have V2 := Lib.hid (V1.out.step hD hT)
    clear hD hT
    have kb := keeps_alloc w2 (.cells #[.int .u8 7, .int .u8 8] 5)
    have B2 : At (w2.alloc (.cells #[.int .u8 7, .int .u8 8] 5)) (w2.alloc (.cells #[.int .u8 7, .int .u8 8] 5)).heap.size (some ⟨w2.heap.size, 0, none⟩) (cel [7, 8]) := At.new w2 (cel [7, 8]) 5 _ (by simp)
    have C2 := Lib.hid (K.write (s := wk1) [97] 0 (some ⟨w2.heap.size, 0, none⟩) 2 2 [7, 8] (K.keep (V2.out.z HZ.out) kb) (V2.out.keep kb).D (by decide) (by decide) (by decide) B2 (fun ad ha hf => by cases ha; have := K.lt V2.out.D _ hf; simp at this) rfl (by decide) (by decide))
    rw [wk_b, strA] at C2
    unfold dpt at C2
    have V2' := Lib.hid (V2.out.keep kb)
    clear B2 kb
    go_wp2_with fail
    refine C2.out.mono ?_
    rintro e w3 ⟨rfl, F3, hD, hT⟩
    have V3 := Lib.hid (V2'.out.step hD hT)
    clear hD hT
    have C3 := Lib.hid (K.sync (s := wk2) [97] (V3.out.z HZ.out) V3.out.D (by decide))
    rw [wk_c, strA] at C3
    unfold dpt at C3
    go_wp2_with fail
    refine C3.out.mono ?_
    rintro e w4 ⟨rfl, F4, hD, hT⟩
    have V4 := Lib.hid (V3.out.step hD hT)
    clear hD hT
    have C4 := Lib.hid (K.read (s := wk3) [97] 1 9 (V4.out.z HZ.out) V4.out.D (by decide) (by decide) (by decide) (by decide) (by decide))
    rw [wk_d, strA] at C4
    unfold dpt at C4
    go_wp2_with fail
    refine C4.out.mono ?_
    rintro e w5 ⟨v5, rfl, o5, k5⟩
    have V5 := Lib.hid (V4.out.keep k5)
    obtain ⟨A5, c5, rfl, hc5, -⟩ := o5.form
    obtain ⟨g, rfl, hcell, -⟩ := o5.cell (j := 0) (by decide)
    have hcell' : w5.cell? ⟨g, 0, none⟩ = some (.int .u8 8) := hcell
    have C5 := Lib.hid (K.used (s := wk3) (V5.out.z HZ.out) V5.out.D)
    rw [wk_e] at C5
    unfold dpt at C5
    clear o5 hcell k5 hc5
    go_wp2_with fail
    refine C5.out.mono ?_
    rintro e w6 ⟨rfl, k6⟩
    go_wp2_with fail
    go_ret
    exact ⟨rfl, keeps_trans V5.out.kp k6⟩
  · exfalso; omega
end Go.Proofs.YtjfnpfojboellaaGreat
