/- PoolNil. -/
import Derived.Test.YtkhfffflegiapaaGreatDoorQPoolNil
namespace Go.Proofs.YtkhfffflegiapaaGreatDoor
open Go.RowKit
set_option linter.unusedSimpArgs false
set_option linter.unusedVariables false
set_option maxRecDepth 100000

theorem ops10_one {w : World} {o : Op10} (h : Op10Ok w o) : Ops10At (w.alloc (.cells (op10C o).toArray 24)) (some ⟨w.heap.size, 0, none⟩) [o] := by
  refine ⟨?_, fun x hx => ?_⟩
  · have := At.new w (op10C o) 24 (w.alloc (.cells (op10C o).toArray 24)).heap.size (by simp)
    simpa using this
  · obtain rfl := List.mem_singleton.1 hx
    exact h.keep_ (keeps_alloc _ _)
set_option maxHeartbeats 8000000 in
theorem nil10_walk (K : DiskOk) (PK : PageOk) (o : Op10) (w : World) (hZ : K.Z w) (hS : Sizes w) (ho : Op10Ok w o) :
    Calls Tryz.prog 3 #[.agg (op10C o).toArray] w (Yes10 w) := by
  have k0 := keeps_alloc w (.cells (op10C o).toArray 24)
  have bx := Box.new w 24 (op10C o).toArray
  have WK := Lib.hid (fun (W : World) (q : Keeps w W) => works10 K PK W (K.keep hZ q) (hS.keep q))
  have VB := Lib.hid (vast10_any 1 (some ⟨(w.alloc (.cells (op10C o).toArray 24)).heap.size, 0, none⟩) 1 1 [o] _ (ops10_one (ho.keep_ k0)) rfl (by decide))
  have hs : (w.alloc (.cells (op10C o).toArray 24)).heap.size = w.heap.size + 1 := by simp
  rw [hs] at VB
  have HO := Lib.hid ho
  have K0 := Lib.hid k0
  have BX := Lib.hid bx
  have N0 := Lib.hid (fun V => nil10_new V 4)
  have N1 := Lib.hid nil10_held
  have N2 := Lib.hid nil10_peak
  have N3 := Lib.hid nil10_disk
  have N4 := Lib.hid nil10_frames
  clear hZ hS ho k0 bx hs
  unfold op10C at *
  go_enter Tryz.func3, Tryz.ntmps3
  have b0 := BX.out.cell 0 rfl
  have b1 := BX.out.cell 1 rfl
  have b2 := BX.out.cell 2 rfl
  have b3 := BX.out.cell 3 rfl
  go_wp2_with fail
  refine VB.out.mono ?_
  rintro e w2 ⟨v2, rfl, k2, hv2⟩
  have kA := keeps_trans K0.out (keeps_trans (keeps_alloc _ _) k2)
  have B2 := Lib.hid ((BX.out.keep (keeps_alloc _ _)).keep k2)
  have K2 := Lib.hid kA
  clear k2 kA b0 b1 b2 b3
  rcases v2 with _ | _
  · have F1 := Lib.hid ((hv2 rfl).1.each o (List.mem_singleton.2 rfl))
    clear hv2
    go_wp2_with fail
    refine (N0.out _).mono ?_
    rintro e w3 ⟨rfl, k3⟩
    have K3 := Lib.hid k3
    clear k3
    go_wp2_with fail
    refine (N1.out _).mono ?_
    rintro e w4 ⟨rfl, k4⟩
    have K4 := Lib.hid (keeps_trans K3.out k4)
    clear k4
    go_wp2_with fail
    refine (N2.out _).mono ?_
    rintro e w5 ⟨rfl, k5⟩
    have K5 := Lib.hid (keeps_trans K4.out k5)
    clear k5
    go_wp2_with fail
    refine (N3.out _).mono ?_
    rintro e w6 ⟨rfl, k6⟩
    have K6 := Lib.hid (keeps_trans K5.out k6)
    clear k6
    go_wp2_with fail
    refine (N4.out _).mono ?_
    rintro e w7 ⟨rfl, k7⟩
    have K7 := Lib.hid (keeps_trans K6.out k7)
    have b0 := (B2.out.keep K7.out).cell 0 rfl
    have b1 := (B2.out.keep K7.out).cell 1 rfl
    have b2 := (B2.out.keep K7.out).cell 2 rfl
    have b3 := (B2.out.keep K7.out).cell 3 rfl
    have KK := Lib.hid (keeps_trans K2.out K7.out)
    clear k7
    by_cases h0 : 0 ≤ o.kind ∧ o.kind ≤ 7
    · obtain ⟨q0, q1⟩ := h0
      have OK := HO.out.keep_ KK.out
      have DO := Lib.hid (does10_nil w7 (str o.name) o.kind o.k q0 q1 o.A o.len o.c o.b OK.len (by have := F1.out.1; omega) OK.b)
      clear OK
      go_wp2_with fail
      refine DO.out.mono ?_
      rintro e w8 ⟨A8, n8, c8, rfl, k8⟩
      have K8 := Lib.hid (keeps_trans KK.out k8)
      clear k8
      go_wp2_with fail
      refine (WK.out _ (keeps_trans K8.out (keeps_alloc _ _))).mono ?_
      rintro e w9 ⟨rfl, k9⟩
      have K9 := Lib.hid (keeps_trans (keeps_trans K8.out (keeps_alloc _ _)) k9)
      clear k9
      go_wp2_with fail
      go_ret
      exact ⟨rfl, K9.out⟩
    · by_cases h1 : 0 ≤ o.kind
      · have h2 : 7 < o.kind := by omega
        clear h0
        go_wp2_with fail
        refine (WK.out _ KK.out).mono ?_
        rintro e w9 ⟨rfl, k9⟩
        have K9 := Lib.hid (keeps_trans KK.out k9)
        clear k9
        go_wp2_with fail
        go_ret
        exact ⟨rfl, K9.out⟩
      · clear h0
        go_wp2_with fail
        refine (WK.out _ KK.out).mono ?_
        rintro e w9 ⟨rfl, k9⟩
        have K9 := Lib.hid (keeps_trans KK.out k9)
        clear k9
        go_wp2_with fail
        go_ret
        exact ⟨rfl, K9.out⟩
  · clear hv2
    go_wp2_with fail
    refine (WK.out _ K2.out).mono ?_
    rintro e w9 ⟨rfl, k9⟩
    have K9 := Lib.hid (keeps_trans K2.out k9)
    clear k9
    go_wp2_with fail
    go_ret
    exact ⟨rfl, K9.out⟩
end Go.Proofs.YtkhfffflegiapaaGreatDoor
