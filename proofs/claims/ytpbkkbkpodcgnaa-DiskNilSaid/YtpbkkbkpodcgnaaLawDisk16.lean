/- DiskNil. -/
import Derived.Test.YtpbkkbkpodcgnaaLawNil
import Derived.Test.YtpbkkbkpodcgnaaLawDisk13
namespace Go.Proofs.Ytpbkkbkpodcgnaa
open Go.RowKit
set_option linter.unusedSimpArgs false
set_option linter.unusedVariables false
set_option maxRecDepth 100000

set_option maxHeartbeats 8000000 in
theorem nil6_walk (K : DiskOk) (o : OpS) (w : World) (hZ : K.Z w) (ho : OpOk w o) :
    Calls Try.prog 3 #[.agg (opA o)] w (Yes w) := by
  have k0 := keeps_alloc w (.cells (opA o) 25)
  have bx := Box.new w 25 (opA o)
  have WK := Lib.hid (fun (W : World) (q : Keeps w W) => works6 K W (K.keep hZ q))
  have VB := Lib.hid (vast_any (some ⟨(w.alloc (.cells (opA o) 25)).heap.size, 0, none⟩) 1 1 [o] _ (opsAt_one (ho.keep_ k0)) rfl (by decide))
  have hs : (w.alloc (.cells (opA o) 25)).heap.size = w.heap.size + 1 := by simp
  rw [hs] at VB
  have HO := Lib.hid ho
  have K0 := Lib.hid k0
  have BX := Lib.hid bx
  clear hZ ho k0 bx hs
  unfold opA at *
  go_enter Try.func3, Try.ntmps3
  have b0 := BX.out.cell 0 rfl
  have b1 := BX.out.cell 1 rfl
  have b2 := BX.out.cell 2 rfl
  have b3 := BX.out.cell 3 rfl
  have b4 := BX.out.cell 4 rfl
  have b5 := BX.out.cell 5 rfl
  have b6 := BX.out.cell 6 rfl
  have b7 := BX.out.cell 7 rfl
  go_wp2_with fail
  refine VB.out.mono ?_
  rintro e w2 ⟨v2, rfl, k2, hv2⟩
  have kA := keeps_trans K0.out (keeps_trans (keeps_alloc _ _) k2)
  have B2 := Lib.hid ((BX.out.keep (keeps_alloc _ _)).keep k2)
  have K2 := Lib.hid kA
  clear k2 kA b0 b1 b2 b3 b4 b5 b6 b7
  have b0 := B2.out.cell 0 rfl
  have b1 := B2.out.cell 1 rfl
  have b2 := B2.out.cell 2 rfl
  have b3 := B2.out.cell 3 rfl
  have b4 := B2.out.cell 4 rfl
  have b5 := B2.out.cell 5 rfl
  have b6 := B2.out.cell 6 rfl
  have b7 := B2.out.cell 7 rfl
  rcases v2 with _ | _
  · have F1 := Lib.hid ((hv2 rfl).each o (List.mem_singleton.2 rfl))
    clear hv2
    have DO := Lib.hid (Nil.does_nil o (HO.out.keep_ K2.out) (by have := F1.out.1; omega) (by have := F1.out.2.1; omega))
    unfold opA at DO
    go_wp2_with fail
    refine DO.out.mono ?_
    rintro e w3 ⟨A3, c3, E, rfl, k3, hE⟩
    have B3 := Lib.hid (B2.out.keep k3)
    have K3 := Lib.hid (keeps_trans K2.out k3)
    clear k3 b0 b1 b2 b3 b4 b5 b6 b7
    have b0 := (B3.out.keep (keeps_alloc w3 (.cells #[.slice A3 0 c3, .int .i64 0, .int .i64 E] 32))).cell 0 rfl
    have BT := Box.new w3 32 #[.slice A3 0 c3, .int .i64 0, .int .i64 E]
    have t0 := BT.cell 0 rfl
    have t1 := BT.cell 1 rfl
    have t2 := BT.cell 2 rfl
    clear BT
    have NN := Lib.hid (fun W => nil_Names W)
    have NL := Lib.hid (fun W => nil_Loose W)
    have NF := Lib.hid (fun W => nil_Files W)
    have NU := Lib.hid (fun W => nil_Used W)
    have ND := Lib.hid (fun W => nil_Dead W)
    have ways : (0 ≤ o.x.kind ∧ o.x.kind ≤ 11 ∧ E = 2) ∨ (0 ≤ o.x.kind ∧ ¬ o.x.kind ≤ 11) ∨ ¬ 0 ≤ o.x.kind := by
      by_cases h1 : 0 ≤ o.x.kind
      · by_cases h2 : o.x.kind ≤ 11
        · exact .inl ⟨h1, h2, hE ⟨h1, h2⟩⟩
        · exact .inr (.inl ⟨h1, h2⟩)
      · exact .inr (.inr h1)
    clear hE
    rcases ways with ⟨h1, h2, rfl⟩ | ⟨h1, h2⟩ | h1
    all_goals
      go_wp2_with fail
      refine (NN.out _).mono ?_
      rintro e w4 ⟨rfl, k4⟩
      have K4 := Lib.hid (keeps_trans K3.out (keeps_trans (keeps_alloc _ _) k4))
      clear k4
      go_wp2_with fail
      refine (NL.out _).mono ?_
      rintro e w5 ⟨rfl, k5⟩
      have K5 := Lib.hid (keeps_trans K4.out k5)
      clear k5
      go_wp2_with fail
      refine (NF.out _).mono ?_
      rintro e w6 ⟨rfl, k6⟩
      have K6 := Lib.hid (keeps_trans K5.out k6)
      clear k6
      go_wp2_with fail
      refine (NU.out _).mono ?_
      rintro e w7 ⟨rfl, k7⟩
      have K7 := Lib.hid (keeps_trans K6.out k7)
      clear k7
      go_wp2_with fail
      refine (ND.out _).mono ?_
      rintro e w8 ⟨rfl, k8⟩
      have K8 := Lib.hid (keeps_trans K7.out k8)
      clear k8
      go_wp2_with fail
      refine (WK.out _ K8.out).mono ?_
      rintro e w9 ⟨rfl, k9⟩
      go_wp2_with fail
      go_ret
      exact ⟨rfl, keeps_trans K8.out k9⟩
  · clear hv2
    go_wp2_with fail
    refine (WK.out _ K2.out).mono ?_
    rintro e w3 ⟨rfl, k3⟩
    go_wp2_with fail
    go_ret
    exact ⟨rfl, keeps_trans K2.out k3⟩
end Go.Proofs.Ytpbkkbkpodcgnaa
