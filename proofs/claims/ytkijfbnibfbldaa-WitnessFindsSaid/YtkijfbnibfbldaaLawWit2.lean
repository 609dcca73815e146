/- Layer 14's statements: WitnessMore. -/
import Derived.Test.YtkijfbnibfbldaaLawWit1
namespace Go.Proofs.Ytkijfbnibfbldaa
open Go.RowKit
set_option linter.unusedSimpArgs false
set_option linter.unusedVariables false
set_option maxRecDepth 100000

theorem Ans.zero {o : Outs} {av : Nat → Bool} {to most : Nat} {S : List Nat} {W : Wt} {r : Answ} (h : Ans o av to most S W r) (hr : r.2.1 = true) : r.2.2 = 0 := by
  induction h with
  | none S => rfl
  | far l c => rfl
  | yes l a b c => rfl
  | err l a b c e => cases hr
  | go l a b c e _ ih => exact ih hr
set_option maxHeartbeats 8000000 in
theorem more14_walk (K : HeapOk) (w : World) (x : WNet) (hx : WNetOk w x) (y : AskS) (hy : AskOk y) (more : Nat) (hmore : more < 18446744073709551616) : Calls Try.prog 5 #[.agg x.cells, .agg #[.int .u32 (y.fr : Int), .int .u32 (y.to : Int), .int .u64 (y.most : Int)], .int .u64 (more : Int)] w (Yes w) := by
  have WK := Lib.hid (works14 K)
  have LG := Lib.hid (large_any x)
  obtain ⟨fr, to, most⟩ := y
  obtain ⟨y1, y2, y3⟩ := hy
  simp only at y1 y2 y3 ⊢
  obtain ⟨W1, h1⟩ : ∃ W, W = w.alloc (.cells x.cells 25) := ⟨_, rfl⟩
  obtain ⟨W2, h2⟩ : ∃ W, W = W1.alloc (.cells #[.int .u32 (fr : Int), .int .u32 (to : Int), .int .u64 (most : Int)] 29) := ⟨_, rfl⟩
  obtain ⟨BN, BA, k2⟩ := boxes14 w x fr to most h1 h2
  have AC := Lib.hid (ask_cells BA)
  have K2 := Lib.hid k2
  have HX2 := Lib.hid (hx.keep k2)
  have FN := Lib.hid (fun (hl : largeN x = false) (m : Nat) (hm : m < 18446744073709551616) (V : World) (kk : Keeps W2 V) => netFind_any K (BN.keep kk) ((hx.keep k2).keep kk) (largeN_false hl).1 (largeN_false hl).2.1 (largeN_false hl).2.2 fr to m y1 y2 hm)
  have NC := Lib.hid (fun V (k : Keeps W2 V) => show V.cell? ⟨w.heap.size, 0, none⟩ = some (.slice x.Ae x.E.length x.ce) ∧ V.cell? ⟨w.heap.size, 1, none⟩ = some (.slice x.Ab x.B.length x.cb) ∧ V.cell? ⟨w.heap.size, 2, none⟩ = some (.slice x.As x.Z.length x.cs) ∧ w.heap.size < V.heap.size from ⟨(BN.keep k).cell 0 rfl, (BN.keep k).cell 1 rfl, (BN.keep k).cell 2 rfl, (BN.keep k).lt⟩)
  have HEQ := Lib.hid (show W2 = (w.alloc (.cells x.cells 25)).alloc (.cells #[.int .u32 (fr : Int), .int .u32 (to : Int), .int .u64 (most : Int)] 29) by rw [h2, h1])
  have Y3 := Lib.hid y3
  have YM := Lib.hid hmore
  obtain ⟨lg, hlg⟩ : ∃ lg, largeN x = lg := ⟨_, rfl⟩
  rw [hlg] at LG FN
  unfold WNet.cells at HEQ LG ⊢
  clear hx h1 h2 BN BA k2 y1 y2 y3 hmore hlg
  obtain ⟨a0, a1, a2, la⟩ := AC.out _ (keeps_refl _)
  obtain ⟨n0, n1, n2, ln⟩ := NC.out _ (keeps_refl _)
  rw [HEQ.out] at a0 a1 a2 la n0 n1 n2 ln
  cases lg with
  | true =>
    go_enter Try.func5, Try.ntmps5
    go_wp2_with fail
    rw [← HEQ.out] at a0 a1 a2 la n0 n1 n2 ln ⊢
    refine (LG.out _).mono ?_
    rintro e w3 ⟨rfl, k3⟩
    have K3 := Lib.hid k3
    clear a0 a1 a2 la n0 n1 n2 ln k3
    go_wp2_with fail
    refine (WK.out _).mono ?_
    rintro e w4 ⟨rfl, k4⟩
    go_wp2_with fail
    go_ret
    exact ⟨rfl, keeps_trans K2.out (keeps_trans K3.out k4)⟩
  | false =>
    by_cases hlt : more < most
    · have d1 : decide ((more : Int) < (most : Int)) = true := decide_eq_true (by omega)
      have d2 : decide (more < most) = true := decide_eq_true hlt
      clear hlt
      go_enter Try.func5, Try.ntmps5
      go_wp2_with fail
      rw [← HEQ.out] at a0 a1 a2 la n0 n1 n2 ln ⊢
      refine (LG.out _).mono ?_
      rintro e w3 ⟨rfl, k3⟩
      have K3 := Lib.hid k3
      clear a0 a1 a2 la n0 n1 n2 ln k3
      obtain ⟨a0, a1, a2, la⟩ := AC.out _ K3.out
      go_wp2_with fail
      refine (WK.out _).mono ?_
      rintro e w4 ⟨rfl, k4⟩
      go_wp2_with fail
      go_ret
      exact ⟨rfl, keeps_trans K2.out (keeps_trans K3.out k4)⟩
    · have d1 : decide ((more : Int) < (most : Int)) = false := decide_eq_false (by omega)
      have d2 : decide (more < most) = false := decide_eq_false hlt
      have HLE := Lib.hid (show most ≤ more by omega)
      clear hlt
      go_enter Try.func5, Try.ntmps5
      go_wp2_with fail
      rw [← HEQ.out] at a0 a1 a2 la n0 n1 n2 ln ⊢
      refine (LG.out _).mono ?_
      rintro e w3 ⟨rfl, k3⟩
      have K3 := Lib.hid k3
      clear a0 a1 a2 la n0 n1 n2 ln k3
      obtain ⟨a0, a1, a2, la⟩ := AC.out _ K3.out
      go_wp2_with fail
      refine (FN.out (by trivial) most Y3.out _ K3.out).mono ?_
      rintro e w4 ⟨⟨ra, rb, rc⟩, rfl, hA, k4⟩
      have K4 := Lib.hid (keeps_trans K3.out k4)
      have HA := Lib.hid hA
      clear a0 a1 a2 la k4 hA
      obtain ⟨a0, a1, a2, la⟩ := AC.out _ K4.out
      go_wp2_with fail
      refine (FN.out (by trivial) more YM.out _ K4.out).mono ?_
      rintro e w5 ⟨⟨qa, qb, qc⟩, rfl, hB, k5⟩
      have K5 := Lib.hid (keeps_trans K4.out k5)
      clear a0 a1 a2 la k5
      cases rb with
      | false =>
        clear hB
        go_wp2_with fail
        refine (WK.out _).mono ?_
        rintro e w6 ⟨rfl, k6⟩
        go_wp2_with fail
        go_ret
        exact ⟨rfl, keeps_trans K2.out (keeps_trans K5.out k6)⟩
      | true =>
        have hrc : rc = 0 := HA.out.zero rfl
        have hq := (HA.out.more HLE.out rfl).one (List.Perm.refl _) (by simp [Onces]) hB
        simp only [Prod.mk.injEq] at hq
        obtain ⟨rfl, rfl, rfl⟩ := hq
        subst hrc
        clear hB
        go_wp2_with fail
        refine (WK.out _).mono ?_
        rintro e w6 ⟨rfl, k6⟩
        go_wp2_with fail
        go_ret
        exact ⟨rfl, keeps_trans K2.out (keeps_trans K5.out k6)⟩
end Go.Proofs.Ytkijfbnibfbldaa
