/- Layer 14's statements: WitnessFinds. -/
import Derived.Test.YtkijfbnibfbldaaLawWitC
import Derived.Test.YtkijfbnibfbldaaRefRun4
namespace Go.Proofs.Ytkijfbnibfbldaa
open Go.RowKit
set_option linter.unusedSimpArgs false
set_option linter.unusedVariables false
set_option maxRecDepth 100000

theorem Ans.len16 {o : Outs} {av : Nat → Bool} {to most : Nat} {S : List Nat} {W : Wt} {r : Answ} (h : Ans o av to most S W r) (hS : S.length ≤ 16) : r.1.length ≤ 16 := by
  induction h with
  | none S => exact hS
  | far l c => exact hS
  | yes l a b c => exact hS
  | err l a b c e => rw [List.length_append, List.length_singleton]; omega
  | go l a b c e _ ih => exact ih (by rw [List.length_append, List.length_singleton]; omega)
set_option maxHeartbeats 16000000 in
theorem finds14_walk (K : HeapOk) (w : World) (x : WNet) (hx : WNetOk w x) (y : AskS) (hy : AskOk y) : Calls Try.prog 3 #[.agg x.cells, .agg #[.int .u32 (y.fr : Int), .int .u32 (y.to : Int), .int .u64 (y.most : Int)]] w (Yes w) := by
  have WK := Lib.hid (works14 K)
  have LG := Lib.hid (large_any x)
  obtain ⟨fr, to, most⟩ := y
  obtain ⟨y1, y2, y3⟩ := hy
  simp only at y1 y2 y3 ⊢
  obtain ⟨W1, h1⟩ : ∃ W, W = w.alloc (.cells x.cells 25) := ⟨_, rfl⟩
  obtain ⟨W2, h2⟩ : ∃ W, W = W1.alloc (.cells #[.int .u32 (fr : Int), .int .u32 (to : Int), .int .u64 (most : Int)] 29) := ⟨_, rfl⟩
  obtain ⟨BN, BA, k2⟩ := boxes14 w x fr to most h1 h2
  have AC := Lib.hid (ask_cells BA)
  have K2 := Lib.hid k2
  have FN := Lib.hid (fun (hl : largeN x = false) (V U : World) (b : Nat) (kk : Keeps W2 V) (D : Nat → Prop) (hJ : LogJ V w.heap.size b [] D U) => show Calls Try.prog 13 #[.func (.func 14) #[.pointer (some ⟨b, 0, none⟩)] #[], .func (.func 15) #[.pointer (some ⟨w.heap.size, 0, none⟩)] #[], .int .u32 (fr : Int), .int .u32 (to : Int), .int .u64 (most : Int)] U fun e w' =>
      ∃ r : Answ, e = .returned (.tuple #[.bool r.2.1, .int .i64 (r.2.2 : Int)]) ∧ Ans (outN x) (avN x) to most [] [(fr, 0)] r ∧ ∃ D', LogJ V w.heap.size b r.1 D' w' ∧ Turns U w' D D' from find_any K (logC V w.heap.size b x (BN.keep kk) ((hx.keep k2).keep kk) (largeN_false hl).1 (largeN_false hl).2.1 (largeN_false hl).2.2) hJ fr to most y1 y2 y3)
  have RN := Lib.hid (fun (hl : largeN x = false) (V : World) (kk : Keeps W2 V) => show Calls Try.prog 16 #[.pointer (some ⟨w.heap.size, 0, none⟩), .int .u32 (fr : Int), .int .u32 (to : Int), .int .u64 (most : Int)] V fun e w' => RunD x fr to most V e w' from rrun_any (BN.keep kk) ((hx.keep k2).keep kk) (largeN_false hl).1 (largeN_false hl).2.1 (largeN_false hl).2.2 fr to most y1 y2 y3)
  have NC := Lib.hid (fun V (k : Keeps W2 V) => show V.cell? ⟨w.heap.size, 0, none⟩ = some (.slice x.Ae x.E.length x.ce) ∧ V.cell? ⟨w.heap.size, 1, none⟩ = some (.slice x.Ab x.B.length x.cb) ∧ V.cell? ⟨w.heap.size, 2, none⟩ = some (.slice x.As x.Z.length x.cs) ∧ w.heap.size < V.heap.size from ⟨(BN.keep k).cell 0 rfl, (BN.keep k).cell 1 rfl, (BN.keep k).cell 2 rfl, (BN.keep k).lt⟩)
  have HEQ := Lib.hid (show W2 = (w.alloc (.cells x.cells 25)).alloc (.cells #[.int .u32 (fr : Int), .int .u32 (to : Int), .int .u64 (most : Int)] 29) by rw [h2, h1])
  obtain ⟨lg, hlg⟩ : ∃ lg, largeN x = lg := ⟨_, rfl⟩
  rw [hlg] at LG FN RN
  unfold WNet.cells at HEQ LG ⊢
  clear hx h1 h2 BN BA k2 y1 y2 y3 hlg
  obtain ⟨a0, a1, a2, la⟩ := AC.out _ (keeps_refl _)
  obtain ⟨n0, n1, n2, ln⟩ := NC.out _ (keeps_refl _)
  rw [HEQ.out] at a0 a1 a2 la n0 n1 n2 ln
  cases lg with
  | true =>
    go_enter Try.func3, Try.ntmps3
    go_wp2_with fail
    rw [← HEQ.out] at a0 a1 a2 la n0 n1 n2 ln ⊢
    refine (LG.out _).mono ?_
    rintro e w3 ⟨rfl, k3⟩
    have K3 := Lib.hid k3
    clear a0 a1 a2 la n0 n1 n2 ln k3
    go_wp2_with fail
    refine (WK.out _).mono ?_
    rintro e w4 ⟨rfl, k4⟩
    go_wp2_with fail
    go_ret
    exact ⟨rfl, keeps_trans K2.out (keeps_trans K3.out k4)⟩
  | false =>
    go_enter Try.func3, Try.ntmps3
    go_wp2_with fail
    rw [← HEQ.out] at a0 a1 a2 la n0 n1 n2 ln ⊢
    refine (LG.out _).mono ?_
    rintro e w3 ⟨rfl, k3⟩
    have K3 := Lib.hid k3
    have LJ := Lib.hid (show LogJ w3 w.heap.size w3.heap.size [] (fun i => i < w3.heap.size ∨ i = w3.heap.size ∨ (Value.slice none 0 0).ownBlock = some i) (w3.alloc (.cells #[.pointer (some ⟨w.heap.size, 0, none⟩), .slice none 0 0] 35)) from
      ⟨.slice none 0 0, Box.new _ _ _, Own.nil _ _ _ _, fun k h => (by cases h), Nat.le_refl _, keeps_alloc _ _, fun i => Iff.rfl⟩)
    have K4 := Lib.hid (keeps_trans k3 (keeps_alloc w3 (.cells #[.pointer (some ⟨w.heap.size, 0, none⟩), .slice none 0 0] 35)))
    clear a0 a1 a2 la n0 n1 n2 ln k3
    obtain ⟨a0, a1, a2, la⟩ := AC.out _ K4.out
    obtain ⟨n0, n1, n2, ln⟩ := NC.out _ K4.out
    go_wp2_with fail
    refine (FN.out (by trivial) w3 _ w3.heap.size K3.out _ LJ.out).mono ?_
    rintro e w5 ⟨⟨S, rb, rc⟩, rfl, hA, D', ⟨sv, hL⟩, hT⟩
    obtain ⟨As, cs, rfl, -, -, -, -⟩ := hL.row.form
    have HL := Lib.hid hL
    have K5 := Lib.hid (keeps_trans K3.out hL.ks)
    have HA := Lib.hid hA
    clear a0 a1 a2 la n0 n1 n2 ln hA hL hT
    obtain ⟨a0, a1, a2, la⟩ := AC.out _ K5.out
    obtain ⟨n0, n1, n2, ln⟩ := NC.out _ K5.out
    go_wp2_with fail
    refine (RN.out (by trivial) _ K5.out).mono ?_
    rintro e w6 ⟨q, sv6, rfl, hO, hB, k6⟩
    have hq := HA.out.one (List.Perm.refl _) (by simp [Onces]) hB
    subst hq
    simp only at hO ⊢
    obtain ⟨Aq, cq, rfl, -, -, -, -⟩ := hO.form
    have K6 := Lib.hid (keeps_trans K5.out k6)
    have HO := Lib.hid hO
    have SEEN := Lib.hid (fun (V : World) (k : Keeps w6 V) => show V.cell? ⟨w3.heap.size, 1, none⟩ = some (.slice As S.length cs) from (HL.out.box.keep (keeps_trans k6 k)).cell 1 rfl)
    have ROWS := Lib.hid (fun (V : World) (k : Keeps w6 V) => And.intro (HL.out.row.keep (keeps_trans k6 k)) (hO.keep k))
    have SL := Lib.hid (show S.length ≤ 16 from HA.out.len16 (by simp))
    clear a0 a1 a2 la n0 n1 n2 ln hO hB k6
    have s0 := SEEN.out _ (keeps_refl _)
    have l16 : (S.length : Int) ≤ 16 := by have := SL.out; omega
    have e1 : ((rc : Int) == (rc : Int)) = true := by simp
    have e2 : (rc == rc) = true := by simp
    have e3 : ((S.length : Int) == (S.length : Int)) = true := by simp
    cases rb with
    | true =>
      go_wp2_with fail
      clear e1 e2 e3
      go_loopw [11] (fun t wr => ∃ i : Nat, i ≤ S.length ∧ t = .int .i64 (i : Int) ∧ Keeps w6 wr) (fun t _ => S.length - (intOf t).toNat)
      case atStart => exact ⟨0, Nat.zero_le _, rfl, keeps_refl _⟩
      case round =>
        obtain ⟨i, hi, rfl, hks⟩ := hrel
        have KS := Lib.hid hks
        by_cases hlt : i < S.length
        · obtain ⟨y, hy⟩ : ∃ y, S[i]? = some y := ⟨_, List.getElem?_eq_getElem hlt⟩
          have t0 := SEEN.out _ hks
          have ls := (HL.out.box.lt)
          obtain ⟨g7, hg7, d7, -⟩ := (ROWS.out _ hks).1.cell (j := i) (by rw [celU_len]; exact hlt)
          obtain ⟨g8, hg8, d8, -⟩ := (ROWS.out _ hks).2.cell (j := i) (by rw [celU_len]; exact hlt)
          rw [celU_get S hy] at d7 d8
          subst hg7
          subst hg8
          have i1 : (i : Int) < (S.length : Int) := by omega
          have e4 : ((y : Int) == (y : Int)) = true := by simp
          have e5 : (y == y) = true := by simp
          have HLT := Lib.hid hlt
          clear hi hks hlt hy s0
          go_wp2_with fail
          go_quiet (fail)
          clear e4 e5
          go_wp2_with fail
          go_roundw
          case rel => exact ⟨i + 1, by have := HLT.out; omega, by go_num, keeps_trans KS.out (keeps_drewN _ _)⟩
          case measure => have := HLT.out; simp [intOf]; omega
        · have i1 : ¬ (i : Int) < (S.length : Int) := by omega
          clear hi hks hlt s0
          go_wp2_with fail
          refine (WK.out _).mono ?_
          rintro e w7 ⟨rfl, k7⟩
          go_wp2_with fail
          go_ret
          exact ⟨rfl, keeps_trans K2.out (keeps_trans K6.out (keeps_trans KS.out k7))⟩
    | false =>
      go_wp2_with fail
      clear e1 e2 e3
      go_loopw [11] (fun t wr => ∃ i : Nat, i ≤ S.length ∧ t = .int .i64 (i : Int) ∧ Keeps w6 wr) (fun t _ => S.length - (intOf t).toNat)
      case atStart => exact ⟨0, Nat.zero_le _, rfl, keeps_refl _⟩
      case round =>
        obtain ⟨i, hi, rfl, hks⟩ := hrel
        have KS := Lib.hid hks
        by_cases hlt : i < S.length
        · obtain ⟨y, hy⟩ : ∃ y, S[i]? = some y := ⟨_, List.getElem?_eq_getElem hlt⟩
          have t0 := SEEN.out _ hks
          have ls := (HL.out.box.lt)
          obtain ⟨g7, hg7, d7, -⟩ := (ROWS.out _ hks).1.cell (j := i) (by rw [celU_len]; exact hlt)
          obtain ⟨g8, hg8, d8, -⟩ := (ROWS.out _ hks).2.cell (j := i) (by rw [celU_len]; exact hlt)
          rw [celU_get S hy] at d7 d8
          subst hg7
          subst hg8
          have i1 : (i : Int) < (S.length : Int) := by omega
          have e4 : ((y : Int) == (y : Int)) = true := by simp
          have e5 : (y == y) = true := by simp
          have HLT := Lib.hid hlt
          clear hi hks hlt hy s0
          go_wp2_with fail
          go_quiet (fail)
          clear e4 e5
          go_wp2_with fail
          go_roundw
          case rel => exact ⟨i + 1, by have := HLT.out; omega, by go_num, keeps_trans KS.out (keeps_drewN _ _)⟩
          case measure => have := HLT.out; simp [intOf]; omega
        · have i1 : ¬ (i : Int) < (S.length : Int) := by omega
          clear hi hks hlt s0
          go_wp2_with fail
          refine (WK.out _).mono ?_
          rintro e w7 ⟨rfl, k7⟩
          go_wp2_with fail
          go_ret
          exact ⟨rfl, keeps_trans K2.out (keeps_trans K6.out (keeps_trans KS.out k7))⟩
end Go.Proofs.Ytkijfbnibfbldaa
