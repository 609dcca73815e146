/- The reference of layer 14: next. -/
import Derived.Test.YtkijfbnibfbldaaWitRf
import Derived.Test.YtkijfbnibfbldaaWitX
import Derived.Test.YtkijfbnibfbldaaRefWeight
import Derived.Deep.QuietTactic
import Derived.BigQuiet
namespace Go.Proofs.Ytkijfbnibfbldaa
open Go.RowKit
set_option linter.unusedSimpArgs false
set_option linter.unusedVariables false
set_option maxRecDepth 100000

theorem own_rc {W : World} {B g n cap : Nat} {T : TypeId} {l : List Rc} (h : Own W B T 3 (.slice (some ⟨g, 0, none⟩) n cap) n (rcC l)) {j v d : Nat} {z : Bool} (hj : l[j]? = some ⟨v, d, z⟩) :
    (W.cell? ⟨g, j * 3, none⟩ = some (.int .u32 (v : Int)) ∧ W.cell? ⟨g, j * 3 + 1, none⟩ = some (.int .u64 (d : Int)) ∧ W.cell? ⟨g, j * 3 + 2, none⟩ = some (.bool z)) ∧ W.frozen? ⟨g, j * 3 + 1, none⟩ = false ∧ W.frozen? ⟨g, j * 3 + 2, none⟩ = false := by
  have hl := (List.getElem?_eq_some_iff.1 hj).1
  obtain ⟨f0, f1, f2⟩ := rcC_at hj
  have G : ∀ i, i < 3 → W.cell? ⟨g, j * 3 + i, none⟩ = (rcC l)[j * 3 + i]? ∧ W.frozen? ⟨g, j * 3 + i, none⟩ = false := fun i hi => by
    obtain ⟨g', e', c0, z0, _⟩ := h.cell (j := j * 3 + i) (by rw [rcC_len]; omega)
    cases e'
    exact ⟨c0, z0⟩
  exact ⟨⟨(G 0 (by decide)).1.trans f0, (G 1 (by decide)).1.trans f1, (G 2 (by decide)).1.trans f2⟩, (G 1 (by decide)).2, (G 2 (by decide)).2⟩
set_option maxHeartbeats 16000000 in
theorem rnext_any {w : World} {B g n c : Nat} {l : List Rc} (hO : Own w B 83 3 (.slice (some ⟨g, 0, none⟩) n c) n (rcC l)) (hn : n = l.length) (hm : n ≤ 100000) :
    Calls Try.prog 34 #[.slice (some ⟨g, 0, none⟩) n c] w fun e w' => ∃ a : Int, e = .returned (.int .i64 a) ∧ NextR l l.length a ∧ Keeps w w' := by
  have HO := Lib.hid hO
  have HN := Lib.hid hn
  have n1 : (n : Int) ≤ 100000 := by omega
  clear hO hn hm
  go_enter Try.func34, Try.ntmps34
  go_wp2_with fail
  go_loopw [3, 4] (fun at_ t wr => ∃ (k : Nat) (a : Int), k ≤ n ∧ t = .int .i64 (k : Int) ∧ at_ = .int .i64 a ∧ NextR l k a ∧ Keeps w wr) (fun _ t _ => n - (intOf t).toNat)
  case atStart => exact ⟨0, -1, Nat.zero_le _, rfl, rfl, .inl ⟨rfl, fun j r hj => by omega⟩, keeps_refl _⟩
  case round =>
    obtain ⟨k, a, hk, rfl, rfl, hN, hks⟩ := hrel
    have KS := Lib.hid hks
    have HNX := Lib.hid hN
    by_cases hlt : k < n
    · obtain ⟨⟨sv, sd, sz⟩, hs⟩ : ∃ s, l[k]? = some s := ⟨_, List.getElem?_eq_getElem (by have := HN.out; omega)⟩
      obtain ⟨⟨c0, c1, c2⟩, -⟩ := own_rc (HO.out.keep hks) hs
      have k1 : (k : Int) < (n : Int) := by omega
      have HS := Lib.hid hs
      have HLT := Lib.hid hlt
      clear hk hks hs hlt hN
      cases sz with
      | true =>
        go_wp2_with fail
        go_quiet (fail)
        go_wp2_with fail
        go_roundw
        case rel => exact ⟨k + 1, a, by have := HLT.out; omega, by go_num, rfl, HNX.out.skip HS.out rfl, keeps_trans KS.out (keeps_drewN _ _)⟩
        case measure => have := HLT.out; simp [intOf]; omega
      | false =>
        by_cases ha : a = -1
        · subst ha
          go_wp2_with fail
          go_quiet (fail)
          go_wp2_with fail
          go_roundw
          case rel => exact ⟨k + 1, (k : Int), by have := HLT.out; omega, by go_num, rfl, HNX.out.first HS.out rfl, keeps_trans KS.out (keeps_drewN _ _)⟩
          case measure => have := HLT.out; simp [intOf]; omega
        · obtain ⟨p, ⟨rv, rd, rz⟩, rfl, hp, hr⟩ : ∃ (p : Nat) (r : Rc), a = (p : Int) ∧ p < k ∧ l[p]? = some r := by
            rcases HNX.out with ⟨h, -⟩ | ⟨p, r, h1, h2, h3, -⟩
            · exact absurd h ha
            · exact ⟨p, r, h1, h2, h3⟩
          obtain ⟨⟨b0, b1, b2⟩, -⟩ := own_rc (HO.out.keep KS.out) hr
          have p0 : decide ((p : Int) < 0) = false := decide_eq_false (by omega)
          have p1 : (p : Int) < (n : Int) := by omega
          have HR := Lib.hid hr
          have key : (decide ((sd : Int) < (rd : Int)) = true ∧ decide (sd < rd) = true ∧ lessB ⟨sd, sv⟩ ⟨rd, rv⟩ = true) ∨
              ((decide ((sd : Int) < (rd : Int)) = false ∧ decide (sd < rd) = false ∧ ((sd : Int) == (rd : Int)) = true ∧ (sd == rd) = true) ∧ decide ((sv : Int) < (rv : Int)) = true ∧ decide (sv < rv) = true ∧ lessB ⟨sd, sv⟩ ⟨rd, rv⟩ = true) ∨
              ((decide ((sd : Int) < (rd : Int)) = false ∧ decide (sd < rd) = false ∧ ((sd : Int) == (rd : Int)) = true ∧ (sd == rd) = true) ∧ decide ((sv : Int) < (rv : Int)) = false ∧ decide (sv < rv) = false ∧ lessB ⟨sd, sv⟩ ⟨rd, rv⟩ = false) ∨
              ((decide ((sd : Int) < (rd : Int)) = false ∧ decide (sd < rd) = false ∧ ((sd : Int) == (rd : Int)) = false ∧ (sd == rd) = false) ∧ lessB ⟨sd, sv⟩ ⟨rd, rv⟩ = false) := by
            rcases Nat.lt_trichotomy sd rd with h | h | h
            · exact .inl ⟨decide_eq_true (by omega), decide_eq_true h, by rw [lessB_true]; simp only; omega⟩
            · subst h
              by_cases hv : sv < rv
              · exact .inr (.inl ⟨⟨decide_eq_false (by omega), decide_eq_false (by omega), by simp, by simp⟩, decide_eq_true (by omega), decide_eq_true hv, (lessB_true _ _).2 (.inr ⟨rfl, hv⟩)⟩)
              · refine .inr (.inr (.inl ⟨⟨decide_eq_false (by omega), decide_eq_false (by omega), by simp, by simp⟩, decide_eq_false (by omega), decide_eq_false hv, ?_⟩))
                rw [← Bool.not_eq_true, lessB_true]; simp only; omega
            · refine .inr (.inr (.inr ⟨⟨decide_eq_false (by omega), decide_eq_false (by omega), by simp only [beq_eq_false_iff_ne, ne_eq, Int.natCast_inj]; omega, by simp only [beq_eq_false_iff_ne, ne_eq]; omega⟩, ?_⟩))
              rw [← Bool.not_eq_true, lessB_true]; simp only; omega
          clear ha hp hr
          rcases key with ⟨q1, q2, hl⟩ | ⟨⟨q1, q2, q3, q4⟩, q5, q6, hl⟩ | ⟨⟨q1, q2, q3, q4⟩, q5, q6, hl⟩ | ⟨⟨q1, q2, q3, q4⟩, hl⟩
          · have HL := Lib.hid hl
            clear hl
            go_wp2_with fail
            go_quiet (fail)
            clear q1 q2
            go_wp2_with fail
            go_roundw
            case rel => exact ⟨k + 1, (k : Int), by have := HLT.out; omega, by go_num, rfl, HNX.out.take HR.out HS.out rfl HL.out, keeps_trans KS.out (keeps_drewN _ _)⟩
            case measure => have := HLT.out; simp [intOf]; omega
          · have HL := Lib.hid hl
            clear hl
            go_wp2_with fail
            go_quiet (fail)
            clear q1 q2 q3 q4 q5 q6
            go_wp2_with fail
            go_roundw
            case rel => exact ⟨k + 1, (k : Int), by have := HLT.out; omega, by go_num, rfl, HNX.out.take HR.out HS.out rfl HL.out, keeps_trans KS.out (keeps_drewN _ _)⟩
            case measure => have := HLT.out; simp [intOf]; omega
          · have HL := Lib.hid hl
            clear hl
            go_wp2_with fail
            go_quiet (fail)
            clear q1 q2 q3 q4 q5 q6
            go_wp2_with fail
            go_roundw
            case rel => exact ⟨k + 1, (p : Int), by have := HLT.out; omega, by go_num, rfl, HNX.out.stay HR.out HS.out HL.out, keeps_trans KS.out (keeps_drewN _ _)⟩
            case measure => have := HLT.out; simp [intOf]; omega
          · have HL := Lib.hid hl
            clear hl
            go_wp2_with fail
            go_quiet (fail)
            clear q1 q2 q3 q4
            go_wp2_with fail
            go_roundw
            case rel => exact ⟨k + 1, (p : Int), by have := HLT.out; omega, by go_num, rfl, HNX.out.stay HR.out HS.out HL.out, keeps_trans KS.out (keeps_drewN _ _)⟩
            case measure => have := HLT.out; simp [intOf]; omega
    · obtain rfl : k = n := by omega
      rw [HN.out] at hN
      have HNX2 := Lib.hid hN
      clear hk hks hlt hN
      go_wp2_with fail
      go_ret
      exact ⟨a, rfl, HNX2.out, KS.out⟩
end Go.Proofs.Ytkijfbnibfbldaa
