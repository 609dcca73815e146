/- The walk of InputWrites. -/
import Derived.Test.YtbalejfloieiiaaDoorLawInput2
import Derived.Test.YtbalejfloieiiaaDoorApart
namespace Go.Proofs.YtbalejfloieiiaaDoor
open Go.RowKit
set_option linter.unusedSimpArgs false
set_option linter.unusedVariables false
set_option maxRecDepth 100000

/-- what Write answers, in one -/
noncomputable def wrB (N : Nat) (l : List Ed) : List UInt8 := open Classical in if WOk N l then writeB N l else []
noncomputable def wrE (N : Nat) (l : List Ed) : Int := open Classical in if WOk N l then 0 else 1
theorem WriteV.one {w w' : World} {N : Nat} {l : List Ed} {e : Ending} (h : WriteV w N l e w') : ∃ v, e = .returned (.tuple #[v, .int .i64 (wrE N l)]) ∧ Own w' w.heap.size 5 1 v (wrB N l).length (cel (wrB N l)) ∧ Keeps w w' := by
  rcases h with ⟨h, v, rfl, o, k⟩ | ⟨h, rfl, k⟩
  · refine ⟨v, by rw [wrE, if_pos h], ?_, k⟩
    rw [wrB, if_pos h]
    exact o
  · refine ⟨_, by rw [wrE, if_neg h], ?_, k⟩
    rw [wrB, if_neg h]
    exact Own.nil _ _ _ _
theorem wrB_len (N : Nat) (l : List Ed) : (wrB N l).length ≤ 12 + 16 * l.length := by
  unfold wrB
  split
  · rw [writeB_length]; omega
  · simp

theorem ne_ranges' {v v' : Value} {a b c d : Nat} (h : ∀ g, v.ownBlock = some g → a ≤ g ∧ g < b) (h' : ∀ g, v'.ownBlock = some g → c ≤ g ∧ g < d) (hd : b ≤ c ∨ d ≤ a) : v.ownBlock = none ∨ v.ownBlock ≠ v'.ownBlock := by
  cases hv : v.ownBlock with
  | none => exact .inl rfl
  | some g =>
    right
    intro e
    have h1 := h g hv
    have h2 := h' g e.symm
    omega
/-- two rows that lie in two ranges, and the list of them in new memory -/
theorem ahead2 {w : World} {base a1 b1 a2 b2 : Nat} {v1 v2 : Value} {l1 l2 : List UInt8}
    (o1 : Own w base 5 1 v1 l1.length (cel l1)) (o2 : Own w base 5 1 v2 l2.length (cel l2)) (hb : base ≤ w.heap.size)
    (h1 : ∀ g, v1.ownBlock = some g → a1 ≤ g ∧ g < b1) (h2 : ∀ g, v2.ownBlock = some g → a2 ≤ g ∧ g < b2)
    (h12 : b1 ≤ a2 ∨ b2 ≤ a1) (s1 : l1.length ≤ 1073741824) (s2 : l2.length ≤ 1073741824) :
    Ahead (w.alloc (.cells #[v1, v2] 22)) base [(v1, l1), (v2, l2)] (.slice (some ⟨w.heap.size, 0, none⟩) 2 2) := by
  have k := keeps_alloc w (.cells #[v1, v2] 22)
  have two : ∀ {Q : Nat → Value × List UInt8 → Prop}, Q 0 (v1, l1) → Q 1 (v2, l2) → ∀ (j : Nat) (p : Value × List UInt8), [(v1, l1), (v2, l2)][j]? = some p → Q j p := by
    intro Q q0 q1 j p hp
    rcases j with _ | _ | j
    · cases hp; exact q0
    · cases hp; exact q1
    · cases hp
  refine ⟨two (Q := fun _ p => Own _ base 5 1 p.1 p.2.length (cel p.2)) (o1.keep k) (o2.keep k), ?_, ?_, Nat.le_trans hb k.size, by simp, two (Q := fun _ p => p.2.length ≤ 1073741824) s1 s2⟩
  · intro i j p q hij hp hq
    have P : ∀ (j : Nat) (q : Value × List UInt8), [(v1, l1), (v2, l2)][j]? = some q → ∀ (i : Nat) (p : Value × List UInt8), [(v1, l1), (v2, l2)][i]? = some p → i ≠ j → p.1.ownBlock = none ∨ p.1.ownBlock ≠ q.1.ownBlock := by
      refine two (Q := fun j q => ∀ (i : Nat) (p : Value × List UInt8), [(v1, l1), (v2, l2)][i]? = some p → i ≠ j → p.1.ownBlock = none ∨ p.1.ownBlock ≠ q.1.ownBlock) ?_ ?_
      · exact two (Q := fun i p => i ≠ 0 → p.1.ownBlock = none ∨ p.1.ownBlock ≠ v1.ownBlock) (fun e => absurd rfl e) (fun _ => ne_ranges' h2 h1 (by omega))
      · exact two (Q := fun i p => i ≠ 1 → p.1.ownBlock = none ∨ p.1.ownBlock ≠ v2.ownBlock) (fun _ => ne_ranges' h1 h2 (by omega)) (fun e => absurd rfl e)
    exact P j q hq i p hp hij
  · exact ⟨rfl, .inr ⟨w.heap.size, 2, #[v1, v2], (0, 0), rfl, hb, heap_alloc_new w _, .inl rfl, Nat.le_refl _, by simp [maxLen], rfl, rfl⟩⟩
theorem own_range {w : World} {b : Nat} {T : TypeId} {s n : Nat} {v : Value} {xs : List Value} (o : Own w b T s v n xs) : ∀ g, v.ownBlock = some g → b ≤ g ∧ g < w.heap.size := o.lt

set_option maxHeartbeats 4000000 in
theorem writes_walk (K : InputOk) (N : Nat) (hN : N < 4294967296) (A : Option Addr) (n c : Nat) (l : List Ed) (w : World) (hZ : K.Z w) (hB : At w w.heap.size A (edsC l)) (hok : ∀ e ∈ l, EdOk e) (hn : n = l.length) (hc : n ≤ c) (hlen : n ≤ maxLen) :
    Calls Tryd.prog 5 #[.int .u32 (N : Int), .slice A n c] w (Yes w) := by
  unfold maxLen at hlen
  by_cases h : (4096 : Int) < n
  · have W := Lib.hid (works_input K w hZ)
    clear hn hB
    go_enter Tryd.func5, Tryd.ntmps5
    go_wp2_with (go_at_call 14; refine W.out.mono ?_; rintro e w1 ⟨rfl, k1⟩)
    go_ret
    exact ⟨rfl, k1⟩
  · have hm : n ≤ 4096 := by omega
    have R := Lib.hid (refCopy_any A n c l w hB hn (by omega))
    have HN := Lib.hid hn
    have HZ := Lib.hid hZ
    have HB := Lib.hid hB
    have HO := Lib.hid hok
    have BL := Lib.hid (show (wrB N l).length ≤ 100000 from by have := wrB_len N l; omega)
    obtain ⟨b, hb⟩ : ∃ b, wrB N l = b := ⟨_, rfl⟩
    obtain ⟨f, hf⟩ : ∃ f, wrE N l = f := ⟨_, rfl⟩
    rw [hb] at BL
    have HW := Lib.hid (fun (V V' : World) (e : Ending) (h : WriteV V N l e V') => h.one)
    rw [hb, hf] at HW
    clear hn hZ hB hok hb hf
    go_enter Tryd.func5, Tryd.ntmps5
    go_wp2_with fail
    refine R.out.mono ?_
    rintro e w1 ⟨v0, rfl, o0, k1⟩
    rw [← HN.out] at o0
    obtain ⟨A0, c0, rfl, hc0, hm0, -⟩ := o0.form
    have C1 := Lib.hid (K.write N A0 n c0 l w1 (K.keep HZ.out k1) hN o0.at_ HO.out HN.out hc0 (by omega))
    have O0 := Lib.hid o0
    have K1 := Lib.hid k1
    clear o0 k1
    go_wp2_with fail
    refine C1.out.mono ?_
    rintro e w2 hw
    obtain ⟨v2, rfl, o2, k2⟩ := HW.out _ _ _ hw
    clear hw
    obtain ⟨A2, c2, rfl, hc2, hm2, -⟩ := o2.form
    have C2 := Lib.hid (refWrite_any N hN A n c l w2 ((HB.out.keep (keeps_trans K1.out k2)).more (keeps_trans K1.out k2).size) HO.out HN.out (by omega))
    have O2 := Lib.hid o2
    have K2 := Lib.hid k2
    clear o2 k2
    go_wp2_with fail
    refine C2.out.mono ?_
    rintro e w3 hw
    obtain ⟨v3, rfl, o3, k3⟩ := HW.out _ _ _ hw
    clear hw
    obtain ⟨A3, c3, rfl, hc3, hm3, -⟩ := o3.form
    have Q := Lib.hid (eqBytes_any A2 b.length c2 b A3 b.length c3 b w3 (O2.out.keep k3).at_ rfl o3.at_ rfl)
    rw [decide_eq_true (rfl : b = b)] at Q
    have K13 := Lib.hid (keeps_trans K2.out k3)
    have K3 := Lib.hid k3
    have Q2 := Lib.hid (refEq_any A0 n c0 l A n c l w3 (O0.out.keep K13.out).at_ HN.out ((HB.out.keep (keeps_trans K1.out K13.out)).more (keeps_trans K1.out K13.out).size) HN.out (by omega) (by omega))
    clear o3 k3
    go_wp2_with fail
    refine Q.out.mono ?_
    rintro e w4 ⟨rfl, rfl⟩
    go_wp2_with fail
    refine Q2.out.mono ?_
    rintro e w5 ⟨hq, k5⟩
    obtain rfl : e = .returned (.bool true) := by
      rcases hq with ⟨e, _⟩ | ⟨_, e⟩
      · exact e
      · exact absurd rfl e
    clear hq
    have K15 := Lib.hid (keeps_trans K13.out k5)
    have C3 := Lib.hid (K.write N A0 n c0 l w5 (K.keep HZ.out (keeps_trans K1.out K15.out)) hN (O0.out.keep K15.out).at_ HO.out HN.out hc0 (by omega))
    have K5 := Lib.hid k5
    clear k5
    go_wp2_with fail
    refine C3.out.mono ?_
    rintro e w6 hw
    obtain ⟨v6, rfl, o6, k6⟩ := HW.out _ _ _ hw
    clear hw
    obtain ⟨A6, c6, rfl, hc6, hm6, -⟩ := o6.form
    have r2 := own_range O2.out
    have r6 := own_range o6
    have ss : w2.heap.size ≤ w5.heap.size := Nat.le_trans K3.out.size K5.out.size
    have ss2 : w1.heap.size ≤ w2.heap.size := K2.out.size
    have ss6 : w5.heap.size ≤ w6.heap.size := k6.size
    have AH := ahead2 (base := w1.heap.size) ((O2.out.keep (keeps_trans K3.out (keeps_trans K5.out k6)))) (o6.base_le (by omega)) (by omega) r2 r6 (.inl ss) (by have := BL.out; omega) (by have := BL.out; omega)
    have AP := Lib.hid (apart_any _ 2 2 _ w1.heap.size _ AH rfl (by decide))
    have AB := Lib.hid (fun (g : Nat) (hg : InR [(.slice A2 b.length c2, b), (.slice A6 b.length c6, b)] g) => (show w1.heap.size ≤ g from by
      obtain ⟨j, p, hp, hb⟩ := hg
      exact ((AH.rows j p hp).lt g hb).1))
    have K16 := Lib.hid (keeps_trans K15.out k6)
    clear r2 r6 ss ss2 ss6 AH o6 k6
    go_wp2_with fail
    refine AP.out.mono ?_
    rintro e w7 ⟨rfl, q7⟩
    have K7 : Keeps w w7 := by
      have kk := keeps_trans K16.out (keeps_alloc w6 (.cells #[.slice A2 b.length c2, .slice A6 b.length c6] 22))
      exact keeps_trans K1.out (Below.trans kk (q7.below (B := w1.heap.size) AB.out kk.size))
    have WW := Lib.hid (works_input K w7 (K.keep HZ.out K7))
    go_wp2_with fail
    refine WW.out.mono ?_
    rintro e w8 ⟨rfl, k8⟩
    go_wp2_with fail
    go_ret
    exact ⟨rfl, keeps_trans K7 k8⟩
end Go.Proofs.YtbalejfloieiiaaDoor
