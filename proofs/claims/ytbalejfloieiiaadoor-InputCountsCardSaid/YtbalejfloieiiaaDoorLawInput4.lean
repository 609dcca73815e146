/- The walk of InputReduces. -/
import Derived.Test.YtbalejfloieiiaaDoorLawInput2
namespace Go.Proofs.YtbalejfloieiiaaDoor
open Go.RowKit
set_option linter.unusedSimpArgs false
set_option linter.unusedVariables false
set_option maxRecDepth 100000

theorem len_le_of_distinct {α : Type} : ∀ {a l : List α}, a.Pairwise (fun x y => x ≠ y) → (∀ e ∈ a, e ∈ l) → a.length ≤ l.length := by
  classical
  intro a
  induction a with
  | nil => intro l _ _; simp
  | cons x t ih =>
    intro l hp hs
    obtain ⟨h1, h2⟩ := List.pairwise_cons.1 hp
    have hx := hs x (by simp)
    have := ih (l := l.erase x) h2 (fun e he => by
      refine (List.mem_erase_of_ne ?_).2 (hs e (by simp [he]))
      exact fun e' => h1 e he e'.symm)
    rw [List.length_erase_of_mem hx] at this
    have := List.length_pos_of_mem hx
    simp only [List.length_cons]
    omega
theorem Red.len {l a : List Ed} (h : Red l a) : a.length ≤ l.length :=
  len_le_of_distinct (h.rise.imp fun {x y} hxy e => by subst e; rw [ahd_irr] at hxy; cases hxy) h.mem
theorem NewE.form {w w' : World} {l : List Ed} {e : Ending} (h : NewE w l e w') : ∃ A c, e = .returned (.slice A l.length c) ∧ l.length ≤ c ∧ c ≤ maxLen ∧ Own w' w.heap.size 31 4 (.slice A l.length c) l.length (edsC l) ∧ Keeps w w' := by
  obtain ⟨v, rfl, o, k⟩ := h
  obtain ⟨A, c, rfl, hc, hm, -⟩ := o.form
  exact ⟨A, c, rfl, hc, hm, o, k⟩

set_option maxHeartbeats 4000000 in
theorem reduces_walk (K : InputOk) (A : Option Addr) (n c : Nat) (l : List Ed) (w : World) (hZ : K.Z w) (hB : At w w.heap.size A (edsC l)) (hok : ∀ e ∈ l, EdOk e) (hn : n = l.length) (hc : n ≤ c) (hlen : n ≤ maxLen) :
    Calls Tryd.prog 6 #[.slice A n c] w (Yes w) := by
  unfold maxLen at hlen
  by_cases h : (500 : Int) < n
  · have W := Lib.hid (works_input K w hZ)
    clear hn hB
    go_enter Tryd.func6, Tryd.ntmps6
    go_wp2_with (go_at_call 14; refine W.out.mono ?_; rintro e w1 ⟨rfl, k1⟩)
    go_ret
    exact ⟨rfl, k1⟩
  · obtain ⟨i0, hi, hz0, hz1, hz2⟩ := info_parts info_edge
    have hm : n ≤ 500 := by omega
    have R := Lib.hid (refCopy_any A n c l w hB hn (by omega))
    have HN := Lib.hid hn
    have HZ := Lib.hid hZ
    have HB := Lib.hid hB
    have HO := Lib.hid hok
    clear hn hZ hB hok
    go_enter Tryd.func6, Tryd.ntmps6
    go_wp2_with fail
    refine R.out.mono ?_
    rintro e w1 hne
    obtain ⟨A0, c0, rfl, hc0, hm0, o0, k1⟩ := hne.form
    clear hne
    rw [← HN.out] at o0 hc0
    have C1 := Lib.hid (K.reduce A0 n c0 l w1 (K.keep HZ.out k1) o0.at_ HO.out HN.out hc0 (by omega))
    have O0 := Lib.hid o0
    have K1 := Lib.hid k1
    rw [← HN.out]
    clear o0 k1
    go_wp2_with fail
    refine C1.out.mono ?_
    rintro e w2 ⟨a, hr, hne⟩
    obtain ⟨A2, c2, rfl, hc2, hm2, o2, k2⟩ := hne.form
    have C2 := Lib.hid (refReduce_any A n c l w2 ((HB.out.keep (keeps_trans K1.out k2)).more (keeps_trans K1.out k2).size) HO.out HN.out (by omega))
    have O2 := Lib.hid o2
    have K2 := Lib.hid k2
    have RD := Lib.hid hr
    have hal : a.length ≤ 500 := by have := hr.len; have := HN.out; omega
    clear o2 k2 hne hr
    go_wp2_with fail
    refine C2.out.mono ?_
    rintro e w3 ⟨a', hr', hne⟩
    obtain rfl := hr'.eq HO.out RD.out
    obtain ⟨A3, c3, rfl, hc3, hm3, o3, k3⟩ := hne.form
    have Q := Lib.hid (refEq_any A2 a'.length c2 a' A3 a'.length c3 a' w3 (O2.out.keep k3).at_ rfl o3.at_ rfl (by omega) (by omega))
    have K13 := Lib.hid (keeps_trans K2.out k3)
    have K3 := Lib.hid k3
    clear o3 k3 hne hr'
    go_wp2_with fail
    refine Q.out.mono ?_
    rintro e w4 ⟨hq, k4⟩
    obtain rfl : e = .returned (.bool true) := by
      rcases hq with ⟨e, _⟩ | ⟨_, e⟩
      · exact e
      · exact absurd rfl e
    clear hq
    have K14 := Lib.hid (keeps_trans K13.out k4)
    have Q2 := Lib.hid (refEq_any A0 n c0 l A n c l w4 (O0.out.keep K14.out).at_ HN.out ((HB.out.keep (keeps_trans K1.out K14.out)).more (keeps_trans K1.out K14.out).size) HN.out (by omega) (by omega))
    have K4 := Lib.hid k4
    clear k4
    go_wp2_with fail
    refine Q2.out.mono ?_
    rintro e w5 ⟨hq, k5⟩
    obtain rfl : e = .returned (.bool true) := by
      rcases hq with ⟨e, _⟩ | ⟨_, e⟩
      · exact e
      · exact absurd rfl e
    clear hq
    have K15 := Lib.hid (keeps_trans K14.out k5)
    have O5 := Lib.hid (O2.out.keep (keeps_trans K3.out (keeps_trans K4.out k5)))
    have sz := K15.out.size
    clear k5
    go_wp2_with (at_builtin; refine wpList_app _ rfl _ _ 36 rfl w1.heap.size 31 i0 (.agg #[.int .u32 0, .int .u32 0, .int .u64 0, .int .u32 0]) 4 24 Tryd.underlying36 hi hz0 hz1 hz2 rfl (by decide) _ _ _ rfl (O5.out.keep (keeps_alloc _ _)) (w5.heap.size + 1) _ 1 1 (edC ⟨77, 0, 0, 0⟩) rfl rfl (At.new _ _ _ _ (by omega)) (edsC_one [⟨77, 0, 0, 0⟩]) (by unfold maxLen; omega) (by omega) (by simp; omega) ?_; intro v6 w6 o6 g6 b6; obtain ⟨A6, c6, rfl, hc6, hm6, -, -⟩ := o6.form; have B6 : Below w1.heap.size w1 w6 := Below.trans (keeps_trans K15.out (keeps_alloc _ _)) (keeps_grown g6 _ (by simp; omega) (fun k hk => (O5.out.lt k hk).1)))
    obtain ⟨N6, hN6⟩ : ∃ N6, N6 = a'.length + 1 := ⟨_, rfl⟩
    have O6 := Lib.hid (show Own w6 w1.heap.size 31 4 (.slice A6 N6 c6) N6 (edsC (a' ++ [⟨77, 0, 0, 0⟩])) from by
      rw [hN6]
      have : edsC (a' ++ [⟨77, 0, 0, 0⟩]) = edsC a' ++ edC ⟨77, 0, 0, 0⟩ := by simp [edsC]
      rw [this]
      exact o6)
    have BB := Lib.hid B6
    have HL := Lib.hid (show (a' ++ [(⟨77, 0, 0, 0⟩ : Ed)]).length = N6 from by rw [List.length_append, hN6]; rfl)
    rw [← hN6]
    have HN6 := Lib.hid (show N6 ≤ 501 from by omega)
    have HM := Lib.hid hm
    clear o6 B6 g6 b6 hc6 hN6 hal hm sz hc2 hc3
    go_loopw [5] (fun i wr => ∃ (j : Nat) (m : List Ed), j ≤ N6 ∧ i = .int .i64 j ∧ m.length = N6 ∧ Own wr w1.heap.size 31 4 (.slice A6 N6 c6) N6 (edsC m) ∧ Keeps w1 wr) (fun i _ => N6 - (intOf i).toNat)
    case atStart => exact ⟨0, _, Nat.zero_le _, rfl, HL.out, O6.out, BB.out⟩
    case round =>
      obtain ⟨j, m, hj, rfl, hml, ho, hk⟩ := hrel
      by_cases hlt : j < N6
      · obtain ⟨g, rfl, -⟩ := ho.cell (j := 0) (by rw [edsC_length]; omega)
        obtain ⟨e, he⟩ : ∃ e, m[j]? = some e := ⟨_, List.getElem?_eq_getElem (by omega)⟩
        obtain ⟨⟨d0, d1, d2, d3⟩, f0, f1, f2, f3⟩ := own_edge' ho he
        have lg := (ho.lt g rfl).2
        have hg := (ho.lt g rfl).1
        have ST := Lib.hid (And.intro (ho.stored' hml hlt ⟨0, 99, 0, 0⟩) (stEd_below hk hg j ⟨0, 99, 0, 0⟩))
        have j0 : (0 : Int) ≤ (j : Int) := by omega
        have j1 : (j : Int) < (N6 : Int) := by omega
        have j2 : (j : Int) < 16777216 := by have := HN6.out; omega
        have HJ := Lib.hid (And.intro hlt hml)
        clear he hlt hml ho hk hj
        go_wp2_with fail
        go_roundw
        case rel => exact ⟨j + 1, m.set j ⟨0, 99, 0, 0⟩, by have := HJ.out.1; omega, by go_num, by rw [List.length_set]; exact HJ.out.2, ST.out.1, ST.out.2⟩
        case measure => have := HJ.out.1; simp [intOf]; omega
      · obtain rfl : j = N6 := by omega
        have KR := Lib.hid hk
        have Q3 := Lib.hid (refEq_any A0 n c0 l A n c l wr (O0.out.keep hk).at_ HN.out ((HB.out.keep (keeps_trans K1.out hk)).more (keeps_trans K1.out hk).size) HN.out (by have := HM.out; omega) (by have := HM.out; omega))
        clear ho hk hlt hj hml
        go_wp2_with fail
        refine Q3.out.mono ?_
        rintro e w7 ⟨hq, k7⟩
        obtain rfl : e = .returned (.bool true) := by
          rcases hq with ⟨e, _⟩ | ⟨_, e⟩
          · exact e
          · exact absurd rfl e
        clear hq
        have WW := Lib.hid (works_input K w7 (K.keep HZ.out (keeps_trans K1.out (keeps_trans KR.out k7))))
        have K7 := Lib.hid k7
        clear k7
        go_wp2_with fail
        refine WW.out.mono ?_
        rintro e w8 ⟨rfl, k8⟩
        go_wp2_with fail
        go_ret
        exact ⟨rfl, keeps_trans K1.out (keeps_trans KR.out (keeps_trans K7.out k8))⟩
end Go.Proofs.YtbalejfloieiiaaDoor
