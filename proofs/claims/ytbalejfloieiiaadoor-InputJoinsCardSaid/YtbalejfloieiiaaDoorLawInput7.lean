/- The walk of InputJoins. -/
import Derived.Test.YtbalejfloieiiaaDoorLawInput4
namespace Go.Proofs.YtbalejfloieiiaaDoor
open Go.RowKit
set_option linter.unusedSimpArgs false
set_option linter.unusedVariables false
set_option maxRecDepth 100000

theorem edsC_append (a b : List Ed) : edsC (a ++ b) = edsC a ++ edsC b := by simp [edsC]

set_option maxHeartbeats 8000000 in
theorem joins_walk (K : InputOk) (A : Option Addr) (n c : Nat) (l : List Ed) (A' : Option Addr) (n' c' : Nat) (m : List Ed) (w : World) (hZ : K.Z w) (hB : At w w.heap.size A (edsC l)) (hok : ∀ e ∈ l, EdOk e) (hn : n = l.length) (hc : n ≤ c)
    (hB' : At w w.heap.size A' (edsC m)) (hok' : ∀ e ∈ m, EdOk e) (hn' : n' = m.length) (hc' : n' ≤ c') (hlen : n ≤ maxLen) (hlen' : n' ≤ maxLen) :
    Calls Tryd.prog 12 #[.slice A n c, .slice A' n' c'] w (Yes w) := by
  unfold maxLen at hlen hlen'
  have W := Lib.hid (works_input K w hZ)
  by_cases h : (150 : Int) < n
  · clear hn hB hn' hB'
    go_enter Tryd.func12, Tryd.ntmps12
    go_wp2_with (go_at_call 14; refine W.out.mono ?_; rintro e w1 ⟨rfl, k1⟩)
    go_ret
    exact ⟨rfl, k1⟩
  · by_cases h' : (150 : Int) < n'
    · clear hn hB hn' hB'
      go_enter Tryd.func12, Tryd.ntmps12
      go_wp2_with (go_at_call 14; refine W.out.mono ?_; rintro e w1 ⟨rfl, k1⟩)
      go_ret
      exact ⟨rfl, k1⟩
    · obtain ⟨i0, hi, hz0, hz1, hz2⟩ := info_parts info_edge
      have hm1 : n ≤ 150 := by omega
      have hm2 : n' ≤ 150 := by omega
      have HN := Lib.hid (And.intro hn hn')
      have HZ := Lib.hid hZ
      have HB := Lib.hid (And.intro hB hB')
      have HO := Lib.hid (And.intro hok hok')
      have HM := Lib.hid (And.intro hm1 hm2)
      have HC := Lib.hid (And.intro hc hc')
      have hal : ∀ e ∈ l ++ m, EdOk e := fun e he => by
        rcases List.mem_append.1 he with h | h
        · exact hok e h
        · exact hok' e h
      have HAL := Lib.hid hal
      clear hn hn' hZ hB hB' hok hok' hal hc hc'
      go_enter Tryd.func12, Tryd.ntmps12
      go_wp2_with (at_builtin; first
        | (refine wpList_app _ rfl _ _ 36 rfl w.heap.size 31 i0 (.agg #[.int .u32 0, .int .u32 0, .int .u64 0, .int .u32 0]) 4 24 Tryd.underlying36 hi hz0 hz1 hz2 rfl (by decide) (.slice none 0 0) 0 [] rfl (Own.nil _ _ _ _) w.heap.size A n c (edsC l) rfl (by rw [edsC_length, HN.out.1]) HB.out.1 (edsC_one l) (by unfold maxLen; omega) (by omega) (Nat.le_refl _) ?_; intro v1 w1 o1 g1 b1; have k1 : Keeps w w1 := keeps_grown g1 _ (Nat.le_refl _) (fun k hk => by simp [Value.ownBlock] at hk); rw [List.nil_append, Nat.zero_add] at o1; obtain ⟨A1, c1, rfl, hc1, hm1', -, -⟩ := o1.form; have O1 := Lib.hid o1; have K1 := Lib.hid k1; have hB1 := (HB.out.2.keep k1).more k1.size; clear o1 k1 g1 b1)
        | (refine wpList_app _ rfl _ _ 36 rfl w.heap.size 31 i0 (.agg #[.int .u32 0, .int .u32 0, .int .u64 0, .int .u32 0]) 4 24 Tryd.underlying36 hi hz0 hz1 hz2 rfl (by decide) _ _ _ rfl O1.out w1.heap.size A' n' c' (edsC m) rfl (by rw [edsC_length, HN.out.2]) hB1 (edsC_one m) (by unfold maxLen; omega) (by omega) K1.out.size ?_; intro v2 w2 o2 g2 b2; have k2 : Keeps w w2 := Below.trans K1.out (keeps_grown g2 _ K1.out.size (fun k hk => (O1.out.lt k hk).1)); rw [← edsC_append] at o2; obtain ⟨A2, c2, rfl, hc2, hm2', -, -⟩ := o2.form; have O2 := Lib.hid o2; have K2 := Lib.hid k2; clear o2 k2 g2 b2 hB1))
      have C3 := Lib.hid (K.reduce A n c l w2 (K.keep HZ.out K2.out) ((HB.out.1.keep K2.out).more K2.out.size) HO.out.1 HN.out.1 HC.out.1 (by omega))
      refine C3.out.mono ?_
      rintro e w3 ⟨a, ra, hne⟩
      obtain ⟨A3, c3, rfl, hc3, hm3, o3, k3⟩ := hne.form
      have hla : a.length ≤ 150 := by have := ra.len; have := HN.out.1; omega
      have O3 := Lib.hid o3
      have K3 := Lib.hid (keeps_trans K2.out k3)
      have K23 := Lib.hid k3
      have RA := Lib.hid ra
      have hB3 := o3.at_
      clear hne o3 k3 ra
      go_wp2_with (at_builtin; refine wpList_app _ rfl _ _ 36 rfl w3.heap.size 31 i0 (.agg #[.int .u32 0, .int .u32 0, .int .u64 0, .int .u32 0]) 4 24 Tryd.underlying36 hi hz0 hz1 hz2 rfl (by decide) (.slice none 0 0) 0 [] rfl (Own.nil _ _ _ _) w3.heap.size A3 a.length c3 (edsC a) rfl (edsC_length a) hB3 (edsC_one a) (by unfold maxLen; omega) (by omega) (Nat.le_refl _) ?_; intro v4 w4 o4 g4 b4; have k4 : Keeps w3 w4 := keeps_grown g4 _ (Nat.le_refl _) (fun k hk => by simp [Value.ownBlock] at hk); rw [List.nil_append, Nat.zero_add] at o4; obtain ⟨A4, c4, rfl, hc4, hm4', -, -⟩ := o4.form; have O4 := Lib.hid o4; have K4 := Lib.hid (keeps_trans K3.out k4); have K24 := Lib.hid (keeps_trans K23.out k4); have S34 := Lib.hid k4.size; clear o4 k4 g4 b4 hB3)
      have C5 := Lib.hid (K.reduce A' n' c' m w4 (K.keep HZ.out K4.out) ((HB.out.2.keep K4.out).more K4.out.size) HO.out.2 HN.out.2 HC.out.2 (by omega))
      refine C5.out.mono ?_
      rintro e w5 ⟨b, rb, hne⟩
      obtain ⟨A5, c5, rfl, hc5, hm5, o5, k5⟩ := hne.form
      have hlb : b.length ≤ 150 := by have := rb.len; have := HN.out.2; omega
      have O45 := Lib.hid (O4.out.keep k5)
      have K5 := Lib.hid (keeps_trans K4.out k5)
      have K25 := Lib.hid (keeps_trans K24.out k5)
      have SZ := Lib.hid (show w3.heap.size ≤ w5.heap.size from Nat.le_trans S34.out k5.size)
      have RB := Lib.hid rb
      have hB5 := o5.at_
      clear hne o5 k5 rb
      go_wp2_with (at_builtin; refine wpList_app _ rfl _ _ 36 rfl w3.heap.size 31 i0 (.agg #[.int .u32 0, .int .u32 0, .int .u64 0, .int .u32 0]) 4 24 Tryd.underlying36 hi hz0 hz1 hz2 rfl (by decide) _ _ _ rfl O45.out w5.heap.size A5 b.length c5 (edsC b) rfl (edsC_length b) hB5 (edsC_one b) (by unfold maxLen; omega) (by omega) SZ.out ?_; intro v6 w6 o6 g6 b6; have k6 : Keeps w w6 := Below.trans K5.out (keeps_grown g6 _ K5.out.size (fun k hk => Nat.le_trans K3.out.size (O45.out.lt k hk).1)); rw [← edsC_append] at o6; obtain ⟨A6, c6, rfl, hc6, hm6', -, -⟩ := o6.form; have O6 := Lib.hid o6; have K6 := Lib.hid k6; have G6 := Lib.hid g6; clear o6 k6 g6 b6 hB5)
      have O26 : Own w6 w.heap.size 31 4 (.slice A2 (n + n') c2) (n + n') (edsC (l ++ m)) := by
        refine (O2.out.keep K25.out).grown G6.out ?_
        cases hv : (Value.slice A2 (n + n') c2).ownBlock with
        | none => exact .inl rfl
        | some g =>
          right
          intro e
          have h1 := (O2.out.lt g hv).2
          have h2 := (O45.out.lt g e.symm).1
          have h3 := K23.out.size
          omega
      have C7 := Lib.hid (K.reduce A2 (n + n') c2 (l ++ m) w6 (K.keep HZ.out K6.out) O26.at_ HAL.out (by rw [List.length_append]; have := HN.out; omega) hc2 (by omega))
      clear O26
      refine C7.out.mono ?_
      rintro e w7 ⟨x, rx, hne⟩
      obtain ⟨A7, c7, rfl, hc7, hm7, o7, k7⟩ := hne.form
      have C8 := Lib.hid (K.reduce A6 (a.length + b.length) c6 (a ++ b) w7 (K.keep HZ.out (keeps_trans K6.out k7)) (O6.out.keep k7).at_ (fun e he => by
        rcases List.mem_append.1 he with h | h
        · exact HO.out.1 e (RA.out.mem e h)
        · exact HO.out.2 e (RB.out.mem e h)) (by rw [List.length_append]) hc6 (by omega))
      have O7 := Lib.hid o7
      have K7 := Lib.hid (keeps_trans K6.out k7)
      have RX := Lib.hid rx
      clear hne o7 k7 rx
      go_wp2_with fail
      refine C8.out.mono ?_
      rintro e w8 ⟨y, ry, hne⟩
      obtain rfl := (RA.out.join RB.out ry).eq HAL.out RX.out
      obtain ⟨A8, c8, rfl, hc8, hm8, o8, k8⟩ := hne.form
      have hly : y.length ≤ 1000 := by have := ry.len; rw [List.length_append] at this; omega
      have Q := Lib.hid (refEq_any A7 y.length c7 y A8 y.length c8 y w8 (O7.out.keep k8).at_ rfl o8.at_ rfl (by omega) (by omega))
      have K8 := Lib.hid (keeps_trans K7.out k8)
      clear hne o8 k8 ry
      go_wp2_with fail
      refine Q.out.mono ?_
      rintro e w9 ⟨hq, k9⟩
      obtain rfl : e = .returned (.bool true) := by
        rcases hq with ⟨e, _⟩ | ⟨_, e⟩
        · exact e
        · exact absurd rfl e
      clear hq
      have WW := Lib.hid (works_input K w9 (K.keep HZ.out (keeps_trans K8.out k9)))
      have K9 := Lib.hid (keeps_trans K8.out k9)
      clear k9
      go_wp2_with fail
      refine WW.out.mono ?_
      rintro e wa ⟨rfl, ka⟩
      go_wp2_with fail
      go_ret
      exact ⟨rfl, keeps_trans K9.out ka⟩
end Go.Proofs.YtbalejfloieiiaaDoor
