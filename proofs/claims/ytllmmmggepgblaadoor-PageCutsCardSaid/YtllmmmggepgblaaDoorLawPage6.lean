/- The walk of PageCuts. -/
import Derived.Test.YtllmmmggepgblaaDoorLawPage2
import Derived.Test.YtllmmmggepgblaaDoorBox
import Derived.Test.YtllmmmggepgblaaDoorPageEq
namespace Go.Proofs.YtllmmmggepgblaaDoor
open Go.RowKit
set_option linter.unusedSimpArgs false
set_option linter.unusedVariables false
set_option maxRecDepth 100000

set_option maxHeartbeats 1600000 in
theorem cuts7_walk (K : PageOk) (t n t' n' : Nat) (ht : t < 4294967296) (hn : n < 4294967296) (A : Option Addr) (m c : Nat) (b : List UInt8) (D : Option Addr) (m2 c2 : Nat) (p2 : List UInt8) (z : Int) (hz1 : -9223372036854775808 ≤ z) (hz2 : z ≤ 9223372036854775807) (w : World) (hS : Sizes w) (hB : Bs w A b) (hm : m = b.length) (hc : m ≤ c) (hcm : c ≤ maxLen) (hD : Bs w D p2) (hm2 : m2 = p2.length) (hc2 : m2 ≤ c2) (hcm2 : c2 ≤ maxLen) :
    Calls Tryd.prog 8 #[.agg #[.slice A m c, .int .u32 t, .int .u32 n, .int .u32 t', .int .u32 n', .slice D m2 c2], .int .i64 z] w (Yes7 w) := by
  have hlen : m ≤ maxLen := Nat.le_trans hc hcm
  have hlen2 : m2 ≤ maxLen := Nat.le_trans hc2 hcm2
  unfold maxLen at hlen hlen2
  obtain ⟨i0, hi, hy0, hy1, hy2⟩ := info_parts info_u8
  have W := Lib.hid (fun W (k : Keeps w W) => works_page K W (hS.keep k))
  have k0 := keeps_alloc w (.cells #[.slice A m c, .int .u32 t, .int .u32 n, .int .u32 t', .int .u32 n', .slice D m2 c2] 38)
  have bx := Box.new w 38 #[.slice A m c, .int .u32 t, .int .u32 n, .int .u32 t', .int .u32 n', .slice D m2 c2]
  have HN := Lib.hid hm
  have HB := Lib.hid hB
  have HN2 := Lib.hid hm2
  have HD := Lib.hid hD
  clear hm hB hm2 hD
  by_cases h : (240 : Int) < m
  · go_enter Tryd.func8, Tryd.ntmps8
    go_wp2_with fail
    refine (W.out _ k0).mono ?_
    rintro e w3 ⟨rfl, k3⟩
    go_wp2_with fail
    go_ret
    exact ⟨rfl, keeps_trans k0 k3⟩
  · by_cases h2 : (1024 : Int) < m2
    · go_enter Tryd.func8, Tryd.ntmps8
      go_wp2_with fail
      refine (W.out _ k0).mono ?_
      rintro e w3 ⟨rfl, k3⟩
      go_wp2_with fail
      go_ret
      exact ⟨rfl, keeps_trans k0 k3⟩
    · have hmx : m ≤ 240 := by omega
      have hmx2 : m2 ≤ 1024 := by omega
      have hb : b.length ≤ 240 := by rw [← HN.out]; exact hmx
      have hpl := pageB_length (b := b) t n hb
      have hsaid := saidB_pageB t n b hb
      have hyes := isPage_pageB t n b hb
      have MK := Lib.hid (fun W (k : Keeps w W) => K.make t n ht hn A m c b W (hS.keep k) (HB.out.keep k) HN.out hc hcm hb)
      have OYES := Lib.hid (fun W (k : Keeps w W) A' len c' hB' (hl : len = 256) hc' hm' => K.takes t n ht hn A' len c' (pageB t n b) W (hS.keep k) hB' (hl.trans hpl.symm) hc' hm' hyes)
      have ONO := Lib.hid (fun W (k : Keeps w W) A' len c' q hB' (hl : len = q.length) hc' hm' (h256 : ¬ len = 256) => K.rot t n ht hn A' len c' q W (hS.keep k) hB' hl hc' hm' (fun hp => h256 (hl.trans hp.1)))
      generalize pageB t n b = p at *
      clear hb hsaid hyes
      go_enter Tryd.func8, Tryd.ntmps8
      go_wp2_with fail
      refine (MK.out _ k0).mono ?_
      generalize (w.alloc (.cells #[.slice A m c, .int .u32 t, .int .u32 n, .int .u32 t', .int .u32 n', .slice D m2 c2] 38)) = w2 at k0 bx ⊢
      rintro e w3 ⟨v3, rfl, o3, k3⟩
      rw [hpl] at o3
      obtain ⟨A3, c3, rfl, hc3, hm3, -, -⟩ := o3.form
      have B3 : Bs w3 A3 p := Own.at_ o3
      have q3 := keeps_trans k0 k3
      have bx3 := bx.keep k3
      have OWB := Lib.hid (show ∀ g, (Value.slice A3 256 c3).ownBlock = some g → w.heap.size < g + 0 ∧ True from fun g hg => ⟨Nat.lt_of_lt_of_le bx.lt ((o3.lt g hg).1), trivial⟩)
      have OWN := Lib.hid (fun W (k : Keeps w3 W) => (o3.base_le k0.size).keep k)
      clear o3
      by_cases hcut : 0 ≤ z ∧ z < 256
      · obtain ⟨a, rfl⟩ : ∃ a : Nat, z = (a : Int) := ⟨z.toNat, by omega⟩
        have ha : a < 256 := by omega
        have hac : a ≤ c3 := by omega
        clear hcut
        have OC := Lib.hid (fun W (k : Keeps w3 W) => ONO.out W (keeps_trans q3 k) A3 a c3 (p.take a) (Bs.take (Bs.keep B3 k) a) (by rw [List.length_take, hpl]; omega) hac hm3 (by omega))
        have BK := Lib.hid (fun W (k : Keeps w3 W) => And.intro ((bx3.keep k).cell 1 rfl) ((bx3.keep k).cell 2 rfl))
        clear B3
        go_wp2_with fail
        go_region_held3 (fun V => V.cell? ⟨w.heap.size, 1, none⟩ = some (.int .u32 (t : Int)) ∧ V.cell? ⟨w.heap.size, 2, none⟩ = some (.int .u32 (n : Int))) (exact BK.out _ (by first | exact keeps_drew _ | assumption)) (first
          | (go_at_call 19; refine (OC.out _ (keeps_drew _)).mono ?_; rintro e w5 ⟨rfl, k5⟩; replace k5 := keeps_trans (keeps_drew _) k5))
        clear OC BK
        have zP := (bx3.keep k5).cell 5 rfl
        have zT := (bx3.keep k5).cell 1 rfl
        have zN := (bx3.keep k5).cell 2 rfl
        have hB8 := (keeps_trans q3 k5).size
        go_wp2_with (first
          | (at_builtin; refine wpList_app _ rfl _ _ 23 rfl w.heap.size 5 i0 (.int .u8 0) 1 1 Tryd.underlying23 hi hy0 hy1 hy2 rfl (by decide) _ _ _ rfl (OWN.out w5 (by first | assumption | exact keeps_refl _)) w5.heap.size D m2 c2 (cel p2) rfl (by rw [cel_length, ← HN2.out, Nat.mul_one]) (HD.out.keep (keeps_trans q3 k5)) (cel_one p2) (by unfold maxLen; omega) (by omega) hB8 ?_; intro v8 w8 o8 g8 b8; clear zP zT zN; have k8 : Keeps w w8 := Below.grown (keeps_trans q3 k5) g8 hB8 (fun g hg => ((OWN.out w5 (by first | assumption | exact keeps_refl _)).lt g hg).1); have bx8 : Box w8 w.heap.size 38 #[.slice A m c, .int .u32 t, .int .u32 n, .int .u32 t', .int .u32 n', .slice D m2 c2] := (g8.block w.heap.size ((bx3.keep k5).lt) (fun e => (by have := (OWB.out w.heap.size e.symm).1; omega))).trans (bx3.keep k5); rw [← cel_append] at o8; obtain ⟨A8, c8, rfl, hc8, hm8, -, -⟩ := o8.form; have B8 : Bs w8 A8 (p ++ p2) := Own.at_ o8; have hl8 := Lib.hid (show 256 + m2 = (p ++ p2).length from (by rw [List.length_append, hpl, ← HN2.out])); have zP := bx8.cell 5 rfl; have zT := bx8.cell 1 rfl; have zN := bx8.cell 2 rfl; clear o8 g8 b8))
        by_cases h0 : m2 = 0
        · have hm20 : (m2 == 0) = true := by simp [h0]
          have hm2i : ((m2 : Int) == 0) = true := by simp [h0]
          have hp2 : p2 = [] := List.eq_nil_of_length_eq_zero (by rw [← HN2.out]; exact h0)
          have OY := Lib.hid (OYES.out w8 k8 A8 (256 + m2) c8 (by rw [hp2, List.append_nil] at B8; exact B8) (by omega) (by omega) hm8)
          clear hp2 B8
          go_wp2_with fail
          refine OY.out.mono ?_
          rintro e w9 ⟨v9, rfl, o9, k9⟩
          clear zP zT zN
          have zP := (bx8.keep k9).cell 5 rfl
          have q9 := keeps_trans k8 k9
          clear o9
          go_wp2_with fail
          refine (W.out _ q9).mono ?_
          rintro e w10 ⟨rfl, k10⟩
          go_wp2_with fail
          go_ret
          exact ⟨rfl, keeps_trans q9 k10⟩
        · have hm20 : (m2 == 0) = false := by simp [h0]
          have hm2i : ((m2 : Int) == 0) = false := by simp; omega
          have ON := Lib.hid (ONO.out w8 k8 A8 (256 + m2) c8 (p ++ p2) B8 hl8.out (by omega) hm8 (by omega))
          clear B8
          go_wp2_with fail
          refine ON.out.mono ?_
          rintro e w9 ⟨rfl, k9⟩
          clear zP zT zN
          have zP := (bx8.keep k9).cell 5 rfl
          have q9 := keeps_trans k8 k9
          go_wp2_with fail
          refine (W.out _ q9).mono ?_
          rintro e w10 ⟨rfl, k10⟩
          go_wp2_with fail
          go_ret
          exact ⟨rfl, keeps_trans q9 k10⟩
      · have k5 := keeps_refl w3
        clear B3
        by_cases hz : 0 ≤ z
        · have hz3 : decide (z < 256) = false := decide_eq_false (by omega)
          have hz4 : 256 ≤ z := by omega
          clear hcut
          have zP := (bx3.keep k5).cell 5 rfl
          have zT := (bx3.keep k5).cell 1 rfl
          have zN := (bx3.keep k5).cell 2 rfl
          have hB8 := (keeps_trans q3 k5).size
          go_wp2_with (first
            | (at_builtin; refine wpList_app _ rfl _ _ 23 rfl w.heap.size 5 i0 (.int .u8 0) 1 1 Tryd.underlying23 hi hy0 hy1 hy2 rfl (by decide) _ _ _ rfl (OWN.out w3 (by first | assumption | exact keeps_refl _)) w3.heap.size D m2 c2 (cel p2) rfl (by rw [cel_length, ← HN2.out, Nat.mul_one]) (HD.out.keep (keeps_trans q3 k5)) (cel_one p2) (by unfold maxLen; omega) (by omega) hB8 ?_; intro v8 w8 o8 g8 b8; clear zP zT zN; have k8 : Keeps w w8 := Below.grown (keeps_trans q3 k5) g8 hB8 (fun g hg => ((OWN.out w3 (by first | assumption | exact keeps_refl _)).lt g hg).1); have bx8 : Box w8 w.heap.size 38 #[.slice A m c, .int .u32 t, .int .u32 n, .int .u32 t', .int .u32 n', .slice D m2 c2] := (g8.block w.heap.size ((bx3.keep k5).lt) (fun e => (by have := (OWB.out w.heap.size e.symm).1; omega))).trans (bx3.keep k5); rw [← cel_append] at o8; obtain ⟨A8, c8, rfl, hc8, hm8, -, -⟩ := o8.form; have B8 : Bs w8 A8 (p ++ p2) := Own.at_ o8; have hl8 := Lib.hid (show 256 + m2 = (p ++ p2).length from (by rw [List.length_append, hpl, ← HN2.out])); have zP := bx8.cell 5 rfl; have zT := bx8.cell 1 rfl; have zN := bx8.cell 2 rfl; clear o8 g8 b8))
          by_cases h0 : m2 = 0
          · have hm20 : (m2 == 0) = true := by simp [h0]
            have hm2i : ((m2 : Int) == 0) = true := by simp [h0]
            have hp2 : p2 = [] := List.eq_nil_of_length_eq_zero (by rw [← HN2.out]; exact h0)
            have OY := Lib.hid (OYES.out w8 k8 A8 (256 + m2) c8 (by rw [hp2, List.append_nil] at B8; exact B8) (by omega) (by omega) hm8)
            clear hp2 B8
            go_wp2_with fail
            refine OY.out.mono ?_
            rintro e w9 ⟨v9, rfl, o9, k9⟩
            clear zP zT zN
            have zP := (bx8.keep k9).cell 5 rfl
            have q9 := keeps_trans k8 k9
            clear o9
            go_wp2_with fail
            refine (W.out _ q9).mono ?_
            rintro e w10 ⟨rfl, k10⟩
            go_wp2_with fail
            go_ret
            exact ⟨rfl, keeps_trans q9 k10⟩
          · have hm20 : (m2 == 0) = false := by simp [h0]
            have hm2i : ((m2 : Int) == 0) = false := by simp; omega
            have ON := Lib.hid (ONO.out w8 k8 A8 (256 + m2) c8 (p ++ p2) B8 hl8.out (by omega) hm8 (by omega))
            clear B8
            go_wp2_with fail
            refine ON.out.mono ?_
            rintro e w9 ⟨rfl, k9⟩
            clear zP zT zN
            have zP := (bx8.keep k9).cell 5 rfl
            have q9 := keeps_trans k8 k9
            go_wp2_with fail
            refine (W.out _ q9).mono ?_
            rintro e w10 ⟨rfl, k10⟩
            go_wp2_with fail
            go_ret
            exact ⟨rfl, keeps_trans q9 k10⟩
        · have hz4 : decide (0 ≤ z) = false := decide_eq_false hz
          clear hcut
          have zP := (bx3.keep k5).cell 5 rfl
          have zT := (bx3.keep k5).cell 1 rfl
          have zN := (bx3.keep k5).cell 2 rfl
          have hB8 := (keeps_trans q3 k5).size
          go_wp2_with (first
            | (at_builtin; refine wpList_app _ rfl _ _ 23 rfl w.heap.size 5 i0 (.int .u8 0) 1 1 Tryd.underlying23 hi hy0 hy1 hy2 rfl (by decide) _ _ _ rfl (OWN.out w3 (by first | assumption | exact keeps_refl _)) w3.heap.size D m2 c2 (cel p2) rfl (by rw [cel_length, ← HN2.out, Nat.mul_one]) (HD.out.keep (keeps_trans q3 k5)) (cel_one p2) (by unfold maxLen; omega) (by omega) hB8 ?_; intro v8 w8 o8 g8 b8; clear zP zT zN; have k8 : Keeps w w8 := Below.grown (keeps_trans q3 k5) g8 hB8 (fun g hg => ((OWN.out w3 (by first | assumption | exact keeps_refl _)).lt g hg).1); have bx8 : Box w8 w.heap.size 38 #[.slice A m c, .int .u32 t, .int .u32 n, .int .u32 t', .int .u32 n', .slice D m2 c2] := (g8.block w.heap.size ((bx3.keep k5).lt) (fun e => (by have := (OWB.out w.heap.size e.symm).1; omega))).trans (bx3.keep k5); rw [← cel_append] at o8; obtain ⟨A8, c8, rfl, hc8, hm8, -, -⟩ := o8.form; have B8 : Bs w8 A8 (p ++ p2) := Own.at_ o8; have hl8 := Lib.hid (show 256 + m2 = (p ++ p2).length from (by rw [List.length_append, hpl, ← HN2.out])); have zP := bx8.cell 5 rfl; have zT := bx8.cell 1 rfl; have zN := bx8.cell 2 rfl; clear o8 g8 b8))
          by_cases h0 : m2 = 0
          · have hm20 : (m2 == 0) = true := by simp [h0]
            have hm2i : ((m2 : Int) == 0) = true := by simp [h0]
            have hp2 : p2 = [] := List.eq_nil_of_length_eq_zero (by rw [← HN2.out]; exact h0)
            have OY := Lib.hid (OYES.out w8 k8 A8 (256 + m2) c8 (by rw [hp2, List.append_nil] at B8; exact B8) (by omega) (by omega) hm8)
            clear hp2 B8
            go_wp2_with fail
            refine OY.out.mono ?_
            rintro e w9 ⟨v9, rfl, o9, k9⟩
            clear zP zT zN
            have zP := (bx8.keep k9).cell 5 rfl
            have q9 := keeps_trans k8 k9
            clear o9
            go_wp2_with fail
            refine (W.out _ q9).mono ?_
            rintro e w10 ⟨rfl, k10⟩
            go_wp2_with fail
            go_ret
            exact ⟨rfl, keeps_trans q9 k10⟩
          · have hm20 : (m2 == 0) = false := by simp [h0]
            have hm2i : ((m2 : Int) == 0) = false := by simp; omega
            have ON := Lib.hid (ONO.out w8 k8 A8 (256 + m2) c8 (p ++ p2) B8 hl8.out (by omega) hm8 (by omega))
            clear B8
            go_wp2_with fail
            refine ON.out.mono ?_
            rintro e w9 ⟨rfl, k9⟩
            clear zP zT zN
            have zP := (bx8.keep k9).cell 5 rfl
            have q9 := keeps_trans k8 k9
            go_wp2_with fail
            refine (W.out _ q9).mono ?_
            rintro e w10 ⟨rfl, k10⟩
            go_wp2_with fail
            go_ret
            exact ⟨rfl, keeps_trans q9 k10⟩
end Go.Proofs.YtllmmmggepgblaaDoor
