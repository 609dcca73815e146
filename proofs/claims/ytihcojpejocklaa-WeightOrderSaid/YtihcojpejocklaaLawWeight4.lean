/- The walk of WeightOrder. -/
import Derived.Test.YtihcojpejocklaaLawWeight3
namespace Go.Proofs.Ytihcojpejocklaa
open Go.RowKit
set_option linter.unusedSimpArgs false
set_option linter.unusedVariables false
set_option maxRecDepth 100000

/-- the walk of WeightOrder, whatever is answered -/
structure Ord (t h x m t' h' x' m' t'' h'' x'' m'' : Nat) (ab ba bc ac qx qm : Bool) : Prop where
  c1 : ∀ w, Calls Try.prog 16 #[.agg #[.int .u32 t, .int .u32 h, .int .u64 x, .int .u32 m], .agg #[.int .u32 t', .int .u32 h', .int .u64 x', .int .u32 m']] w fun e w' => e = .returned (.bool ab) ∧ Keeps w w'
  c2 : ∀ w, Calls Try.prog 16 #[.agg #[.int .u32 t', .int .u32 h', .int .u64 x', .int .u32 m'], .agg #[.int .u32 t, .int .u32 h, .int .u64 x, .int .u32 m]] w fun e w' => e = .returned (.bool ba) ∧ Keeps w w'
  c3 : ∀ w, Calls Try.prog 16 #[.agg #[.int .u32 t, .int .u32 h, .int .u64 x, .int .u32 m], .agg #[.int .u32 t, .int .u32 h, .int .u64 x, .int .u32 m]] w fun e w' => e = .returned (.bool false) ∧ Keeps w w'
  c4 : ∀ w, Calls Try.prog 16 #[.agg #[.int .u32 t', .int .u32 h', .int .u64 x', .int .u32 m'], .agg #[.int .u32 t'', .int .u32 h'', .int .u64 x'', .int .u32 m'']] w fun e w' => e = .returned (.bool bc) ∧ Keeps w w'
  c5 : ∀ w, Calls Try.prog 16 #[.agg #[.int .u32 t, .int .u32 h, .int .u64 x, .int .u32 m], .agg #[.int .u32 t'', .int .u32 h'', .int .u64 x'', .int .u32 m'']] w fun e w' => e = .returned (.bool ac) ∧ Keeps w w'
  c6 : ∀ w, Calls Try.prog 16 #[.agg #[.int .u32 h', .int .u32 t'', .int .u64 x, .int .u32 m], .agg #[.int .u32 t', .int .u32 h', .int .u64 x', .int .u32 m']] w fun e w' => e = .returned (.bool ab) ∧ Keeps w w'
  c7 : ∀ w, Calls Try.prog 16 #[.agg #[.int .u32 t', .int .u32 h', .int .u64 x', .int .u32 m'], .agg #[.int .u32 h', .int .u32 t'', .int .u64 x, .int .u32 m]] w fun e w' => e = .returned (.bool ba) ∧ Keeps w w'
  ex : ((x : Int) == (x' : Int)) = qx
  em : ((m : Int) == (m' : Int)) = qm
  no : (ab && ba) = false
  eq : (!ab && !ba) = (qx && qm)
  tr : ab = true → bc = true → ac = true

set_option maxHeartbeats 8000000 in
theorem order_core (K : WeightOk) (t h x m t' h' x' m' t'' h'' x'' m'' : Nat) (ab ba bc ac qx qm : Bool) (F : Ord t h x m t' h' x' m' t'' h'' x'' m'' ab ba bc ac qx qm) (w : World) :
    Calls Try.prog 5 #[.agg #[.int .u32 t, .int .u32 h, .int .u64 x, .int .u32 m], .agg #[.int .u32 t', .int .u32 h', .int .u64 x', .int .u32 m'], .agg #[.int .u32 t'', .int .u32 h'', .int .u64 x'', .int .u32 m'']] w (Yes w) := by
  have WW := Lib.hid (fun W => works_weight K W)
  have C1 := Lib.hid F.c1
  have C2 := Lib.hid F.c2
  have C3 := Lib.hid F.c3
  have C4 := Lib.hid F.c4
  have C5 := Lib.hid F.c5
  have C6 := Lib.hid F.c6
  have C7 := Lib.hid F.c7
  have ex := F.ex
  have em := F.em
  have no := F.no
  have eq := F.eq
  have tr := F.tr
  clear F K
  have kk : Keeps w (((w.alloc (.cells #[.int .u32 t, .int .u32 h, .int .u64 x, .int .u32 m] 30)).alloc (.cells #[.int .u32 t', .int .u32 h', .int .u64 x', .int .u32 m'] 30)).alloc (.cells #[.int .u32 t'', .int .u32 h'', .int .u64 x'', .int .u32 m''] 30)) := keeps_trans (keeps_alloc _ _) (keeps_trans (keeps_alloc _ _) (keeps_alloc _ _))
  have BA := Lib.hid (fun (W : World) (k : Keeps (((w.alloc (.cells #[.int .u32 t, .int .u32 h, .int .u64 x, .int .u32 m] 30)).alloc (.cells #[.int .u32 t', .int .u32 h', .int .u64 x', .int .u32 m'] 30)).alloc (.cells #[.int .u32 t'', .int .u32 h'', .int .u64 x'', .int .u32 m''] 30)) W) =>
    And.intro (((Box.new w 30 #[.int .u32 t, .int .u32 h, .int .u64 x, .int .u32 m]).keep (keeps_trans (keeps_alloc _ _) (keeps_trans (keeps_alloc _ _) k))).ed) (And.intro (((Box.new (w.alloc (.cells #[.int .u32 t, .int .u32 h, .int .u64 x, .int .u32 m] 30)) 30 #[.int .u32 t', .int .u32 h', .int .u64 x', .int .u32 m']).keep (keeps_trans (keeps_alloc _ _) k)).ed)
     (((Box.new ((w.alloc (.cells #[.int .u32 t, .int .u32 h, .int .u64 x, .int .u32 m] 30)).alloc (.cells #[.int .u32 t', .int .u32 h', .int .u64 x', .int .u32 m'] 30)) 30 #[.int .u32 t'', .int .u32 h'', .int .u64 x'', .int .u32 m'']).keep k).ed)))
  have es : (w.alloc (.cells #[.int .u32 t, .int .u32 h, .int .u64 x, .int .u32 m] 30)).heap.size = w.heap.size + 1 := by simp
  have es2 : ((w.alloc (.cells #[.int .u32 t, .int .u32 h, .int .u64 x, .int .u32 m] 30)).alloc (.cells #[.int .u32 t', .int .u32 h', .int .u64 x', .int .u32 m'] 30)).heap.size = w.heap.size + 1 + 1 := by simp
  rw [es, es2] at BA
  have e0 := Lib.hid (show (((w.alloc (.cells #[.int .u32 t, .int .u32 h, .int .u64 x, .int .u32 m] 30)).alloc (.cells #[.int .u32 t', .int .u32 h', .int .u64 x', .int .u32 m'] 30)).alloc (.cells #[.int .u32 t'', .int .u32 h'', .int .u64 x'', .int .u32 m''] 30)).heap.size = w.heap.size + 1 + 1 + 1 by simp)
  clear es es2
  cases ab
  all_goals
    cases ba
    all_goals
      first
      | (exfalso; revert no; decide)
      | (cases qx
         all_goals
           cases qm
           all_goals first
             | (exfalso; revert eq; decide)
             | (clear no eq
                cases bc
                all_goals
                  try (obtain rfl : ac = true := tr rfl rfl)
                  clear tr
                  go_enter Try.func5, Try.ntmps5
                  go_wp2_with fail
                  generalize (((w.alloc (.cells #[.int .u32 t, .int .u32 h, .int .u64 x, .int .u32 m] 30)).alloc (.cells #[.int .u32 t', .int .u32 h', .int .u64 x', .int .u32 m'] 30)).alloc (.cells #[.int .u32 t'', .int .u32 h'', .int .u64 x'', .int .u32 m''] 30)) = W0 at *
                  refine (C1.out _).mono ?_
                  rintro e w1 ⟨rfl, k1⟩
                  obtain ⟨⟨a0, a1, a2, a3⟩, ⟨b0, b1, b2, b3⟩, c0, c1, c2, c3⟩ := BA.out _ k1
                  go_wp2_with fail
                  clear a0 a1 a2 a3 b0 b1 b2 b3 c0 c1 c2 c3
                  refine (C2.out _).mono ?_
                  rintro e w2 ⟨rfl, k2⟩
                  replace k2 := keeps_trans k1 k2
                  obtain ⟨⟨a0, a1, a2, a3⟩, ⟨b0, b1, b2, b3⟩, c0, c1, c2, c3⟩ := BA.out _ k2
                  go_wp2_with fail
                  clear a0 a1 a2 a3 b0 b1 b2 b3 c0 c1 c2 c3
                  refine (C3.out _).mono ?_
                  rintro e w3 ⟨rfl, k3⟩
                  replace k3 := keeps_trans k2 k3
                  obtain ⟨⟨a0, a1, a2, a3⟩, ⟨b0, b1, b2, b3⟩, c0, c1, c2, c3⟩ := BA.out _ k3
                  have hs3 : w.heap.size < w3.heap.size := by have := e0.out; have := k3.size; omega
                  have hs3' : w.heap.size + 1 < w3.heap.size := by have := e0.out; have := k3.size; omega
                  have hs3'' : w.heap.size + 1 + 1 < w3.heap.size := by have := e0.out; have := k3.size; omega
                  go_wp2_with fail
                  try
                    ((with_reducible refine (C4.out _).mono ?_)
                     clear a0 a1 a2 a3 b0 b1 b2 b3 c0 c1 c2 c3 hs3 hs3' hs3''
                     rintro e w4 ⟨rfl, kx⟩
                     replace k3 := keeps_trans k3 kx
                     clear kx
                     obtain ⟨⟨a0, a1, a2, a3⟩, ⟨b0, b1, b2, b3⟩, c0, c1, c2, c3⟩ := BA.out _ k3
                     have hs3 : w.heap.size < w4.heap.size := by have := e0.out; have := k3.size; omega
                     have hs3' : w.heap.size + 1 < w4.heap.size := by have := e0.out; have := k3.size; omega
                     have hs3'' : w.heap.size + 1 + 1 < w4.heap.size := by have := e0.out; have := k3.size; omega
                     go_wp2_with fail
                     skip)
                  try
                    ((with_reducible refine (C5.out _).mono ?_)
                     clear a0 a1 a2 a3 b0 b1 b2 b3 c0 c1 c2 c3 hs3 hs3' hs3''
                     rintro e w5 ⟨rfl, kx⟩
                     replace k3 := keeps_trans k3 kx
                     clear kx
                     obtain ⟨⟨a0, a1, a2, a3⟩, ⟨b0, b1, b2, b3⟩, c0, c1, c2, c3⟩ := BA.out _ k3
                     have hs3 : w.heap.size < w5.heap.size := by have := e0.out; have := k3.size; omega
                     have hs3' : w.heap.size + 1 < w5.heap.size := by have := e0.out; have := k3.size; omega
                     have hs3'' : w.heap.size + 1 + 1 < w5.heap.size := by have := e0.out; have := k3.size; omega
                     go_wp2_with fail
                     skip)
                  clear a0 a1 a2 a3 b0 b1 b2 b3 c0 c1 c2 c3 hs3 hs3' hs3''
                  refine (C6.out _).mono ?_
                  rintro e w6 ⟨rfl, k6⟩
                  have k7 := keeps_trans k3 (keeps_trans (keeps_alloc _ _) k6)
                  obtain ⟨⟨a0, a1, a2, a3⟩, ⟨b0, b1, b2, b3⟩, c0, c1, c2, c3⟩ := BA.out _ k7
                  obtain ⟨d0, d1, d2, d3⟩ := ((Box.new _ _ _).keep k6).ed
                  go_wp2_with fail
                  clear a0 a1 a2 a3 b0 b1 b2 b3 c0 c1 c2 c3 d0 d1 d2 d3
                  refine (C7.out _).mono ?_
                  rintro e w8 ⟨rfl, k8⟩
                  replace k7 := keeps_trans k7 k8
                  go_wp2_with fail
                  refine (WW.out _).mono ?_
                  rintro e w9 ⟨rfl, k9⟩
                  go_wp2_with fail
                  go_ret
                  exact ⟨rfl, keeps_trans kk (keeps_trans k7 k9)⟩))

theorem order_walk (K : WeightOk) (t h x m t' h' x' m' t'' h'' x'' m'' : Nat) (ht : t < 4294967296) (hh : h < 4294967296) (hx : x < 18446744073709551616) (hm : m < 4294967296) (ht' : t' < 4294967296) (hh' : h' < 4294967296) (hx' : x' < 18446744073709551616) (hm' : m' < 4294967296) (ht'' : t'' < 4294967296) (hh'' : h'' < 4294967296) (hx'' : x'' < 18446744073709551616) (hm'' : m'' < 4294967296) (w : World) :
    Calls Try.prog 5 #[.agg #[.int .u32 t, .int .u32 h, .int .u64 x, .int .u32 m], .agg #[.int .u32 t', .int .u32 h', .int .u64 x', .int .u32 m'], .agg #[.int .u32 t'', .int .u32 h'', .int .u64 x'', .int .u32 m'']] w (Yes w) := by
  refine order_core K t h x m t' h' x' m' t'' h'' x'' m'' (betB x m x' m') (betB x' m' x m) (betB x' m' x'' m'') (betB x m x'' m'') ((x : Int) == (x' : Int)) ((m : Int) == (m' : Int))
    ⟨K.better t h x m t' h' x' m' ht hh hx hm ht' hh' hx' hm', K.better t' h' x' m' t h x m ht' hh' hx' hm' ht hh hx hm, ?_, K.better t' h' x' m' t'' h'' x'' m'' ht' hh' hx' hm' ht'' hh'' hx'' hm'',
     K.better t h x m t'' h'' x'' m'' ht hh hx hm ht'' hh'' hx'' hm'', K.better h' t'' x m t' h' x' m' hh' ht'' hx hm ht' hh' hx' hm', K.better t' h' x' m' h' t'' x m ht' hh' hx' hm' hh' ht'' hx hm, rfl, rfl, ?_, ?_, ?_⟩ w
  · have := K.better t h x m t h x m ht hh hx hm ht hh hx hm
    rw [betB_irr] at this
    exact this
  · cases h1 : betB x m x' m'
    · rfl
    · rw [betB_asym h1]; rfl
  · cases h1 : betB x m x' m' <;> cases h2 : betB x' m' x m
    · obtain ⟨rfl, rfl⟩ := betB_tot hm hm' h1 h2
      simp
    · rw [betB_true] at h2
      by_cases e : x = x'
      · subst e
        have hne : ¬ m = m' := by
          intro e; subst e
          simp at h2
        have : ((m : Int) == (m' : Int)) = false := by simp; omega
        simp [this]
      · have : ((x : Int) == (x' : Int)) = false := by simp; omega
        simp [this]
    · rw [betB_true] at h1
      by_cases e : x = x'
      · subst e
        have hne : ¬ m = m' := by
          intro e; subst e
          simp at h1
        have : ((m : Int) == (m' : Int)) = false := by simp; omega
        simp [this]
      · have : ((x : Int) == (x' : Int)) = false := by simp; omega
        simp [this]
    · have := betB_asym h1
      rw [h2] at this
      cases this
  · exact betB_trans
end Go.Proofs.Ytihcojpejocklaa
