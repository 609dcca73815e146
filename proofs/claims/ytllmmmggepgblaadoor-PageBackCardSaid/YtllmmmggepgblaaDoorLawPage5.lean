/- The walk of PageBack. -/
import Derived.Test.YtllmmmggepgblaaDoorLawPage2
import Derived.Test.YtllmmmggepgblaaDoorBox
import Derived.Test.YtllmmmggepgblaaDoorPageEq
namespace Go.Proofs.YtllmmmggepgblaaDoor
open Go.RowKit
set_option linter.unusedSimpArgs false
set_option linter.unusedVariables false
set_option maxRecDepth 100000

set_option maxHeartbeats 4000000 in
theorem back7_walk (K : PageOk) (t n t' n' : Nat) (ht : t < 4294967296) (hn : n < 4294967296) (ht' : t' < 4294967296) (hn' : n' < 4294967296) (A : Option Addr) (m c : Nat) (b : List UInt8) (D : Option Addr) (m2 c2 : Nat) (p2 : List UInt8) (w : World) (hS : Sizes w) (hB : Bs w A b) (hm : m = b.length) (hc : m ≤ c) (hcm : c ≤ maxLen) (hD : Bs w D p2) (hm2 : m2 = p2.length) (hc2 : m2 ≤ c2) (hcm2 : c2 ≤ maxLen) :
    Calls Tryd.prog 5 #[.agg #[.slice A m c, .int .u32 t, .int .u32 n, .int .u32 t', .int .u32 n', .slice D m2 c2]] w (Yes7 w) := by
  have hlen : m ≤ maxLen := Nat.le_trans hc hcm
  have hlen2 : m2 ≤ maxLen := Nat.le_trans hc2 hcm2
  unfold maxLen at hlen hlen2
  have W := Lib.hid (fun W (k : Keeps w W) => works_page K W (hS.keep k))
  have k0 := keeps_trans (keeps_trans (keeps_alloc w (.cells #[.slice A m c, .int .u32 t, .int .u32 n, .int .u32 t', .int .u32 n', .slice D m2 c2] 38)) (keeps_alloc (w.alloc (.cells #[.slice A m c, .int .u32 t, .int .u32 n, .int .u32 t', .int .u32 n', .slice D m2 c2] 38)) (.cells #[.int .u32 t, .int .u32 n] 36))) (keeps_alloc ((w.alloc (.cells #[.slice A m c, .int .u32 t, .int .u32 n, .int .u32 t', .int .u32 n', .slice D m2 c2] 38)).alloc (.cells #[.int .u32 t, .int .u32 n] 36)) (.cells #[.int .u32 t', .int .u32 n'] 36))
  have bx : Box (((w.alloc (.cells #[.slice A m c, .int .u32 t, .int .u32 n, .int .u32 t', .int .u32 n', .slice D m2 c2] 38)).alloc (.cells #[.int .u32 t, .int .u32 n] 36)).alloc (.cells #[.int .u32 t', .int .u32 n'] 36)) (w.heap.size + 1) 36 #[.int .u32 t, .int .u32 n] := by
    have := (Box.new (w.alloc (.cells #[.slice A m c, .int .u32 t, .int .u32 n, .int .u32 t', .int .u32 n', .slice D m2 c2] 38)) 36 #[.int .u32 t, .int .u32 n]).keep (keeps_alloc ((w.alloc (.cells #[.slice A m c, .int .u32 t, .int .u32 n, .int .u32 t', .int .u32 n', .slice D m2 c2] 38)).alloc (.cells #[.int .u32 t, .int .u32 n] 36)) (.cells #[.int .u32 t', .int .u32 n'] 36))
    simpa using this
  have by_ : Box (((w.alloc (.cells #[.slice A m c, .int .u32 t, .int .u32 n, .int .u32 t', .int .u32 n', .slice D m2 c2] 38)).alloc (.cells #[.int .u32 t, .int .u32 n] 36)).alloc (.cells #[.int .u32 t', .int .u32 n'] 36)) (w.heap.size + 1 + 1) 36 #[.int .u32 t', .int .u32 n'] := by
    have := Box.new ((w.alloc (.cells #[.slice A m c, .int .u32 t, .int .u32 n, .int .u32 t', .int .u32 n', .slice D m2 c2] 38)).alloc (.cells #[.int .u32 t, .int .u32 n] 36)) 36 #[.int .u32 t', .int .u32 n']
    simpa using this
  have HN := Lib.hid hm
  have HB := Lib.hid hB
  have HN2 := Lib.hid hm2
  have HD := Lib.hid hD
  clear hm hB hm2 hD
  by_cases h : (4096 : Int) < m
  · go_enter Tryd.func5, Tryd.ntmps5
    go_wp2_with fail
    refine (W.out _ k0).mono ?_
    rintro e w3 ⟨rfl, k3⟩
    go_wp2_with fail
    go_ret
    exact ⟨rfl, keeps_trans k0 k3⟩
  · by_cases h2 : (4096 : Int) < m2
    · go_enter Tryd.func5, Tryd.ntmps5
      go_wp2_with fail
      refine (W.out _ k0).mono ?_
      rintro e w3 ⟨rfl, k3⟩
      go_wp2_with fail
      go_ret
      exact ⟨rfl, keeps_trans k0 k3⟩
    · have hmx : m ≤ 4096 := by omega
      have hmx2 : m2 ≤ 4096 := by omega
      by_cases h240 : m ≤ 240
      · have hb : b.length ≤ 240 := by rw [← HN.out]; exact h240
        have hpl := pageB_length (b := b) t n hb
        have hsaid := saidB_pageB t n b hb
        have hyes := isPage_pageB t n b hb
        have hoth := isPage_other ht hn ht' hn' b hb
        have MK := Lib.hid (fun W (k : Keeps w W) => K.make t n ht hn A m c b W (hS.keep k) (HB.out.keep k) HN.out hc hcm hb)
        have OY := Lib.hid (fun W (k : Keeps w W) A' c' hB' hc' hm' => K.takes t n ht hn A' 256 c' (pageB t n b) W (hS.keep k) hB' hpl.symm hc' hm' hyes)
        have OZ := Lib.hid (fun (hy : IsPage (pageB t n b) t' n') W (k : Keeps w W) A' c' hB' hc' hm' => K.takes t' n' ht' hn' A' 256 c' (pageB t n b) W (hS.keep k) hB' hpl.symm hc' hm' hy)
        have ON := Lib.hid (fun (hy : ¬ IsPage (pageB t n b) t' n') W (k : Keeps w W) A' c' hB' hc' hm' => K.rot t' n' ht' hn' A' 256 c' (pageB t n b) W (hS.keep k) hB' hpl.symm hc' hm' hy)
        rw [hsaid] at OY OZ
        have OPn := Lib.hid (fun (hy : ¬ IsPage p2 t n) W (k : Keeps w W) => K.rot t n ht hn D m2 c2 p2 W (hS.keep k) (HD.out.keep k) HN2.out hc2 hcm2 hy)
        have OPy := Lib.hid (fun (hy : IsPage p2 t n) W (k : Keeps w W) => K.takes t n ht hn D m2 c2 p2 W (hS.keep k) (HD.out.keep k) HN2.out hc2 hcm2 hy)
        have M2 := Lib.hid (fun (hy : IsPage p2 t n) W (k : Keeps w W) A' c' hB' hc' hm' => K.make t n ht hn A' (saidB p2).length c' (saidB p2) W (hS.keep k) hB' rfl hc' hm' (saidB_le hy))
        have E2 := Lib.hid (fun (hy : IsPage p2 t n) => hy.2.2)
        have HO := Lib.hid hoth
        clear hsaid hyes hoth
        generalize pageB t n b = p at *
        have hbl := hb
        clear hb
        go_enter Tryd.func5, Tryd.ntmps5
        go_wp2_with fail
        refine (MK.out _ k0).mono ?_
        generalize (((w.alloc (.cells #[.slice A m c, .int .u32 t, .int .u32 n, .int .u32 t', .int .u32 n', .slice D m2 c2] 38)).alloc (.cells #[.int .u32 t, .int .u32 n] 36)).alloc (.cells #[.int .u32 t', .int .u32 n'] 36)) = w2 at k0 bx by_ ⊢
        rintro e w3 ⟨v3, rfl, o3, k3⟩
        rw [hpl] at o3
        obtain ⟨A3, c3, rfl, hc3, hm3, -, -⟩ := o3.form
        have B3 := Own.at_ o3
        have q3 := keeps_trans k0 k3
        have bx3 := bx.keep k3
        have by3 := by_.keep k3
        have z0 := bx3.cell 0 rfl
        have z1 := bx3.cell 1 rfl
        clear o3
        go_wp2_with fail
        refine (OY.out _ q3 A3 c3 B3 hc3 hm3).mono ?_
        rintro e w4 ⟨v4, rfl, o4, k4⟩
        rw [← HN.out] at o4
        obtain ⟨A4, c4, rfl, hc4, hm4, -, -⟩ := o4.form
        have B4 := Own.at_ o4
        have q4 := keeps_trans q3 k4
        clear z0 z1
        have z0 := bx3.cell 0 rfl
        have y0 := (by3.keep k4).cell 0 rfl
        have y1 := (by3.keep k4).cell 1 rfl
        clear o4 z0
        go_wp2_with fail
        have EQ4 := Lib.hid (fun W (k : Keeps w4 W) => eqBytes_one A m c b A4 m c4 W (HB.out.keep (keeps_trans q4 k)) HN.out (Bs.keep B4 k) HN.out)
        by_cases he : t = t' ∧ n = n'
        · obtain ⟨rfl, rfl⟩ := he
          refine (OZ.out (HO.out.2 ⟨rfl, rfl⟩) _ q4 A3 c3 (Bs.keep B3 k4) hc3 hm3).mono ?_
          rintro e w5 ⟨v5, rfl, o5, k5⟩
          rw [← HN.out] at o5
          obtain ⟨A5, c5, rfl, hc5, hm5, -, -⟩ := o5.form
          have B5 : Bs w5 A5 b := Own.at_ o5
          have q5 := keeps_trans q4 k5
          clear y0 y1 o5
          have aq : (Op.equalIn 10000 36 (.agg #[.int .u32 (t : Int), .int .u32 (n : Int)]) (.agg #[.int .u32 (t : Int), .int .u32 (n : Int)])).run Tryd.prog w5 = .ok true w5 := by rw [run_two]; simp
          have z0 := (bx3.keep (keeps_trans k4 k5)).cell 0 rfl
          have z1 := (bx3.keep (keeps_trans k4 k5)).cell 1 rfl
          have y0 := (by3.keep (keeps_trans k4 k5)).cell 0 rfl
          have y1 := (by3.keep (keeps_trans k4 k5)).cell 1 rfl
          go_wp2_with fail
          refine (EQ4.out _ k5).mono ?_
          rintro e w' ⟨rfl, rfl⟩
          go_wp2_with fail
          refine (eqBytes_one A m c b A5 m c5 w5 (HB.out.keep q5) HN.out B5 HN.out).mono ?_
          rintro e w' ⟨rfl, rfl⟩
          clear B5
          go_wp2_with fail
          by_cases hp : IsPage p2 t n
          · refine (OPy.out hp _ q5).mono ?_
            rintro e w6 ⟨v6, rfl, o6, k6⟩
            obtain ⟨A6, c6, rfl, hc6, hm6, -, -⟩ := o6.form
            have B6 := Own.at_ o6
            have q6 := keeps_trans q5 k6
            have M6 := Lib.hid (M2.out hp w6 q6 A6 c6 B6 hc6 hm6)
            rw [← E2.out hp] at M6
            clear z0 z1 y0 y1 B6 o6
            have z0 := (bx3.keep (keeps_trans k4 (keeps_trans k5 k6))).cell 0 rfl
            have z1 := (bx3.keep (keeps_trans k4 (keeps_trans k5 k6))).cell 1 rfl
            generalize saidB p2 = sb at *
            go_wp2_with fail
            refine M6.out.mono ?_
            rintro e w7 ⟨v7, rfl, o7, k7⟩
            obtain ⟨A7, c7, rfl, hc7, hm7, -, -⟩ := o7.form
            have q7 := keeps_trans q6 k7
            have EQ7 := Lib.hid (eqBytes_one D m2 c2 p2 A7 p2.length c7 w7 (HD.out.keep q7) HN2.out (Own.at_ o7) rfl)
            clear o7
            go_wp2_with fail
            refine EQ7.out.mono ?_
            rintro e w' ⟨rfl, rfl⟩
            go_wp2_with fail
            refine (W.out _ q7).mono ?_
            rintro e w8 ⟨rfl, k8⟩
            go_wp2_with fail
            go_ret
            exact ⟨rfl, keeps_trans q7 k8⟩
          · refine (OPn.out hp _ q5).mono ?_
            rintro e w6 ⟨rfl, k6⟩
            have q6 := keeps_trans q5 k6
            clear hp
            go_wp2_with fail
            refine (W.out _ q6).mono ?_
            rintro e w7 ⟨rfl, k7⟩
            go_wp2_with fail
            go_ret
            exact ⟨rfl, keeps_trans q6 k7⟩
        · have hne := he
          by_cases h3 : t = t'
          · have h4 : ¬ n = n' := fun h => he ⟨h3, h⟩
            have h3' : ((t : Int) == (t' : Int)) = true := by simp; omega
            have h4' : ((n : Int) == (n' : Int)) = false := by simp; omega
            clear h3 h4 he
            refine (ON.out (fun hh => hne (HO.out.1 hh)) _ q4 A3 c3 (Bs.keep B3 k4) hc3 hm3).mono ?_
            rintro e w5 ⟨rfl, k5⟩
            have q5 := keeps_trans q4 k5
            clear y0 y1 hne
            have aq : (Op.equalIn 10000 36 (.agg #[.int .u32 (t : Int), .int .u32 (n : Int)]) (.agg #[.int .u32 (t' : Int), .int .u32 (n' : Int)])).run Tryd.prog w5 = .ok false w5 := by rw [run_two, h3', h4']; simp
            clear h3' h4'
            have z0 := (bx3.keep (keeps_trans k4 k5)).cell 0 rfl
            have z1 := (bx3.keep (keeps_trans k4 k5)).cell 1 rfl
            have y0 := (by3.keep (keeps_trans k4 k5)).cell 0 rfl
            have y1 := (by3.keep (keeps_trans k4 k5)).cell 1 rfl
            go_wp2_with fail
            refine (EQ4.out _ k5).mono ?_
            rintro e w' ⟨rfl, rfl⟩
            go_wp2_with fail
            by_cases hp : IsPage p2 t n
            · refine (OPy.out hp _ q5).mono ?_
              rintro e w6 ⟨v6, rfl, o6, k6⟩
              obtain ⟨A6, c6, rfl, hc6, hm6, -, -⟩ := o6.form
              have B6 := Own.at_ o6
              have q6 := keeps_trans q5 k6
              have M6 := Lib.hid (M2.out hp w6 q6 A6 c6 B6 hc6 hm6)
              rw [← E2.out hp] at M6
              clear z0 z1 y0 y1 B6 o6
              have z0 := (bx3.keep (keeps_trans k4 (keeps_trans k5 k6))).cell 0 rfl
              have z1 := (bx3.keep (keeps_trans k4 (keeps_trans k5 k6))).cell 1 rfl
              generalize saidB p2 = sb at *
              go_wp2_with fail
              refine M6.out.mono ?_
              rintro e w7 ⟨v7, rfl, o7, k7⟩
              obtain ⟨A7, c7, rfl, hc7, hm7, -, -⟩ := o7.form
              have q7 := keeps_trans q6 k7
              have EQ7 := Lib.hid (eqBytes_one D m2 c2 p2 A7 p2.length c7 w7 (HD.out.keep q7) HN2.out (Own.at_ o7) rfl)
              clear o7
              go_wp2_with fail
              refine EQ7.out.mono ?_
              rintro e w' ⟨rfl, rfl⟩
              go_wp2_with fail
              refine (W.out _ q7).mono ?_
              rintro e w8 ⟨rfl, k8⟩
              go_wp2_with fail
              go_ret
              exact ⟨rfl, keeps_trans q7 k8⟩
            · refine (OPn.out hp _ q5).mono ?_
              rintro e w6 ⟨rfl, k6⟩
              have q6 := keeps_trans q5 k6
              clear hp
              go_wp2_with fail
              refine (W.out _ q6).mono ?_
              rintro e w7 ⟨rfl, k7⟩
              go_wp2_with fail
              go_ret
              exact ⟨rfl, keeps_trans q6 k7⟩
          · have h3' : ((t : Int) == (t' : Int)) = false := by simp; omega
            clear h3 he
            refine (ON.out (fun hh => hne (HO.out.1 hh)) _ q4 A3 c3 (Bs.keep B3 k4) hc3 hm3).mono ?_
            rintro e w5 ⟨rfl, k5⟩
            have q5 := keeps_trans q4 k5
            clear y0 y1 hne
            have aq : (Op.equalIn 10000 36 (.agg #[.int .u32 (t : Int), .int .u32 (n : Int)]) (.agg #[.int .u32 (t' : Int), .int .u32 (n' : Int)])).run Tryd.prog w5 = .ok false w5 := by rw [run_two, h3']; simp
            clear h3'
            have z0 := (bx3.keep (keeps_trans k4 k5)).cell 0 rfl
            have z1 := (bx3.keep (keeps_trans k4 k5)).cell 1 rfl
            have y0 := (by3.keep (keeps_trans k4 k5)).cell 0 rfl
            have y1 := (by3.keep (keeps_trans k4 k5)).cell 1 rfl
            go_wp2_with fail
            refine (EQ4.out _ k5).mono ?_
            rintro e w' ⟨rfl, rfl⟩
            go_wp2_with fail
            by_cases hp : IsPage p2 t n
            · refine (OPy.out hp _ q5).mono ?_
              rintro e w6 ⟨v6, rfl, o6, k6⟩
              obtain ⟨A6, c6, rfl, hc6, hm6, -, -⟩ := o6.form
              have B6 := Own.at_ o6
              have q6 := keeps_trans q5 k6
              have M6 := Lib.hid (M2.out hp w6 q6 A6 c6 B6 hc6 hm6)
              rw [← E2.out hp] at M6
              clear z0 z1 y0 y1 B6 o6
              have z0 := (bx3.keep (keeps_trans k4 (keeps_trans k5 k6))).cell 0 rfl
              have z1 := (bx3.keep (keeps_trans k4 (keeps_trans k5 k6))).cell 1 rfl
              generalize saidB p2 = sb at *
              go_wp2_with fail
              refine M6.out.mono ?_
              rintro e w7 ⟨v7, rfl, o7, k7⟩
              obtain ⟨A7, c7, rfl, hc7, hm7, -, -⟩ := o7.form
              have q7 := keeps_trans q6 k7
              have EQ7 := Lib.hid (eqBytes_one D m2 c2 p2 A7 p2.length c7 w7 (HD.out.keep q7) HN2.out (Own.at_ o7) rfl)
              clear o7
              go_wp2_with fail
              refine EQ7.out.mono ?_
              rintro e w' ⟨rfl, rfl⟩
              go_wp2_with fail
              refine (W.out _ q7).mono ?_
              rintro e w8 ⟨rfl, k8⟩
              go_wp2_with fail
              go_ret
              exact ⟨rfl, keeps_trans q7 k8⟩
            · refine (OPn.out hp _ q5).mono ?_
              rintro e w6 ⟨rfl, k6⟩
              have q6 := keeps_trans q5 k6
              clear hp
              go_wp2_with fail
              refine (W.out _ q6).mono ?_
              rintro e w7 ⟨rfl, k7⟩
              go_wp2_with fail
              go_ret
              exact ⟨rfl, keeps_trans q6 k7⟩
      · have MK := Lib.hid (fun W (k : Keeps w W) => K.many t n A m c W (by omega) (by unfold maxLen; omega))
        go_enter Tryd.func5, Tryd.ntmps5
        go_wp2_with fail
        refine (MK.out _ k0).mono ?_
        generalize (((w.alloc (.cells #[.slice A m c, .int .u32 t, .int .u32 n, .int .u32 t', .int .u32 n', .slice D m2 c2] 38)).alloc (.cells #[.int .u32 t, .int .u32 n] 36)).alloc (.cells #[.int .u32 t', .int .u32 n'] 36)) = w2 at k0 bx by_ ⊢
        rintro e w3 ⟨rfl, k3⟩
        have q3 := keeps_trans k0 k3
        go_wp2_with fail
        refine (W.out _ q3).mono ?_
        rintro e w4 ⟨rfl, k4⟩
        go_wp2_with fail
        go_ret
        exact ⟨rfl, keeps_trans q3 k4⟩
end Go.Proofs.YtllmmmggepgblaaDoor
