/- The walk of InputCounts. -/
import Derived.Test.YtbalejfloieiiaaDoorLawInput4
namespace Go.Proofs.YtbalejfloieiiaaDoor
open Go.RowKit
set_option linter.unusedSimpArgs false
set_option linter.unusedVariables false
set_option maxRecDepth 100000

theorem drop_rev (l : List Ed) (j : Nat) (x : Ed) (h : l[j]? = some x) : (l.drop j).reverse = (l.drop (j + 1)).reverse ++ [x] := by
  obtain ⟨hj, e⟩ := List.getElem?_eq_some_iff.1 h
  rw [List.drop_eq_getElem_cons hj, List.reverse_cons, e]
theorem Red.rev {l c : List Ed} (h : Red l.reverse c) : Red l c := h.congr (fun e => List.mem_reverse)

set_option maxHeartbeats 16000000 in
theorem counts_few (K : InputOk) (A : Option Addr) (n c : Nat) (l : List Ed) (w : World) (hZ : K.Z w) (hB : At w w.heap.size A (edsC l)) (hok : ∀ e ∈ l, EdOk e) (hn : n = l.length) (hc : n ≤ c) (hm : n ≤ 200) :
    Calls Tryd.prog 8 #[.slice A n c] w (Yes w) := by
  obtain ⟨i0, hi, hz0, hz1, hz2⟩ := info_parts info_edge
  have C1 := Lib.hid (K.reduce A n c l w hZ hB hok hn hc (by omega))
  have HN := Lib.hid hn
  have HZ := Lib.hid hZ
  have HB := Lib.hid hB
  have HO := Lib.hid hok
  have HM := Lib.hid hm
  have hs : decide ((200 : Int) < (n : Int)) = false := decide_eq_false (by omega)
  clear hn hZ hB hok hm
  go_enter Tryd.func8, Tryd.ntmps8
  go_wp2_with fail
  refine C1.out.mono ?_
  rintro e w1 ⟨a, ra, hne⟩
  obtain ⟨A1, c1, rfl, hc1, hm1, o1, k1⟩ := hne.form
  have RA := Lib.hid ra
  have O1 := Lib.hid o1
  have K1 := Lib.hid k1
  have HC1 := Lib.hid hc1
  have HAL := Lib.hid (show a.length ≤ 200 from by have := ra.len; have := HN.out; have := HM.out; omega)
  have HAO := Lib.hid (fun e he => HO.out e (ra.mem e he))
  clear hne o1 k1 ra hc1
  have hnb : (n : Int) ≤ 200 := by have := HM.out; omega
  go_wp2_with fail
  clear hnb
  go_loopw [4, 5] (fun v i wr => ∃ j : Nat, j ≤ n ∧ i = .int .i64 ((j : Int) - 1) ∧ Own wr w1.heap.size 31 4 v (n - j) (edsC (l.drop j).reverse) ∧ Keeps w1 wr) (fun _ i _ => (intOf i + 1).toNat)
  case atStart => exact ⟨n, Nat.le_refl _, rfl, by rw [HN.out, List.drop_length, Nat.sub_self]; exact Own.nil _ _ _ _, keeps_refl _⟩
  case round =>
    obtain ⟨j, hj, rfl, ho, hk⟩ := hrel
    obtain ⟨A4, c4, rfl, hc4, hm4, -, -⟩ := ho.form
    rcases j with _ | j
    · have O4 := Lib.hid ho
      have K4 := Lib.hid hk
      clear ho hk hj
      have C2 := Lib.hid (K.reduce A1 a.length c1 a wr (K.keep HZ.out (keeps_trans K1.out K4.out)) (O1.out.keep K4.out).at_ HAO.out rfl HC1.out (by have := HAL.out; omega))
      rw [List.drop_zero, Nat.sub_zero] at O4
      rw [Nat.sub_zero] at hc4 ⊢
      have hnl : l.reverse.length = n := by rw [List.length_reverse, HN.out]
      go_wp2_with fail
      refine C2.out.mono ?_
      rintro e w3 ⟨b, rb, hne⟩
      obtain rfl := rb.eq HAO.out RA.out.again
      obtain ⟨A3, c3, rfl, hc3, hm3, o3, k3⟩ := hne.form
      have hal := HAL.out
      have KA := Lib.hid (keeps_trans K4.out k3)
      have Q := Lib.hid (refEq_any A1 b.length c1 b A3 b.length c3 b w3 (O1.out.keep KA.out).at_ rfl o3.at_ rfl (by omega) (by omega))
      have K3 := Lib.hid k3
      clear hne o3 k3 rb
      go_wp2_with fail
      refine Q.out.mono ?_
      rintro e w5 ⟨hq, k5⟩
      obtain rfl : e = .returned (.bool true) := by
        rcases hq with ⟨e, _⟩ | ⟨_, e⟩
        · exact e
        · exact absurd rfl e
      clear hq
      have C6 := Lib.hid (K.reduce A4 n c4 l.reverse w5 (K.keep HZ.out (keeps_trans K1.out (keeps_trans KA.out k5))) (O4.out.keep (keeps_trans K3.out k5)).at_ (fun e he => HO.out e (List.mem_reverse.1 he)) hnl.symm hc4 (by have := HM.out; omega))
      have KB := Lib.hid (keeps_trans KA.out k5)
      clear k5
      go_wp2_with fail
      refine C6.out.mono ?_
      rintro e w6 ⟨d, rd, hne⟩
      obtain rfl := rd.rev.eq HO.out RA.out
      obtain ⟨A6, c6, rfl, hc6, hm6, o6, k6⟩ := hne.form
      have KC := Lib.hid (keeps_trans KB.out k6)
      have Q2 := Lib.hid (refEq_any A1 d.length c1 d A6 d.length c6 d w6 (O1.out.keep KC.out).at_ rfl o6.at_ rfl (by omega) (by omega))
      clear hne o6 k6 rd
      go_wp2_with fail
      refine Q2.out.mono ?_
      rintro e w7 ⟨hq, k7⟩
      obtain rfl : e = .returned (.bool true) := by
        rcases hq with ⟨e, _⟩ | ⟨_, e⟩
        · exact e
        · exact absurd rfl e
      clear hq
      have KD := Lib.hid (keeps_trans KC.out k7)
      have OA := Lib.hid (show At w7 w7.heap.size (A1) (edsC d) from (O1.out.keep (keeps_trans KC.out k7)).at_)
      have LA := Lib.hid (show At w7 w.heap.size A (edsC l) from HB.out.keep (keeps_trans K1.out (keeps_trans KC.out k7)))
      clear k7 hal hnl
      go_wp2_with fail
      go_loopw [6] (fun i wr => ∃ j : Nat, j ≤ d.length ∧ i = .int .i64 j ∧ Keeps w7 wr) (fun i _ => d.length - (intOf i).toNat)
      case atStart => exact ⟨0, Nat.zero_le _, rfl, keeps_refl _⟩
      case round =>
        obtain ⟨j, hj, rfl, hk⟩ := hrel
        have HK := Lib.hid hk
        clear hk
        by_cases hlt : j < d.length
        · obtain ⟨x, hx⟩ : ∃ x, d[j]? = some x := ⟨_, List.getElem?_eq_getElem hlt⟩
          have hxo := RA.out.loop x (List.mem_of_getElem? hx)
          obtain ⟨ad, rfl, _, hE⟩ := eds_at OA.out hx
          have t1 : ((x.t : Int) == (x.h : Int)) = false := by rw [beq_eq_false_iff_ne]; omega
          have HJ := Lib.hid hlt
          have RI := Lib.hid RA.out.rise
          have j2 : (j : Int) < 200 := by have := HAL.out; omega
          rcases j with _ | j
          · obtain ⟨a0, a1, a2, a3⟩ := (show EdIn wr ad x from hE.keep HK.out)
            have hp : (0 : Int) < (d.length : Int) := by omega
            have hp2 : 0 < d.length := hlt
            clear hlt hx hE hj hxo
            rw [show ((0 : Nat) : Int) = 0 from rfl]
            go_wp2_with fail
            go_quiet (fail)
            go_wp2_with fail
            go_roundw
            case rel => exact ⟨1, by have := HJ.out; omega, by go_num, keeps_trans HK.out (keeps_drewN _ _)⟩
            case measure => have := HJ.out; simp [intOf]; omega
          · obtain ⟨y, hy⟩ : ∃ y, d[j]? = some y := ⟨_, List.getElem?_eq_getElem (by omega)⟩
            obtain ⟨ad', e', _, hF⟩ := eds_at OA.out hy
            obtain rfl := Option.some.inj e'
            obtain ⟨b0, b1, b2, b3⟩ := hF.keep HK.out
            obtain ⟨a0, a1, a2, a3⟩ := hE.keep HK.out
            have hyx : ahd y x = true := by
              obtain ⟨q1, e1⟩ := List.getElem?_eq_some_iff.1 hx
              obtain ⟨q2, e2⟩ := List.getElem?_eq_some_iff.1 hy
              have := List.pairwise_iff_getElem.1 RA.out.rise j (j + 1) q2 q1 (by omega)
              rw [e1, e2] at this
              exact this
            rw [ahd_true] at hyx
            have jl : (j : Int) + 1 < (d.length : Int) := by omega
            have jl2 : (j : Int) < (d.length : Int) := by omega
            have j0 : (0 : Int) ≤ (j : Int) := by omega
            have ways : (decide (x.t < y.t) = false ∧ ((y.t : Int) == (x.t : Int)) = false) ∨ (decide (x.t < y.t) = false ∧ ((y.t : Int) == (x.t : Int)) = true ∧ decide (x.h ≤ y.h) = false) := by
              rcases hyx with h | ⟨h1, h2⟩
              · left
                exact ⟨decide_eq_false (by omega), by rw [beq_eq_false_iff_ne]; omega⟩
              · right
                exact ⟨decide_eq_false (by omega), by rw [beq_iff_eq]; omega, decide_eq_false (by omega)⟩
            clear hlt hx hE hj hxo hy hF hyx
            rw [show ((j + 1 : Nat) : Int) = (j : Int) + 1 from by omega] at j2 ⊢
            rcases ways with ⟨g1, g2⟩ | ⟨g1, g2, g3⟩
            all_goals
              go_wp2_with fail
              go_quiet (fail)
              go_wp2_with fail
              go_roundw
              case rel => exact ⟨j + 1 + 1, by have := HJ.out; omega, by go_num, keeps_trans HK.out (keeps_drewN _ _)⟩
              case measure => have := HJ.out; simp [intOf]; omega
        · obtain rfl : j = d.length := by omega
          clear hlt hj
          go_wp2_with fail
          go_loopw [7] (fun i wr => ∃ j : Nat, j ≤ n ∧ i = .int .i64 j ∧ Keeps w7 wr) (fun i _ => n - (intOf i).toNat)
          case atStart => exact ⟨0, Nat.zero_le _, rfl, HK.out⟩
          case round =>
            obtain ⟨j, hj, rfl, hk⟩ := hrel
            have HK := Lib.hid hk
            clear hk
            by_cases hlt : j < n
            · obtain ⟨x, hx⟩ : ∃ x, l[j]? = some x := ⟨_, List.getElem?_eq_getElem (by have := HN.out; omega)⟩
              obtain ⟨ad, rfl, _, hE⟩ := eds_at LA.out hx
              have HX := Lib.hid hx
              have HE := Lib.hid hE
              have HJ := Lib.hid hlt
              have j0 : (0 : Int) ≤ (j : Int) := by omega
              have j1 : (j : Int) < (n : Int) := by omega
              have j2 : (j : Int) < 200 := by have := HM.out; omega
              clear hlt hj hx hE
              go_wp2_with fail
              go_loopw [8] (fun i wr => ∃ q : Nat, q ≤ d.length ∧ i = .int .i64 q ∧ (∀ (i : Nat) (y : Ed), i < q → d[i]? = some y → ¬ Pair x y) ∧ Keeps w7 wr) (fun i _ => d.length - (intOf i).toNat)
              case atStart => exact ⟨0, Nat.zero_le _, rfl, fun i y h => by omega, HK.out⟩
              case round =>
                obtain ⟨q, hq, rfl, hnp, hk⟩ := hrel
                obtain ⟨x0, x1, x2, x3⟩ := HE.out.keep hk
                have HK2 := Lib.hid hk
                have NP := Lib.hid hnp
                clear hk hnp
                by_cases hlt : q < d.length
                · obtain ⟨y, hy⟩ : ∃ y, d[q]? = some y := ⟨_, List.getElem?_eq_getElem hlt⟩
                  obtain ⟨ad2, rfl, _, hF⟩ := eds_at OA.out hy
                  obtain ⟨y0, y1, y2, y3⟩ := hF.keep HK2.out
                  have HF := Lib.hid hF
                  have HY := Lib.hid hy
                  have HQ := Lib.hid hlt
                  have q0 : (0 : Int) ≤ (q : Int) := by omega
                  have q1 : (q : Int) < (d.length : Int) := by omega
                  have q2 : (q : Int) < 200 := by have := HAL.out; omega
                  by_cases hp : Pair x y
                  · have hyo := RA.out.loop y (List.mem_of_getElem? hy)
                    have hbe := RA.out.best y (List.mem_of_getElem? hy) x (List.mem_of_getElem? HX.out) hp
                    have e3 : ((x.t : Int) == (x.h : Int)) = false := by rw [beq_eq_false_iff_ne]; have := hp.1; have := hp.2; omega
                    have e4 : decide (x.x < y.x) = false := decide_eq_false (fun h => by
                      simp [betE, betB, h] at hbe)
                    have e5 : ((q : Int) == (d.length : Int)) = false := by rw [beq_eq_false_iff_ne]; omega
                    have e6 : decide (q = d.length) = false := decide_eq_false (by omega)
                    have hql : q < d.length := hlt
                    obtain ⟨yt, yh, yx, ym⟩ := y
                    obtain ⟨h1, h2⟩ := hp
                    simp only at h1 h2 e4
                    subst h1
                    subst h2
                    clear hlt hq hy hF hyo hbe
                    go_wp2_with fail
                    go_quiet (fail)
                    clear x0 x1 x2 x3 y0 y1 y2 y3
                    have k9 := keeps_trans HK2.out (keeps_drewN wr nq)
                    generalize wr.drewN nq = wq at *
                    obtain ⟨x0, x1, x2, x3⟩ := HE.out.keep k9
                    obtain ⟨y0, y1, y2, y3⟩ := HF.out.keep k9
                    go_wp2_with fail
                    go_quiet (fail)
                    go_wp2_with fail
                    go_roundw
                    case rel => exact ⟨j + 1, by have := HJ.out; omega, by go_num, keeps_trans k9 (keeps_drewN _ _)⟩
                    case measure => have := HJ.out; simp [intOf]; omega
                  · have ways : (((y.t : Int) == (x.t : Int)) = false ∧ ((y.t : Int) != (x.t : Int)) = true) ∨ (y.t = x.t ∧ ((y.h : Int) == (x.h : Int)) = false ∧ ((y.h : Int) != (x.h : Int)) = true) := by
                      by_cases h : y.t = x.t
                      · right
                        have h2 : ¬ (y.h : Int) = (x.h : Int) := fun e => hp ⟨h.symm, by omega⟩
                        exact ⟨h, by rw [beq_eq_false_iff_ne]; exact h2, by rw [bne_iff_ne]; exact h2⟩
                      · left
                        have h2 : ¬ (y.t : Int) = (x.t : Int) := fun e => h (by omega)
                        exact ⟨by rw [beq_eq_false_iff_ne]; exact h2, by rw [bne_iff_ne]; exact h2⟩
                    have NP2 := Lib.hid hp
                    have hql : q < d.length := hlt
                    clear hlt hq hy hF hp
                    rcases ways with ⟨g1, g2⟩ | ⟨g0, g1, g2⟩
                    · go_wp2_with fail
                      go_quiet (fail)
                      go_wp2_with fail
                      go_roundw
                      case rel => exact ⟨q + 1, by have := HQ.out; omega, by go_num, fun i y' hi hy' => by
                        by_cases e : i = q
                        · subst e
                          rw [HY.out] at hy'
                          obtain rfl := Option.some.inj hy'
                          exact NP2.out
                        · exact NP.out i y' (by omega) hy', keeps_trans HK2.out (keeps_drewN _ _)⟩
                      case measure => have := HQ.out; simp [intOf]; omega
                    · obtain ⟨yt, yh, yx, ym⟩ := y
                      simp only at g0 g1 g2
                      subst g0
                      go_wp2_with fail
                      go_quiet (fail)
                      go_wp2_with fail
                      go_roundw
                      case rel => exact ⟨q + 1, by have := HQ.out; omega, by go_num, fun i y' hi hy' => by
                        by_cases e : i = q
                        · subst e
                          rw [HY.out] at hy'
                          obtain rfl := Option.some.inj hy'
                          exact NP2.out
                        · exact NP.out i y' (by omega) hy', keeps_trans HK2.out (keeps_drewN _ _)⟩
                      case measure => have := HQ.out; simp [intOf]; omega
                · obtain rfl : q = d.length := by omega
                  have e3 : ((x.t : Int) == (x.h : Int)) = true := by
                    rw [beq_iff_eq]
                    by_cases h : x.t = x.h
                    · omega
                    · obtain ⟨y, hy, hp⟩ := RA.out.all x (List.mem_of_getElem? HX.out) h
                      obtain ⟨i, hi⟩ := List.getElem?_of_mem hy
                      exact absurd hp (NP.out i y (List.getElem?_eq_some_iff.1 hi).1 hi)
                  clear hlt hq
                  go_wp2_with fail
                  go_quiet (fail)
                  clear x0 x1 x2 x3
                  have k9 := keeps_trans HK2.out (keeps_drewN wr nq)
                  generalize wr.drewN nq = wq at *
                  obtain ⟨x0, x1, x2, x3⟩ := HE.out.keep k9
                  go_wp2_with fail
                  go_quiet (fail)
                  go_wp2_with fail
                  go_roundw
                  case rel => exact ⟨j + 1, by have := HJ.out; omega, by go_num, keeps_trans k9 (keeps_drewN _ _)⟩
                  case measure => have := HJ.out; simp [intOf]; omega
            · obtain rfl : j = n := by omega
              clear hlt hj
              go_wp2_with fail
              go_loopw [9, 10, 11] (fun i _ _ wr => ∃ k : Nat, k ≤ d.length ∧ i = .int .i64 k ∧ Keeps w7 wr) (fun i _ _ _ => d.length - (intOf i).toNat)
              case atStart => exact ⟨0, Nat.zero_le _, rfl, HK.out⟩
              case round =>
                obtain ⟨k, hkd, rfl, hk⟩ := hrel
                have HK := Lib.hid hk
                clear hk
                by_cases hlt : k < d.length
                · obtain ⟨y, hy⟩ : ∃ y, d[k]? = some y := ⟨_, List.getElem?_eq_getElem hlt⟩
                  obtain ⟨ad2, rfl, _, hF⟩ := eds_at OA.out hy
                  have HF := Lib.hid hF
                  have YM := Lib.hid (RA.out.mem y (List.mem_of_getElem? hy))
                  have HJ := Lib.hid hlt
                  have k0 : (0 : Int) ≤ (k : Int) := by omega
                  have k1 : (k : Int) < (d.length : Int) := by omega
                  have k2 : (k : Int) < 200 := by have := HAL.out; omega
                  have kn : k < d.length := hlt
                  clear hlt hkd hy hF
                  go_wp2_with fail
                  go_loopw [10, 11] (fun th i wr => ∃ (b : Bool) (q : Nat), q ≤ j ∧ th = .bool b ∧ i = .int .i64 q ∧ (b = false → ∀ (i : Nat), i < q → l[i]? ≠ some y) ∧ Keeps w7 wr) (fun _ i _ => j - (intOf i).toNat)
                  case atStart => exact ⟨false, 0, Nat.zero_le _, rfl, rfl, fun _ i h => by omega, HK.out⟩
                  case round =>
                    obtain ⟨b, q, hq, rfl, rfl, hnb, hk⟩ := hrel
                    obtain ⟨y0, y1, y2, y3⟩ := HF.out.keep hk
                    have HK2 := Lib.hid hk
                    have NB := Lib.hid hnb
                    clear hk hnb
                    by_cases hlt : q < j
                    · obtain ⟨x, hx⟩ : ∃ x, l[q]? = some x := ⟨_, List.getElem?_eq_getElem (by have := HN.out; omega)⟩
                      obtain ⟨ad, rfl, _, hE⟩ := eds_at LA.out hx
                      obtain ⟨x0, x1, x2, x3⟩ := hE.keep HK2.out
                      have HX := Lib.hid hx
                      have HQ := Lib.hid hlt
                      have q0 : (0 : Int) ≤ (q : Int) := by omega
                      have q1 : (q : Int) < (j : Int) := by omega
                      have q2 : (q : Int) < 200 := by have := HM.out; omega
                      have qn : q < j := hlt
                      clear hlt hq hx hE
                      cases b
                      · by_cases heq : x = y
                        · subst heq
                          go_wp2_with fail
                          go_quiet (fail)
                          go_wp2_with fail
                          go_roundw
                          case rel => exact ⟨true, q + 1, by have := HQ.out; omega, rfl, by go_num, (fun h => by cases h), keeps_trans HK2.out (keeps_drewN _ _)⟩
                          case measure => have := HQ.out; simp [intOf]; omega
                        · have hd : x.t ≠ y.t ∨ (x.t = y.t ∧ x.h ≠ y.h) ∨ (x.t = y.t ∧ x.h = y.h ∧ x.x ≠ y.x) ∨ (x.t = y.t ∧ x.h = y.h ∧ x.x = y.x ∧ x.m ≠ y.m) := by
                            by_cases h1 : x.t = y.t
                            · by_cases h2 : x.h = y.h
                              · by_cases h3 : x.x = y.x
                                · by_cases h4 : x.m = y.m
                                  · exact absurd (by cases x; cases y; simp_all) heq
                                  · exact .inr (.inr (.inr ⟨h1, h2, h3, h4⟩))
                                · exact .inr (.inr (.inl ⟨h1, h2, h3⟩))
                              · exact .inr (.inl ⟨h1, h2⟩)
                            · exact .inl h1
                          have ways : ((x.t : Int) == (y.t : Int)) = false ∨ (((x.t : Int) == (y.t : Int)) = true ∧ ((x.h : Int) == (y.h : Int)) = false) ∨ (((x.t : Int) == (y.t : Int)) = true ∧ ((x.h : Int) == (y.h : Int)) = true ∧ ((x.x : Int) == (y.x : Int)) = false) ∨ (((x.t : Int) == (y.t : Int)) = true ∧ ((x.h : Int) == (y.h : Int)) = true ∧ ((x.x : Int) == (y.x : Int)) = true ∧ ((x.m : Int) == (y.m : Int)) = false) := by
                            simp only [beq_eq_false_iff_ne, beq_iff_eq, ne_eq, Int.natCast_inj]
                            exact hd
                          have HNE := Lib.hid heq
                          clear heq hd
                          rcases ways with w1 | ⟨w1, w2⟩ | ⟨w1, w2, w3⟩ | ⟨w1, w2, w3, w4⟩
                          all_goals
                            go_wp2_with fail
                            go_quiet (fail)
                            go_wp2_with fail
                            go_roundw
                            case rel => exact ⟨false, q + 1, by have := HQ.out; omega, rfl, by go_num, fun _ i hi e => by
                              by_cases h : i = q
                              · subst h
                                rw [HX.out] at e
                                exact HNE.out (Option.some.inj e)
                              · exact NB.out (by simp) i (by omega) e, keeps_trans HK2.out (keeps_drewN _ _)⟩
                            case measure => have := HQ.out; simp [intOf]; omega
                      · clear x0 x1 x2 x3 y0 y1 y2 y3
                        go_wp2_with fail
                        go_quiet (fail)
                        go_wp2_with fail
                        go_roundw
                        case rel => exact ⟨true, q + 1, by have := HQ.out; omega, rfl, by go_num, (fun h => by cases h), keeps_trans HK2.out (keeps_drewN _ _)⟩
                        case measure => have := HQ.out; simp [intOf]; omega
                    · obtain rfl : q = j := by omega
                      obtain rfl : b = true := by
                        cases b
                        · obtain ⟨i, hi⟩ := List.getElem?_of_mem YM.out
                          exact absurd hi (NB.out (by simp) i (by have := HN.out; have := (List.getElem?_eq_some_iff.1 hi).1; omega))
                        · rfl
                      clear hlt hq y0 y1 y2 y3
                      go_wp2_with fail
                      go_roundw
                      case rel => exact ⟨k + 1, by have := HJ.out; omega, by go_num, HK2.out⟩
                      case measure => have := HJ.out; simp [intOf]; omega
                · obtain rfl : k = d.length := by omega
                  have WW := Lib.hid (works_input K _ (K.keep HZ.out (keeps_trans K1.out (keeps_trans KD.out HK.out))))
                  clear hlt hkd
                  go_wp2_with fail
                  refine WW.out.mono ?_
                  rintro e w8 ⟨rfl, k8⟩
                  go_wp2_with fail
                  go_ret
                  exact ⟨rfl, keeps_trans K1.out (keeps_trans KD.out (keeps_trans HK.out k8))⟩
    · obtain ⟨x, hx⟩ : ∃ x, l[j]? = some x := ⟨_, List.getElem?_eq_getElem (by have := HN.out; omega)⟩
      obtain ⟨ad, rfl, _, hE⟩ := eds_at HB.out hx
      obtain ⟨a0, a1, a2, a3⟩ := hE.keep (keeps_trans K1.out hk)
      have DR := Lib.hid (drop_rev l j x hx)
      have j0 : (0 : Int) ≤ (j : Int) := by omega
      have j1 : (j : Int) < (n : Int) := by omega
      have j2 : (j : Int) < 200 := by have := HM.out; omega
      have HJ := Lib.hid hj
      have hsz := hk.size
      have O4 := Lib.hid ho
      have KK := Lib.hid hk
      have hb : n - (j + 1) ≤ 200 := by have := HM.out; omega
      clear ho hk hx hE hj
      go_wp2_with (at_builtin; refine wpList_app _ rfl _ _ 36 rfl w1.heap.size 31 i0 (.agg #[.int .u32 0, .int .u32 0, .int .u64 0, .int .u32 0]) 4 24 Tryd.underlying36 hi hz0 hz1 hz2 rfl (by decide) _ _ _ rfl (O4.out.keep (keeps_alloc _ _)) (wr.heap.size + 1) _ 1 1 (edC x) rfl rfl (At.new _ _ _ _ (by omega)) (edsC_one [x]) (by unfold maxLen; omega) (by omega) (by simp; omega) ?_; intro v' w5 o5 g5 b5)
      go_roundw
      case rel => exact ⟨j, by have := HJ.out; omega, by go_num, by
        have e1 : n - j = n - (j + 1) + 1 := by have := HJ.out; omega
        have e2 : edsC (l.drop j).reverse = edsC (l.drop (j + 1)).reverse ++ edC x := by rw [DR.out]; simp [edsC]
        rw [e1, e2]
        exact o5, Below.trans (keeps_trans KK.out (keeps_alloc _ _)) (keeps_grown g5 _ (by simp; omega) (fun k hk => (O4.out.lt k hk).1))⟩
      case measure => first | (simp [intOf]; done) | (simp [intOf]; omega)

theorem counts_walk (K : InputOk) (A : Option Addr) (n c : Nat) (l : List Ed) (w : World) (hZ : K.Z w) (hB : At w w.heap.size A (edsC l)) (hok : ∀ e ∈ l, EdOk e) (hn : n = l.length) (hc : n ≤ c) (hlen : n ≤ maxLen) :
    Calls Tryd.prog 8 #[.slice A n c] w (Yes w) := by
  unfold maxLen at hlen
  by_cases h : (200 : Int) < n
  · have W := Lib.hid (works_input K w hZ)
    clear hn hB
    go_enter Tryd.func8, Tryd.ntmps8
    go_wp2_with (go_at_call 14; refine W.out.mono ?_; rintro e w1 ⟨rfl, k1⟩)
    go_ret
    exact ⟨rfl, k1⟩
  · exact counts_few K A n c l w hZ hB hok hn hc (by omega)
end Go.Proofs.YtbalejfloieiiaaDoor
