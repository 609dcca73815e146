/- slices.Sort at []uint32: partialInsertionSortOrdered. -/
import Derived.Test.YtdfaogagadoooaaSoA
namespace Go.Proofs.Ytdfaogagadoooaa
open Go.RowKit Go.Sort
set_option linter.unusedSimpArgs false
set_option linter.unusedVariables false
set_option maxRecDepth 100000

theorem scan_on {d : Array Nat} {b i : Nat} (h : i < b) (k : ltN d[i]! d[i - 1]! = false) : scanSorted ltN d b i = scanSorted ltN d b (i + 1) := by rw [scanSorted, if_pos (by simp [h, k])]
theorem scan_at {d : Array Nat} {b i : Nat} (h : i < b) (k : ltN d[i]! d[i - 1]! = true) : scanSorted ltN d b i = i := by rw [scanSorted, if_neg (by simp [k])]
theorem scan_end {d : Array Nat} {b i : Nat} (h : ¬ i < b) : scanSorted ltN d b i = i := by rw [scanSorted, if_neg (by simp [h])]
theorem down_no {j : Nat} {d : Array Nat} (h : ltN d[j]! d[j - 1]! = false) : shiftDown ltN j d = d := by
  cases j with
  | zero => rfl
  | succ j => simp only [Nat.add_sub_cancel] at h; rw [shiftDown, h]; rfl
theorem down_yes {j : Nat} {d : Array Nat} (h0 : 1 ≤ j) (h : ltN d[j]! d[j - 1]! = true) : shiftDown ltN j d = shiftDown ltN (j - 1) (Sort.swp d j (j - 1)) := by
  cases j with
  | zero => omega
  | succ j => simp only [Nat.add_sub_cancel] at h ⊢; rw [shiftDown, h]; rfl
theorem down_zero {d : Array Nat} : shiftDown ltN 0 d = d := rfl
theorem up_end {b j : Nat} {d : Array Nat} (h : ¬ j < b) : shiftUp ltN b j d = d := by rw [shiftUp, if_neg h]
theorem up_no {b j : Nat} {d : Array Nat} (h0 : j < b) (h : ltN d[j]! d[j - 1]! = false) : shiftUp ltN b j d = d := by rw [shiftUp, if_pos h0, h]; rfl
theorem up_yes {b j : Nat} {d : Array Nat} (h0 : j < b) (h : ltN d[j]! d[j - 1]! = true) : shiftUp ltN b j d = shiftUp ltN b (j + 1) (Sort.swp d j (j - 1)) := by rw [shiftUp, if_pos h0, h]; rfl
theorem pi_end {a b s i : Nat} {d : Array Nat} (h : scanSorted ltN d b i = b) : partialIns ltN a b (s + 1) i d = (d, true) := by rw [partialIns, h, if_pos rfl]
theorem pi_short {a b s i : Nat} {d : Array Nat} (h : scanSorted ltN d b i ≠ b) (h5 : b - a < 50) : partialIns ltN a b (s + 1) i d = (d, false) := by rw [partialIns, if_neg h, if_pos h5]
theorem pi_go {a b s i : Nat} {d : Array Nat} {I : Nat} (hI : scanSorted ltN d b i = I) (h : I ≠ b) (h5 : ¬ b - a < 50) {D1 D2 : Array Nat} (h1 : D1 = if I - a ≥ 2 then shiftDown ltN (I - 1) (Sort.swp d I (I - 1)) else Sort.swp d I (I - 1))
    (h2 : D2 = if b - I ≥ 2 then shiftUp ltN b (I + 1) D1 else D1) : partialIns ltN a b (s + 1) i d = partialIns ltN a b s I D2 := by
  rw [partialIns]
  simp only [hI]
  rw [if_neg h, if_neg h5, h2, h1]
theorem SoR.perm {w W : World} {base g n cap : Nat} {d : Array Nat} (h : SoR w W base g n cap d) : d.size = n := h.size

set_option maxHeartbeats 16000000 in
theorem part_u32 {w : World} {base g n cap a b : Nat} {d : Array Nat} (h : Own w base 30 1 (.slice (some ⟨g, 0, none⟩) n cap) n (celU d.toList)) (hab : a < b) (hb : b ≤ n) (hn : n ≤ 1000000) :
    Calls Try.prog 34 #[.slice (some ⟨g, 0, none⟩) n cap, .int .i64 (a : Int), .int .i64 (b : Int)] w fun e w' => e = .returned (.bool (partialInsertionSort ltN d a b).2) ∧ SoR w w' base g n cap (partialInsertionSort ltN d a b).1 := by
  have H := Lib.hid (SoR.start h)
  obtain ⟨R, hR⟩ : ∃ R, partialInsertionSort ltN d a b = R := ⟨_, rfl⟩
  rw [hR]
  obtain ⟨R, rb⟩ := R
  have HR := Lib.hid (show partialIns ltN a b 5 (a + 1) d = (R, rb) from hR)
  obtain ⟨l, hl⟩ : ∃ z, z = b - a := ⟨_, rfl⟩
  have w1 : IntKind.i64.wrap ((b : Int) - (a : Int)) = (l : Int) := by rw [IntKind.wrap_i64]; omega
  have nI : (n : Int) ≤ 1000000 := by omega
  have bI : (b : Int) ≤ (n : Int) := by omega
  have aI : (a : Int) < (b : Int) := by omega
  have a0 : (0 : Int) ≤ (a : Int) := by omega
  have lI : (l : Int) ≤ (n : Int) := by omega
  have F := Lib.hid (And.intro hl (And.intro hab hb))
  have LS := Lib.hid (fun (x y : Nat) => less_u32 x y)
  clear h hR hb hn hab hl
  go_enter Try.func34, Try.ntmps34
  go_wp2_with fail
  go_loopw [7, 8] (fun u v wr => ∃ (i j : Nat) (d2 : Array Nat), u = .int .i64 i ∧ v = .int .i64 j ∧ a < i ∧ i ≤ b ∧ j ≤ 5 ∧ SoR w wr base g n cap d2 ∧ partialIns ltN a b (5 - j) i d2 = (R, rb)) (fun _ v _ => 5 - (intOf v).toNat)
  case atStart => exact ⟨a + 1, 0, d, by go_num, rfl, by omega, by omega, by omega, H.out, HR.out⟩
  case round =>
    obtain ⟨i, j, d2, rfl, rfl, hai, hib, hj, hS, hE⟩ := hrel
    have S1 := Lib.hid hS
    have E1 := Lib.hid hE
    have J := Lib.hid hj
    clear hS hE
    by_cases hj5 : j < 5
    · have g1 : (j : Int) < 5 := by omega
      have g1b : decide (j < 5) = true := decide_eq_true hj5
      have E2 := Lib.hid (show partialIns ltN a b ((4 - j) + 1) i d2 = (R, rb) by rw [← E1.out, show 4 - j + 1 = 5 - j by omega])
      obtain ⟨I, hI⟩ : ∃ I, scanSorted ltN d2 b i = I := ⟨_, rfl⟩
      have HI := Lib.hid hI
      have G := Lib.hid (And.intro hai (And.intro hib hj5))
      clear hai hib hj hj5 hI
      go_wp2_with fail
      go_loopw [7] (fun u wr => ∃ (k : Nat), u = .int .i64 k ∧ a < k ∧ k ≤ b ∧ SoR w wr base g n cap d2 ∧ scanSorted ltN d2 b k = I) (fun u _ => b - (intOf u).toNat)
      case atStart => exact ⟨i, rfl, G.out.1, G.out.2.1, S1.out, HI.out⟩
      case round =>
        obtain ⟨k, rfl, hak, hkb, hS, hE⟩ := hrel
        have S2 := Lib.hid hS
        have E3 := Lib.hid hE
        have hF := F.out
        clear hS hE
        by_cases hkb2 : k < b
        · have g2 : (k : Int) < (b : Int) := by omega
          have g2b : decide (k < b) = true := decide_eq_true hkb2
          obtain ⟨km, hkm⟩ : ∃ z, z = k - 1 := ⟨_, rfl⟩
          have w2 : IntKind.i64.wrap ((k : Int) - 1) = (km : Int) := by rw [IntKind.wrap_i64]; omega
          have kN : k < n := by omega
          have kmN : km < n := by omega
          have k0I : (0 : Int) ≤ (k : Int) := by omega
          have k1I : (k : Int) < (n : Int) := by omega
          have m0I : (0 : Int) ≤ (km : Int) := by omega
          have m1I : (km : Int) < (n : Int) := by omega
          obtain ⟨x, hx⟩ : ∃ z, d2[k]! = z := ⟨_, rfl⟩
          obtain ⟨y, hy⟩ : ∃ z, d2[km]! = z := ⟨_, rfl⟩
          have c0 := S2.out.at kN hx
          have c1 := S2.out.at kmN hy
          have LL := Lib.hid (LS.out x y)
          have X := Lib.hid (And.intro hx hy)
          have K := Lib.hid (And.intro hak (And.intro hkb2 (And.intro hkm (And.intro kN kmN))))
          have g3 : decide (k = b) = false := decide_eq_false (by omega)
          have g3b : ((k : Int) == (b : Int)) = false := by simp; omega
          have g3c : decide ((k : Int) = (b : Int)) = false := decide_eq_false (by omega)
          clear hak hkb hkb2 hkm kN kmN hx hy hF
          go_wp2_with fail
          go_quiet (exact Calls.quiet_of_same (LL.out _))
          have k9 := keeps_drewN wr nq
          generalize wr.drewN nq = wq at *
          have S3 := Lib.hid (S2.out.keep k9)
          clear k9 c0 c1
          cases hb : ltN x y
          · have E4 := Lib.hid (show scanSorted ltN d2 b (k + 1) = I by rw [← E3.out, scan_on K.out.2.1 (by rw [← K.out.2.2.1, X.out.1, X.out.2]; exact hb)])
            go_wp2_with fail
            go_roundw
            case rel => exact ⟨k + 1, by go_num, by have := K.out; omega, by have := K.out; omega, S3.out, E4.out⟩
            case measure => have := K.out; simp [intOf]; omega
          · obtain rfl : k = I := by rw [← E3.out, scan_at K.out.2.1 (by rw [← K.out.2.2.1, X.out.1, X.out.2]; exact hb)]
            by_cases h50 : l < 50
            · have g4 : (l : Int) < 50 := by omega
              have g4b : decide (l < 50) = true := decide_eq_true h50
              have E4 := Lib.hid (show R = d2 ∧ rb = false by
                have h1 := pi_short (a := a) (s := 4 - j) (d := d2) (b := b) (i := i) (by rw [HI.out]; have := K.out; omega) (by have := F.out; omega)
                rw [E2.out] at h1
                simpa using h1)
              clear h50
              go_wp2_with fail
              go_ret
              exact ⟨by rw [E4.out.2]; simp, E4.out.1 ▸ S3.out⟩
            · have g4 : decide ((l : Int) < 50) = false := decide_eq_false (by omega)
              have g4b : decide (l < 50) = false := decide_eq_false h50
              have PG := Lib.hid (fun (D1 D2 : Array Nat) (h1 : D1 = if k - a ≥ 2 then shiftDown ltN (k - 1) (Sort.swp d2 k (k - 1)) else Sort.swp d2 k (k - 1)) (h2 : D2 = if b - k ≥ 2 then shiftUp ltN b (k + 1) D1 else D1) => show partialIns ltN a b (4 - j) k D2 = (R, rb) by
                rw [← E2.out]
                exact (pi_go (s := 4 - j) HI.out (by have := K.out; omega) (by have := F.out; omega) h1 h2).symm)
              have SW := Lib.hid (S3.out.swpx K.out.2.2.2.1 K.out.2.2.2.2 X.out.1 X.out.2)
              have c0 := S3.out.at K.out.2.2.2.1 X.out.1
              have c1 := S3.out.at K.out.2.2.2.2 X.out.2
              have f0 := S3.out.fz K.out.2.2.2.1
              have f1 := S3.out.fz K.out.2.2.2.2
              have n1 : k ≠ km := by have := K.out; omega
              have n2 : km ≠ k := by omega
              obtain ⟨la, hla⟩ : ∃ z, z = k - a := ⟨_, rfl⟩
              obtain ⟨lb, hlb⟩ : ∃ z, z = b - k := ⟨_, rfl⟩
              have w3 : IntKind.i64.wrap ((k : Int) - (a : Int)) = (la : Int) := by rw [IntKind.wrap_i64]; have := K.out; omega
              have w4 : IntKind.i64.wrap ((b : Int) - (k : Int)) = (lb : Int) := by rw [IntKind.wrap_i64]; have := K.out; omega
              have N := Lib.hid (And.intro hla hlb)
              have D0 := Lib.hid (show Sort.swp d2 k km = Sort.swp d2 k (k - 1) by rw [K.out.2.2.1])
              clear h50 hla hlb
              by_cases hla2 : 2 ≤ la
              · have g5 : (2 : Int) ≤ (la : Int) := by omega
                have g5b : decide (2 ≤ la) = true := decide_eq_true hla2
                have LA := Lib.hid hla2
                clear hla2
                go_wp2_with fail
                go_region
                all_goals
                  have S4 := Lib.hid (SW.out.keep (keeps_drew _))
                  generalize World.drew _ = wd at *
                  clear c0 c1 f0 f1
                  go_wp2_with fail
                  go_loopw [9] (fun u wr => ∃ (m : Nat) (d3 : Array Nat), u = .int .i64 m ∧ m < k ∧ SoR w wr base g n cap d3 ∧ shiftDown ltN m d3 = shiftDown ltN (k - 1) (Sort.swp d2 k (k - 1))) (fun u _ => (intOf u).toNat)
                  case atStart => exact ⟨km, Sort.swp d2 k km, rfl, by have := K.out; omega, S4.out, by rw [K.out.2.2.1]⟩
                  case round =>
                    obtain ⟨m, d3, rfl, hmk, hS, hE⟩ := hrel
                    have S5 := Lib.hid hS
                    have E5 := Lib.hid hE
                    clear hS hE
                    by_cases hm1 : 1 ≤ m
                    · have g6 : (1 : Int) ≤ (m : Int) := by omega
                      have g6b : decide (1 ≤ m) = true := decide_eq_true hm1
                      obtain ⟨q, hq⟩ : ∃ z, z = m - 1 := ⟨_, rfl⟩
                      have w6 : IntKind.i64.wrap ((m : Int) - 1) = (q : Int) := by rw [IntKind.wrap_i64]; omega
                      have mN : m < n := by have := K.out; omega
                      have qN : q < n := by omega
                      have p0 : (0 : Int) ≤ (m : Int) := by omega
                      have p1 : (m : Int) < (n : Int) := by omega
                      have p2 : (0 : Int) ≤ (q : Int) := by omega
                      have p3 : (q : Int) < (n : Int) := by omega
                      obtain ⟨x3, hx3⟩ : ∃ z, d3[m]! = z := ⟨_, rfl⟩
                      obtain ⟨y3, hy3⟩ : ∃ z, d3[q]! = z := ⟨_, rfl⟩
                      have c3 := S5.out.at mN hx3
                      have c4 := S5.out.at qN hy3
                      have L3 := Lib.hid (LS.out x3 y3)
                      have X3 := Lib.hid (And.intro hx3 (And.intro hy3 (And.intro hmk (And.intro hm1 (And.intro hq (And.intro mN qN))))))
                      clear hmk hm1 hq mN qN hx3 hy3
                      go_wp2_with fail
                      go_quiet (exact Calls.quiet_of_same (L3.out _))
                      have k8 := keeps_drewN wr nq
                      generalize wr.drewN nq = wz at *
                      have S6 := Lib.hid (S5.out.keep k8)
                      clear k8 c3 c4
                      cases hb3 : ltN x3 y3
                      · have DD := Lib.hid (show d3 = (if k - a ≥ 2 then shiftDown ltN (k - 1) (Sort.swp d2 k (k - 1)) else Sort.swp d2 k (k - 1)) by
                          rw [if_pos (by have := N.out; have := LA.out; omega), ← E5.out, down_no (by rw [← X3.out.2.2.2.2.1, X3.out.1, X3.out.2.1]; exact hb3)])
                        by_cases hlb2 : 2 ≤ lb
                        · have h5 : (2 : Int) ≤ (lb : Int) := by omega
                          have h5b : decide (2 ≤ lb) = true := decide_eq_true hlb2
                          have LB := Lib.hid hlb2
                          clear hlb2
                          go_wp2_with fail
                          go_loopw [10] (fun u wr => ∃ (t : Nat) (d4 : Array Nat), u = .int .i64 t ∧ k < t ∧ t ≤ b ∧ SoR w wr base g n cap d4 ∧ shiftUp ltN b t d4 = shiftUp ltN b (k + 1) d3) (fun u _ => b - (intOf u).toNat)
                          case atStart => exact ⟨k + 1, d3, by go_num, by omega, by have := K.out; omega, S6.out, rfl⟩
                          case round =>
                            obtain ⟨t, d4, rfl, hkt, htb, hS, hE⟩ := hrel
                            have S7 := Lib.hid hS
                            have E7 := Lib.hid hE
                            have hF := F.out
                            clear hS hE
                            by_cases htb2 : t < b
                            · have g7 : (t : Int) < (b : Int) := by omega
                              have g7b : decide (t < b) = true := decide_eq_true htb2
                              obtain ⟨tq, htq⟩ : ∃ z, z = t - 1 := ⟨_, rfl⟩
                              have w7 : IntKind.i64.wrap ((t : Int) - 1) = (tq : Int) := by rw [IntKind.wrap_i64]; omega
                              have tN : t < n := by omega
                              have tqN : tq < n := by omega
                              have u0 : (0 : Int) ≤ (t : Int) := by omega
                              have u1 : (t : Int) < (n : Int) := by omega
                              have u2 : (0 : Int) ≤ (tq : Int) := by omega
                              have u3 : (tq : Int) < (n : Int) := by omega
                              obtain ⟨x4, hx4⟩ : ∃ z, d4[t]! = z := ⟨_, rfl⟩
                              obtain ⟨y4, hy4⟩ : ∃ z, d4[tq]! = z := ⟨_, rfl⟩
                              have c7 := S7.out.at tN hx4
                              have c8 := S7.out.at tqN hy4
                              have L4 := Lib.hid (LS.out x4 y4)
                              have X4 := Lib.hid (And.intro hx4 (And.intro hy4 (And.intro hkt (And.intro htb2 (And.intro htq (And.intro tN tqN))))))
                              clear hkt htb htb2 htq tN tqN hx4 hy4 hF
                              go_wp2_with fail
                              go_quiet (exact Calls.quiet_of_same (L4.out _))
                              have k7 := keeps_drewN wr nq
                              generalize wr.drewN nq = wy at *
                              have S8 := Lib.hid (S7.out.keep k7)
                              clear k7 c7 c8
                              cases hb4 : ltN x4 y4
                              · have E8 := Lib.hid (show partialIns ltN a b (5 - (j + 1)) k d4 = (R, rb) by
                                  rw [show 5 - (j + 1) = 4 - j by omega]
                                  exact PG.out d3 d4 DD.out (by rw [if_pos (by have := N.out; have := LB.out; omega), ← E7.out, up_no X4.out.2.2.2.1 (by rw [← X4.out.2.2.2.2.1, X4.out.1, X4.out.2.1]; exact hb4)]))
                                go_wp2_with fail
                                go_roundw
                                case rel => exact ⟨k, j + 1, d4, rfl, by go_num, K.out.1, by have := K.out; omega, by have := G.out; omega, S8.out, E8.out⟩
                                case measure => have := G.out; simp [intOf]; omega
                              · have E8 := Lib.hid (show shiftUp ltN b (t + 1) (Sort.swp d4 t tq) = shiftUp ltN b (k + 1) d3 by
                                  rw [← E7.out, up_yes (j := t) (d := d4) X4.out.2.2.2.1 (by rw [← X4.out.2.2.2.2.1, X4.out.1, X4.out.2.1]; exact hb4), ← X4.out.2.2.2.2.1])
                                have SW4 := Lib.hid (S8.out.swpx X4.out.2.2.2.2.2.1 X4.out.2.2.2.2.2.2 X4.out.1 X4.out.2.1)
                                have c9 := S8.out.at X4.out.2.2.2.2.2.1 X4.out.1
                                have c10 := S8.out.at X4.out.2.2.2.2.2.2 X4.out.2.1
                                have f9 := S8.out.fz X4.out.2.2.2.2.2.1
                                have f10 := S8.out.fz X4.out.2.2.2.2.2.2
                                have n5 : t ≠ tq := by have := X4.out; omega
                                have n6 : tq ≠ t := by omega
                                go_wp2_with fail
                                go_region
                                all_goals
                                  go_wp2_with fail
                                  go_roundw
                                  case rel => exact ⟨t + 1, Sort.swp d4 t tq, by go_num, by have := X4.out; omega, by have := X4.out; omega, SW4.out.keep (keeps_drew _), E8.out⟩
                                  case measure => have := X4.out; simp [intOf]; omega
                            · have g7 : decide ((t : Int) < (b : Int)) = false := decide_eq_false (by omega)
                              have g7b : decide (t < b) = false := decide_eq_false htb2
                              have E8 := Lib.hid (show partialIns ltN a b (5 - (j + 1)) k d4 = (R, rb) by
                                rw [show 5 - (j + 1) = 4 - j by omega]
                                exact PG.out d3 d4 DD.out (by rw [if_pos (by have := N.out; have := LB.out; omega), ← E7.out, up_end htb2]))
                              clear hkt htb htb2 hF
                              go_wp2_with fail
                              go_roundw
                              case rel => exact ⟨k, j + 1, d4, rfl, by go_num, K.out.1, by have := K.out; omega, by have := G.out; omega, S7.out, E8.out⟩
                              case measure => have := G.out; simp [intOf]; omega
                        · have h5 : decide ((2 : Int) ≤ (lb : Int)) = false := decide_eq_false (by omega)
                          have h5b : decide (2 ≤ lb) = false := decide_eq_false hlb2
                          have E8 := Lib.hid (show partialIns ltN a b (5 - (j + 1)) k d3 = (R, rb) by
                            rw [show 5 - (j + 1) = 4 - j by omega]
                            exact PG.out d3 d3 DD.out (by rw [if_neg (by have := N.out; omega)]))
                          clear hlb2
                          go_wp2_with fail
                          go_roundw
                          case rel => exact ⟨k, j + 1, d3, rfl, by go_num, K.out.1, by have := K.out; omega, by have := G.out; omega, S6.out, E8.out⟩
                          case measure => have := G.out; simp [intOf]; omega
                      · have E6 := Lib.hid (show shiftDown ltN q (Sort.swp d3 m q) = shiftDown ltN (k - 1) (Sort.swp d2 k (k - 1)) by
                          rw [← E5.out, down_yes (j := m) (d := d3) X3.out.2.2.2.1 (by rw [← X3.out.2.2.2.2.1, X3.out.1, X3.out.2.1]; exact hb3), ← X3.out.2.2.2.2.1])
                        have SW3 := Lib.hid (S6.out.swpx X3.out.2.2.2.2.2.1 X3.out.2.2.2.2.2.2 X3.out.1 X3.out.2.1)
                        have c5 := S6.out.at X3.out.2.2.2.2.2.1 X3.out.1
                        have c6 := S6.out.at X3.out.2.2.2.2.2.2 X3.out.2.1
                        have f5 := S6.out.fz X3.out.2.2.2.2.2.1
                        have f6 := S6.out.fz X3.out.2.2.2.2.2.2
                        have n3 : m ≠ q := by have := X3.out; omega
                        have n4 : q ≠ m := by omega
                        go_wp2_with fail
                        go_region
                        all_goals
                          go_wp2_with fail
                          go_roundw
                          case rel => exact ⟨q, Sort.swp d3 m q, rfl, by have := X3.out; omega, SW3.out.keep (keeps_drew _), E6.out⟩
                          case measure => have := X3.out; simp [intOf]; omega
                    · have g6 : decide ((1 : Int) ≤ (m : Int)) = false := decide_eq_false (by omega)
                      have g6b : decide (1 ≤ m) = false := decide_eq_false hm1
                      have DD := Lib.hid (show d3 = (if k - a ≥ 2 then shiftDown ltN (k - 1) (Sort.swp d2 k (k - 1)) else Sort.swp d2 k (k - 1)) by
                        rw [if_pos (by have := N.out; have := LA.out; omega), ← E5.out, show m = 0 by omega, down_zero])
                      clear hmk hm1
                      by_cases hlb2 : 2 ≤ lb
                      · have h5 : (2 : Int) ≤ (lb : Int) := by omega
                        have h5b : decide (2 ≤ lb) = true := decide_eq_true hlb2
                        have LB := Lib.hid hlb2
                        clear hlb2
                        go_wp2_with fail
                        go_loopw [10] (fun u wr => ∃ (t : Nat) (d4 : Array Nat), u = .int .i64 t ∧ k < t ∧ t ≤ b ∧ SoR w wr base g n cap d4 ∧ shiftUp ltN b t d4 = shiftUp ltN b (k + 1) d3) (fun u _ => b - (intOf u).toNat)
                        case atStart => exact ⟨k + 1, d3, by go_num, by omega, by have := K.out; omega, S5.out, rfl⟩
                        case round =>
                          obtain ⟨t, d4, rfl, hkt, htb, hS, hE⟩ := hrel
                          have S7 := Lib.hid hS
                          have E7 := Lib.hid hE
                          have hF := F.out
                          clear hS hE
                          by_cases htb2 : t < b
                          · have g7 : (t : Int) < (b : Int) := by omega
                            have g7b : decide (t < b) = true := decide_eq_true htb2
                            obtain ⟨tq, htq⟩ : ∃ z, z = t - 1 := ⟨_, rfl⟩
                            have w7 : IntKind.i64.wrap ((t : Int) - 1) = (tq : Int) := by rw [IntKind.wrap_i64]; omega
                            have tN : t < n := by omega
                            have tqN : tq < n := by omega
                            have u0 : (0 : Int) ≤ (t : Int) := by omega
                            have u1 : (t : Int) < (n : Int) := by omega
                            have u2 : (0 : Int) ≤ (tq : Int) := by omega
                            have u3 : (tq : Int) < (n : Int) := by omega
                            obtain ⟨x4, hx4⟩ : ∃ z, d4[t]! = z := ⟨_, rfl⟩
                            obtain ⟨y4, hy4⟩ : ∃ z, d4[tq]! = z := ⟨_, rfl⟩
                            have c7 := S7.out.at tN hx4
                            have c8 := S7.out.at tqN hy4
                            have L4 := Lib.hid (LS.out x4 y4)
                            have X4 := Lib.hid (And.intro hx4 (And.intro hy4 (And.intro hkt (And.intro htb2 (And.intro htq (And.intro tN tqN))))))
                            clear hkt htb htb2 htq tN tqN hx4 hy4 hF
                            go_wp2_with fail
                            go_quiet (exact Calls.quiet_of_same (L4.out _))
                            have k7 := keeps_drewN wr nq
                            generalize wr.drewN nq = wy at *
                            have S8 := Lib.hid (S7.out.keep k7)
                            clear k7 c7 c8
                            cases hb4 : ltN x4 y4
                            · have E8 := Lib.hid (show partialIns ltN a b (5 - (j + 1)) k d4 = (R, rb) by
                                rw [show 5 - (j + 1) = 4 - j by omega]
                                exact PG.out d3 d4 DD.out (by rw [if_pos (by have := N.out; have := LB.out; omega), ← E7.out, up_no X4.out.2.2.2.1 (by rw [← X4.out.2.2.2.2.1, X4.out.1, X4.out.2.1]; exact hb4)]))
                              go_wp2_with fail
                              go_roundw
                              case rel => exact ⟨k, j + 1, d4, rfl, by go_num, K.out.1, by have := K.out; omega, by have := G.out; omega, S8.out, E8.out⟩
                              case measure => have := G.out; simp [intOf]; omega
                            · have E8 := Lib.hid (show shiftUp ltN b (t + 1) (Sort.swp d4 t tq) = shiftUp ltN b (k + 1) d3 by
                                rw [← E7.out, up_yes (j := t) (d := d4) X4.out.2.2.2.1 (by rw [← X4.out.2.2.2.2.1, X4.out.1, X4.out.2.1]; exact hb4), ← X4.out.2.2.2.2.1])
                              have SW4 := Lib.hid (S8.out.swpx X4.out.2.2.2.2.2.1 X4.out.2.2.2.2.2.2 X4.out.1 X4.out.2.1)
                              have c9 := S8.out.at X4.out.2.2.2.2.2.1 X4.out.1
                              have c10 := S8.out.at X4.out.2.2.2.2.2.2 X4.out.2.1
                              have f9 := S8.out.fz X4.out.2.2.2.2.2.1
                              have f10 := S8.out.fz X4.out.2.2.2.2.2.2
                              have n5 : t ≠ tq := by have := X4.out; omega
                              have n6 : tq ≠ t := by omega
                              go_wp2_with fail
                              go_region
                              all_goals
                                go_wp2_with fail
                                go_roundw
                                case rel => exact ⟨t + 1, Sort.swp d4 t tq, by go_num, by have := X4.out; omega, by have := X4.out; omega, SW4.out.keep (keeps_drew _), E8.out⟩
                                case measure => have := X4.out; simp [intOf]; omega
                          · have g7 : decide ((t : Int) < (b : Int)) = false := decide_eq_false (by omega)
                            have g7b : decide (t < b) = false := decide_eq_false htb2
                            have E8 := Lib.hid (show partialIns ltN a b (5 - (j + 1)) k d4 = (R, rb) by
                              rw [show 5 - (j + 1) = 4 - j by omega]
                              exact PG.out d3 d4 DD.out (by rw [if_pos (by have := N.out; have := LB.out; omega), ← E7.out, up_end htb2]))
                            clear hkt htb htb2 hF
                            go_wp2_with fail
                            go_roundw
                            case rel => exact ⟨k, j + 1, d4, rfl, by go_num, K.out.1, by have := K.out; omega, by have := G.out; omega, S7.out, E8.out⟩
                            case measure => have := G.out; simp [intOf]; omega
                      · have h5 : decide ((2 : Int) ≤ (lb : Int)) = false := decide_eq_false (by omega)
                        have h5b : decide (2 ≤ lb) = false := decide_eq_false hlb2
                        have E8 := Lib.hid (show partialIns ltN a b (5 - (j + 1)) k d3 = (R, rb) by
                          rw [show 5 - (j + 1) = 4 - j by omega]
                          exact PG.out d3 d3 DD.out (by rw [if_neg (by have := N.out; omega)]))
                        clear hlb2
                        go_wp2_with fail
                        go_roundw
                        case rel => exact ⟨k, j + 1, d3, rfl, by go_num, K.out.1, by have := K.out; omega, by have := G.out; omega, S5.out, E8.out⟩
                        case measure => have := G.out; simp [intOf]; omega
              · have g5 : decide ((2 : Int) ≤ (la : Int)) = false := decide_eq_false (by omega)
                have g5b : decide (2 ≤ la) = false := decide_eq_false hla2
                have DD := Lib.hid (show Sort.swp d2 k km = (if k - a ≥ 2 then shiftDown ltN (k - 1) (Sort.swp d2 k (k - 1)) else Sort.swp d2 k (k - 1)) by
                  rw [if_neg (by have := N.out; omega), D0.out])
                clear hla2
                go_wp2_with fail
                go_region
                all_goals
                  have S4 := Lib.hid (SW.out.keep (keeps_drew _))
                  generalize World.drew _ = wd at *
                  clear c0 c1 f0 f1
                  obtain ⟨d3, hd3⟩ : ∃ z, Sort.swp d2 k km = z := ⟨_, rfl⟩
                  rw [hd3] at S4 DD
                  clear hd3
                  by_cases hlb2 : 2 ≤ lb
                  · have h5 : (2 : Int) ≤ (lb : Int) := by omega
                    have h5b : decide (2 ≤ lb) = true := decide_eq_true hlb2
                    have LB := Lib.hid hlb2
                    clear hlb2
                    go_wp2_with fail
                    go_loopw [10] (fun u wr => ∃ (t : Nat) (d4 : Array Nat), u = .int .i64 t ∧ k < t ∧ t ≤ b ∧ SoR w wr base g n cap d4 ∧ shiftUp ltN b t d4 = shiftUp ltN b (k + 1) d3) (fun u _ => b - (intOf u).toNat)
                    case atStart => exact ⟨k + 1, d3, by go_num, by omega, by have := K.out; omega, S4.out, rfl⟩
                    case round =>
                      obtain ⟨t, d4, rfl, hkt, htb, hS, hE⟩ := hrel
                      have S7 := Lib.hid hS
                      have E7 := Lib.hid hE
                      have hF := F.out
                      clear hS hE
                      by_cases htb2 : t < b
                      · have g7 : (t : Int) < (b : Int) := by omega
                        have g7b : decide (t < b) = true := decide_eq_true htb2
                        obtain ⟨tq, htq⟩ : ∃ z, z = t - 1 := ⟨_, rfl⟩
                        have w7 : IntKind.i64.wrap ((t : Int) - 1) = (tq : Int) := by rw [IntKind.wrap_i64]; omega
                        have tN : t < n := by omega
                        have tqN : tq < n := by omega
                        have u0 : (0 : Int) ≤ (t : Int) := by omega
                        have u1 : (t : Int) < (n : Int) := by omega
                        have u2 : (0 : Int) ≤ (tq : Int) := by omega
                        have u3 : (tq : Int) < (n : Int) := by omega
                        obtain ⟨x4, hx4⟩ : ∃ z, d4[t]! = z := ⟨_, rfl⟩
                        obtain ⟨y4, hy4⟩ : ∃ z, d4[tq]! = z := ⟨_, rfl⟩
                        have c7 := S7.out.at tN hx4
                        have c8 := S7.out.at tqN hy4
                        have L4 := Lib.hid (LS.out x4 y4)
                        have X4 := Lib.hid (And.intro hx4 (And.intro hy4 (And.intro hkt (And.intro htb2 (And.intro htq (And.intro tN tqN))))))
                        clear hkt htb htb2 htq tN tqN hx4 hy4 hF
                        go_wp2_with fail
                        go_quiet (exact Calls.quiet_of_same (L4.out _))
                        have k7 := keeps_drewN wr nq
                        generalize wr.drewN nq = wy at *
                        have S8 := Lib.hid (S7.out.keep k7)
                        clear k7 c7 c8
                        cases hb4 : ltN x4 y4
                        · have E8 := Lib.hid (show partialIns ltN a b (5 - (j + 1)) k d4 = (R, rb) by
                            rw [show 5 - (j + 1) = 4 - j by omega]
                            exact PG.out d3 d4 DD.out (by rw [if_pos (by have := N.out; have := LB.out; omega), ← E7.out, up_no X4.out.2.2.2.1 (by rw [← X4.out.2.2.2.2.1, X4.out.1, X4.out.2.1]; exact hb4)]))
                          go_wp2_with fail
                          go_roundw
                          case rel => exact ⟨k, j + 1, d4, rfl, by go_num, K.out.1, by have := K.out; omega, by have := G.out; omega, S8.out, E8.out⟩
                          case measure => have := G.out; simp [intOf]; omega
                        · have E8 := Lib.hid (show shiftUp ltN b (t + 1) (Sort.swp d4 t tq) = shiftUp ltN b (k + 1) d3 by
                            rw [← E7.out, up_yes (j := t) (d := d4) X4.out.2.2.2.1 (by rw [← X4.out.2.2.2.2.1, X4.out.1, X4.out.2.1]; exact hb4), ← X4.out.2.2.2.2.1])
                          have SW4 := Lib.hid (S8.out.swpx X4.out.2.2.2.2.2.1 X4.out.2.2.2.2.2.2 X4.out.1 X4.out.2.1)
                          have c9 := S8.out.at X4.out.2.2.2.2.2.1 X4.out.1
                          have c10 := S8.out.at X4.out.2.2.2.2.2.2 X4.out.2.1
                          have f9 := S8.out.fz X4.out.2.2.2.2.2.1
                          have f10 := S8.out.fz X4.out.2.2.2.2.2.2
                          have n5 : t ≠ tq := by have := X4.out; omega
                          have n6 : tq ≠ t := by omega
                          go_wp2_with fail
                          go_region
                          all_goals
                            go_wp2_with fail
                            go_roundw
                            case rel => exact ⟨t + 1, Sort.swp d4 t tq, by go_num, by have := X4.out; omega, by have := X4.out; omega, SW4.out.keep (keeps_drew _), E8.out⟩
                            case measure => have := X4.out; simp [intOf]; omega
                      · have g7 : decide ((t : Int) < (b : Int)) = false := decide_eq_false (by omega)
                        have g7b : decide (t < b) = false := decide_eq_false htb2
                        have E8 := Lib.hid (show partialIns ltN a b (5 - (j + 1)) k d4 = (R, rb) by
                          rw [show 5 - (j + 1) = 4 - j by omega]
                          exact PG.out d3 d4 DD.out (by rw [if_pos (by have := N.out; have := LB.out; omega), ← E7.out, up_end htb2]))
                        clear hkt htb htb2 hF
                        go_wp2_with fail
                        go_roundw
                        case rel => exact ⟨k, j + 1, d4, rfl, by go_num, K.out.1, by have := K.out; omega, by have := G.out; omega, S7.out, E8.out⟩
                        case measure => have := G.out; simp [intOf]; omega
                  · have h5 : decide ((2 : Int) ≤ (lb : Int)) = false := decide_eq_false (by omega)
                    have h5b : decide (2 ≤ lb) = false := decide_eq_false hlb2
                    have E8 := Lib.hid (show partialIns ltN a b (5 - (j + 1)) k d3 = (R, rb) by
                      rw [show 5 - (j + 1) = 4 - j by omega]
                      exact PG.out d3 d3 DD.out (by rw [if_neg (by have := N.out; omega)]))
                    clear hlb2
                    go_wp2_with fail
                    go_roundw
                    case rel => exact ⟨k, j + 1, d3, rfl, by go_num, K.out.1, by have := K.out; omega, by have := G.out; omega, S4.out, E8.out⟩
                    case measure => have := G.out; simp [intOf]; omega
        · have g2 : decide ((k : Int) < (b : Int)) = false := decide_eq_false (by omega)
          have g2b : decide (k < b) = false := decide_eq_false hkb2
          have HKB := Lib.hid (show k = b by omega)
          have g3 : decide (k = b) = true := decide_eq_true HKB.out
          have g3b : ((k : Int) == (b : Int)) = true := by rw [HKB.out]; simp
          have g3c : decide ((k : Int) = (b : Int)) = true := decide_eq_true (by rw [HKB.out])
          have E4 := Lib.hid (show R = d2 ∧ rb = true by
            have h1 := pi_end (a := a) (s := 4 - j) (d := d2) (b := b) (i := i) (by rw [HI.out, ← E3.out, scan_end hkb2]; omega)
            rw [E2.out] at h1
            simpa using h1)
          clear hak hkb hkb2 hF
          go_wp2_with fail
          go_quiet (fail)
          have k9 := keeps_drewN wr nq
          generalize wr.drewN nq = wq at *
          have S3 := Lib.hid (S2.out.keep k9)
          clear k9
          go_wp2_with fail
          go_ret
          exact ⟨by rw [E4.out.2]; simp, E4.out.1 ▸ S3.out⟩
    · have g1 : decide ((j : Int) < 5) = false := decide_eq_false (by omega)
      have g1b : decide (j < 5) = false := decide_eq_false hj5
      have E2 := Lib.hid (show R = d2 ∧ rb = false by
        have h1 := E1.out
        rw [show 5 - j = 0 by omega] at h1
        have h2 : (d2, false) = (R, rb) := h1
        simpa using h2.symm)
      clear hai hib hj hj5
      go_wp2_with fail
      go_ret
      exact ⟨by rw [E2.out.2]; simp, E2.out.1 ▸ S1.out⟩
end Go.Proofs.Ytdfaogagadoooaa
