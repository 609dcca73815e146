/- slices.Sort at []uint32: pdqsortOrdered, Sort. -/
import Derived.Test.YtdfaogagadoooaaSoHeap
import Derived.Test.YtdfaogagadoooaaSoRev
import Derived.Test.YtdfaogagadoooaaSoPiv
import Derived.Test.YtdfaogagadoooaaSoBrk
import Derived.Test.YtdfaogagadoooaaSoPart
import Derived.Test.YtdfaogagadoooaaSoPrt
namespace Go.Proofs.Ytdfaogagadoooaa
open Go.RowKit Go.Sort
set_option linter.unusedSimpArgs false
set_option linter.unusedVariables false
set_option maxRecDepth 100000

theorem SoR.via {w W V : World} {base g n cap : Nat} {d d' : Array Nat} (h : SoR w W base g n cap d) (k : SoR W V base g n cap d') : SoR w V base g n cap d' := h.step k
/-- what is promised of a sort of [a, b) -/
def PdqV (w : World) (base g n cap a b : Nat) (d : Array Nat) (e : Ending) (w' : World) : Prop := ∃ d', e = .returned (.tuple #[]) ∧ PermIn a b d d' ∧ SortedIn ltN a b d' ∧ SoR w w' base g n cap d'
set_option maxHeartbeats 32000000 in
theorem pdq_u32 (base g n cap : Nat) (hn : n ≤ 1000000) : ∀ (m : Nat) (w : World) (a b lim : Nat) (d : Array Nat), b - a < m → Own w base 30 1 (.slice (some ⟨g, 0, none⟩) n cap) n (celU d.toList) → a ≤ b → b ≤ n → Below ltN a b d → lim ≤ 64 →
    Calls Try.prog 27 #[.slice (some ⟨g, 0, none⟩) n cap, .int .i64 (a : Int), .int .i64 (b : Int), .int .i64 (lim : Int)] w (PdqV w base g n cap a b d) := by
  intro m
  induction m with
  | zero => intro w a b lim d h; omega
  | succ m ih =>
    intro w a b lim d hm h hab hb hB hl
    have IH := Lib.hid (fun (W : World) (x y l : Nat) (D : Array Nat) (h1 : y - x < m) (s : SoR w W base g n cap D) (h2 : x ≤ y) (h3 : y ≤ n) (h4 : Below ltN x y D) (h5 : l ≤ 64) => ih W x y l D h1 s.own h2 h3 h4 h5)
    have S0 := Lib.hid (SoR.start h)
    have B0 := Lib.hid hB
    have F := Lib.hid (And.intro hm (And.intro hab (And.intro hb hl)))
    have nI : (n : Int) ≤ 1000000 := by omega
    have HN := Lib.hid hn
    clear hm h hab hb hB hl ih hn
    go_enter Try.func27, Try.ntmps27
    go_wp2_with fail
    go_loopw [1, 2, 3, 8, 9] (fun u1 u2 u3 u8 u9 wr => ∃ (a2 b2 l2 : Nat) (wb wp : Bool) (d2 : Array Nat), u1 = .int .i64 a2 ∧ u2 = .int .i64 b2 ∧ u3 = .int .i64 l2 ∧ u8 = .bool wb ∧ u9 = .bool wp ∧ a ≤ a2 ∧ a2 ≤ b2 ∧ b2 ≤ b ∧ l2 ≤ 64 ∧ Below ltN a2 b2 d2 ∧ SoR w wr base g n cap d2 ∧ (∀ R, PermIn a2 b2 d2 R → SortedIn ltN a2 b2 R → PermIn a b d R ∧ SortedIn ltN a b R)) (fun u1 u2 _ _ _ _ => (intOf u2).toNat - (intOf u1).toNat)
    case atStart => exact ⟨a, b, lim, true, true, d, rfl, rfl, rfl, rfl, rfl, Nat.le_refl _, F.out.2.1, Nat.le_refl _, F.out.2.2.2, B0.out, S0.out, fun R h k => ⟨h, k⟩⟩
    case round =>
      obtain ⟨a2, b2, l2, wb, wp, d2, rfl, rfl, rfl, rfl, rfl, ha2, hab2, hb2, hl2, hB2, hS2, hC2⟩ := hrel
      have hF := F.out
      have hN := HN.out
      have S1 := Lib.hid hS2
      have B1 := Lib.hid hB2
      have C1 := Lib.hid hC2
      have F1 := Lib.hid (And.intro ha2 (And.intro hab2 (And.intro hb2 hl2)))
      obtain ⟨l, hl⟩ : ∃ z, z = b2 - a2 := ⟨_, rfl⟩
      have wl : IntKind.i64.wrap ((b2 : Int) - (a2 : Int)) = (l : Int) := by rw [IntKind.wrap_i64]; omega
      have SZ := Lib.hid (show b2 ≤ d2.size by rw [hS2.size]; omega)
      have L := Lib.hid hl
      have l2I : (l2 : Int) ≤ 64 := by omega
      have l20 : (0 : Int) ≤ (l2 : Int) := by omega
      have lI : (l : Int) ≤ 1000000 := by omega
      have b2N := Lib.hid (show b2 ≤ n by omega)
      by_cases h12 : l ≤ 12
      · have g1 : (l : Int) ≤ 12 := by omega
        have g1b : decide (l ≤ 12) = true := decide_eq_true h12
        have C := Lib.hid (ins_u32 (a := a2) (b := b2) hS2.own (by omega) hN hab2)
        have Q := Lib.hid (insertionSort_holds (lt := ltN) swo_ltN d2 a2 b2 hab2 SZ.out)
        clear hS2 hB2 hC2 ha2 hab2 hb2 hl2 hF hN hl h12
        go_wp2_with (go_at_call 29; refine C.out.mono ?_; rintro e w1 ⟨rfl, s1⟩)
        go_returns
        exact ⟨_, rfl, (C1.out _ Q.out.1 Q.out.2).1, (C1.out _ Q.out.1 Q.out.2).2, S1.out.step s1⟩
      · have g1 : decide ((l : Int) ≤ 12) = false := decide_eq_false (by omega)
        have g1b : decide (l ≤ 12) = false := decide_eq_false h12
        have H12 := Lib.hid (show 12 < b2 - a2 by omega)
        by_cases hl0 : l2 = 0
        · have g2 : decide (l2 = 0) = true := decide_eq_true hl0
          have g2b : ((l2 : Int) == 0) = true := by simp [hl0]
          have g2c : decide ((l2 : Int) = 0) = true := decide_eq_true (by omega)
          have C := Lib.hid (heap_u32 (a := a2) (b := b2) hS2.own (by omega) hN (by omega))
          have Q := Lib.hid (heapSort_holds (lt := ltN) swo_ltN d2 a2 b2 hab2 SZ.out)
          clear hS2 hB2 hC2 ha2 hab2 hb2 hl2 hF hN hl h12
          subst hl0
          go_wp2_with (go_at_call 30; refine C.out.mono ?_; rintro e w1 ⟨rfl, s1⟩)
          go_returns
          exact ⟨_, rfl, (C1.out _ Q.out.1 Q.out.2).1, (C1.out _ Q.out.1 Q.out.2).2, S1.out.step s1⟩
        · have g2 : decide (l2 = 0) = false := decide_eq_false hl0
          have g2b : ((l2 : Int) == 0) = false := by simp; omega
          have g2c : decide ((l2 : Int) = 0) = false := decide_eq_false (by omega)
          obtain ⟨lm, hlm⟩ : ∃ z, z = l2 - 1 := ⟨_, rfl⟩
          have wlm : IntKind.i64.wrap ((l2 : Int) - 1) = (lm : Int) := by rw [IntKind.wrap_i64]; omega
          obtain ⟨bm, hbm⟩ : ∃ z, z = b2 - 1 := ⟨_, rfl⟩
          have wbm : IntKind.i64.wrap ((b2 : Int) - 1) = (bm : Int) := by rw [IntKind.wrap_i64]; omega
          obtain ⟨l8, hl8⟩ : ∃ z, z = l / 8 := ⟨_, rfl⟩
          have wl8 : Int.tdiv (l : Int) 8 = (l8 : Int) := by rw [hl8]; rfl
          have l8I : (l8 : Int) ≤ 1000000 := by omega
          have HB := Lib.hid hbm
          have LM := Lib.hid (show lm ≤ 64 ∧ l2 ≤ 64 by omega)
          have CH := Lib.hid (fun (W : World) (D : Array Nat) (s : SoR w W base g n cap D) => choose_u32 (a := a2) (b := b2) s.own (by omega) (by omega) hN)
          have RV := Lib.hid (fun (W : World) (D : Array Nat) (s : SoR w W base g n cap D) => rev_u32 (a := a2) (b := b2) s.own (by omega) hN (by omega))
          have BK := Lib.hid (break_u32 (a := a2) (b := b2) hS2.own (by omega) (by omega) hN)
          have PI := Lib.hid (fun (W : World) (D : Array Nat) (s : SoR w W base g n cap D) => part_u32 (a := a2) (b := b2) s.own (by omega) (by omega) hN)
          have PQ := Lib.hid (fun (W : World) (D : Array Nat) (p : Nat) (s : SoR w W base g n cap D) (h1 : a2 ≤ p) (h2 : p < b2) => peq_u32 (a := a2) (b := b2) (pivot := p) s.own h1 h2 (by omega) hN)
          have PT := Lib.hid (fun (W : World) (D : Array Nat) (p : Nat) (s : SoR w W base g n cap D) (h1 : a2 ≤ p) (h2 : p < b2) => prt_u32 (a := a2) (b := b2) (pivot := p) s.own h1 h2 (by omega) hN)
          have RI := Lib.hid (permIn_refl d2 a2 b2)
          clear hS2 hB2 hC2 ha2 hab2 hb2 hl2 hF hN hl h12 hl0 hlm hbm hl8
          cases wb
          · go_wp2_with fail
            go_at_call 31
            refine BK.out.mono ?_
            rintro e w2 ⟨d3, rfl, hp3, s3⟩
            have S2 := Lib.hid (S1.out.step s3)
            have PM3 := Lib.hid hp3
            have B3 := Lib.hid (Below.permA permIn_all SZ.out B1.out hp3)
            clear s3 hp3
            go_wp2_with fail
            go_at_call 32
            refine (CH.out _ _ S2.out).mono ?_
            rintro e w3 ⟨p, k, rfl, hp, hk, kp⟩
            have XP := Lib.hid hp
            have S3 := Lib.hid (S2.out.keep kp)
            have p0 : (0 : Int) ≤ (p : Int) := by omega
            have pI : (p : Int) ≤ 1000000 := by have := b2N.out; omega
            clear hp kp
            by_cases hk2 : k = 2
            · subst hk2
              obtain ⟨pa, hpa⟩ : ∃ z, z = p - a2 := ⟨_, rfl⟩
              have wpa : IntKind.i64.wrap ((p : Int) - (a2 : Int)) = (pa : Int) := by rw [IntKind.wrap_i64]; have := b2N.out; have := XP.out; omega
              obtain ⟨p2, hp2⟩ : ∃ z, z = bm - pa := ⟨_, rfl⟩
              have wp2 : IntKind.i64.wrap ((bm : Int) - (pa : Int)) = (p2 : Int) := by rw [IntKind.wrap_i64]; have := b2N.out; have := XP.out; have := HB.out; omega
              have XP2 := Lib.hid (show a2 ≤ p2 ∧ p2 < b2 by have := XP.out; have := HB.out; omega)
              clear hpa hp2
              go_wp2_with fail
              go_at_call 33
              refine (RV.out _ _ S3.out).mono ?_
              rintro e w7 ⟨rfl, s7⟩
              have RH := Lib.hid (reverseRange_holds d3 a2 b2 (by have := XP.out; omega) (by rw [S3.out.size]; exact b2N.out))
              obtain ⟨d7, hd7⟩ : ∃ z, reverseRange d3 a2 b2 = z := ⟨_, rfl⟩
              rw [hd7] at s7 RH
              have S7 := Lib.hid (S3.out.step s7)
              have PM7 := Lib.hid (permIn_trans _ _ _ a2 b2 PM3.out RH.out)
              have B7 := Lib.hid (Below.permA permIn_all (by rw [S3.out.size]; exact b2N.out) B3.out RH.out)
              clear s7 hd7
              have SZD := Lib.hid (show b2 ≤ Array.size d7 by rw [S7.out.size]; exact b2N.out)
              by_cases ha0 : 0 < a2
              · have ga : (0 : Int) < (a2 : Int) := by omega
                have gab : decide (0 < a2) = true := decide_eq_true ha0
                obtain ⟨am, ham⟩ : ∃ z, z = a2 - 1 := ⟨_, rfl⟩
                have wam : IntKind.i64.wrap ((a2 : Int) - 1) = (am : Int) := by rw [IntKind.wrap_i64]; have := b2N.out; have := XP2.out; omega
                have amN : am < n := by have := b2N.out; have := XP2.out; omega
                have pN : p2 < n := by have := b2N.out; have := XP2.out; omega
                have am0 : (0 : Int) ≤ (am : Int) := by omega
                have am1 : (am : Int) < (n : Int) := by omega
                have p0I : (0 : Int) ≤ (p2 : Int) := by omega
                have p1I : (p2 : Int) < (n : Int) := by omega
                obtain ⟨x, hx⟩ : ∃ z, d7[am]! = z := ⟨_, rfl⟩
                obtain ⟨y, hy⟩ : ∃ z, d7[p2]! = z := ⟨_, rfl⟩
                have c0 := S7.out.at amN hx
                have c1 := S7.out.at pN hy
                have LL := Lib.hid (less_u32 x y)
                have X := Lib.hid (And.intro hx (And.intro hy (And.intro ham ha0)))
                clear amN pN hx hy ham ha0
                go_wp2_with fail
                go_quiet (exact Calls.quiet_of_same (LL.out _))
                have k9 := keeps_drewN w7 nq
                generalize World.drewN w7 nq = wq at *
                have SQ := Lib.hid (S7.out.keep k9)
                clear k9 c0 c1
                cases hb : ltN x y
                · go_wp2_with fail
                  go_at_call 36
                  refine (PQ.out _ _ p2 SQ.out XP2.out.1 XP2.out.2).mono ?_
                  rintro e w4 ⟨rfl, s4⟩
                  obtain ⟨PRV, hPE⟩ : ∃ z, partitionEqual ltN d7 a2 b2 p2 = z := ⟨_, rfl⟩
                  obtain ⟨mid, d4⟩ := PRV
                  rw [hPE] at s4 ⊢
                  simp only at s4 ⊢
                  have RE := Lib.hid (round_eq swo_ltN (partitionEqual_holds ltN) X.out.2.2.2 XP2.out.1 XP2.out.2 SZD.out B7.out (by rw [← X.out.2.2.1, X.out.1, X.out.2.1]; exact hb) hPE)
                  have S4 := Lib.hid (SQ.out.step s4)
                  clear s4 hPE
                  go_wp2_with fail
                  go_roundw
                  case rel => exact ⟨mid, b2, lm, _, _, d4, rfl, rfl, rfl, rfl, rfl, by have := RE.out; have := F1.out; omega, RE.out.2.1, F1.out.2.2.1, by have := LM.out; omega, RE.out.2.2.2.1, S4.out, fun R h k => by
                    have := RE.out.2.2.2.2 R h k
                    exact C1.out R (permIn_trans _ _ _ a2 b2 PM7.out this.1) this.2⟩
                  case measure => have := RE.out; simp [intOf]; omega
                · go_wp2_with fail
                  go_at_call 37
                  refine (PT.out _ _ p2 SQ.out XP2.out.1 XP2.out.2).mono ?_
                  rintro e w4 ⟨rfl, s4⟩
                  obtain ⟨PRV, hPR⟩ : ∃ z, partition ltN d7 a2 b2 p2 = z := ⟨_, rfl⟩
                  obtain ⟨mid, ap, d4⟩ := PRV
                  rw [hPR] at s4 ⊢
                  simp only at s4 ⊢
                  obtain ⟨q1, q2, q3, q4, q5, q6, q7⟩ := round_part swo_ltN (partition_holds ltN) XP2.out.1 XP2.out.2 SZD.out B7.out hPR
                  have S4 := Lib.hid (SQ.out.step s4)
                  have M := Lib.hid (And.intro q1 (And.intro q2 (And.intro q4 q5)))
                  have Q6 := Lib.hid q6
                  have Q7 := Lib.hid q7
                  obtain ⟨le, hle⟩ : ∃ z, z = mid - a2 := ⟨_, rfl⟩
                  obtain ⟨ri, hri⟩ : ∃ z, z = b2 - mid := ⟨_, rfl⟩
                  have bN := b2N.out
                  have wle : IntKind.i64.wrap ((mid : Int) - (a2 : Int)) = (le : Int) := by rw [IntKind.wrap_i64]; omega
                  have wri : IntKind.i64.wrap ((b2 : Int) - (mid : Int)) = (ri : Int) := by rw [IntKind.wrap_i64]; omega
                  have mI : (mid : Int) ≤ 1000000 := by omega
                  have m0 : (0 : Int) ≤ (mid : Int) := by omega
                  obtain ⟨mp, hmp⟩ : ∃ z, z = mid + 1 := ⟨_, rfl⟩
                  have wmp : IntKind.i64.wrap ((mid : Int) + 1) = (mp : Int) := by rw [IntKind.wrap_i64]; omega
                  have fF := F.out
                  have fF1 := F1.out
                  have IL := Lib.hid (IH.out w4 a2 mid lm d4 (by omega) S4.out q1 (by omega) q4 (by have := LM.out; omega))
                  have IR := Lib.hid (IH.out w4 mp b2 lm d4 (by omega) S4.out (by omega) (by omega) (by rw [hmp]; exact q5) (by have := LM.out; omega))
                  have HMP := Lib.hid hmp
                  have HL2 := Lib.hid (And.intro hle hri)
                  clear q1 q2 q3 q4 q5 q6 q7 s4 hPR bN hmp fF fF1 hle hri
                  by_cases hlr : le < ri
                  · have gl : (le : Int) < (ri : Int) := by omega
                    have glb : decide (le < ri) = true := decide_eq_true hlr
                    clear hlr
                    go_wp2_with fail
                    go_at_call 27
                    refine IL.out.mono ?_
                    rintro e w5 ⟨d5, rfl, hp5, hs5, hS5⟩
                    have R5 := Lib.hid (Q6.out d5 hp5 hs5)
                    have S5 := Lib.hid (S4.out.step hS5)
                    clear hp5 hs5 hS5
                    go_wp2_with fail
                    go_roundw
                    case rel => exact ⟨mp, b2, lm, _, ap, d5, rfl, rfl, rfl, rfl, rfl, by have := M.out; have := F1.out; have := HMP.out; omega, by have := M.out; have := HMP.out; omega, F1.out.2.2.1, by have := LM.out; omega, by rw [HMP.out]; exact R5.out.1, S5.out, fun R h k => by
                      have := R5.out.2 R (by rw [← HMP.out]; exact h) (by rw [← HMP.out]; exact k)
                      exact C1.out R (permIn_trans _ _ _ a2 b2 PM7.out this.1) this.2⟩
                    case measure => have := M.out; have := HMP.out; simp [intOf]; omega
                  · have gl : decide ((le : Int) < (ri : Int)) = false := decide_eq_false (by omega)
                    have glb : decide (le < ri) = false := decide_eq_false hlr
                    clear hlr
                    go_wp2_with fail
                    go_at_call 27
                    refine IR.out.mono ?_
                    rintro e w5 ⟨d5, rfl, hp5, hs5, hS5⟩
                    have R5 := Lib.hid (Q7.out d5 (by rw [← HMP.out]; exact hp5) (by rw [← HMP.out]; exact hs5))
                    have S5 := Lib.hid (S4.out.step hS5)
                    clear hp5 hs5 hS5
                    go_wp2_with fail
                    go_roundw
                    case rel => exact ⟨a2, mid, lm, _, ap, d5, rfl, rfl, rfl, rfl, rfl, F1.out.1, M.out.1, by have := M.out; have := F1.out; omega, by have := LM.out; omega, R5.out.1, S5.out, fun R h k => by
                      have := R5.out.2 R h k
                      exact C1.out R (permIn_trans _ _ _ a2 b2 PM7.out this.1) this.2⟩
                    case measure => have := M.out; simp [intOf]; omega
              · have ga : decide ((0 : Int) < (a2 : Int)) = false := decide_eq_false (by omega)
                have gab : decide (0 < a2) = false := decide_eq_false ha0
                clear ha0
                go_wp2_with fail
                go_quiet (fail)
                have k9 := keeps_drewN w7 nq
                generalize World.drewN w7 nq = wq at *
                have SQ := Lib.hid (S7.out.keep k9)
                clear k9
                go_wp2_with fail
                go_at_call 37
                refine (PT.out _ _ p2 SQ.out XP2.out.1 XP2.out.2).mono ?_
                rintro e w4 ⟨rfl, s4⟩
                obtain ⟨PRV, hPR⟩ : ∃ z, partition ltN d7 a2 b2 p2 = z := ⟨_, rfl⟩
                obtain ⟨mid, ap, d4⟩ := PRV
                rw [hPR] at s4 ⊢
                simp only at s4 ⊢
                obtain ⟨q1, q2, q3, q4, q5, q6, q7⟩ := round_part swo_ltN (partition_holds ltN) XP2.out.1 XP2.out.2 SZD.out B7.out hPR
                have S4 := Lib.hid (SQ.out.step s4)
                have M := Lib.hid (And.intro q1 (And.intro q2 (And.intro q4 q5)))
                have Q6 := Lib.hid q6
                have Q7 := Lib.hid q7
                obtain ⟨le, hle⟩ : ∃ z, z = mid - a2 := ⟨_, rfl⟩
                obtain ⟨ri, hri⟩ : ∃ z, z = b2 - mid := ⟨_, rfl⟩
                have bN := b2N.out
                have wle : IntKind.i64.wrap ((mid : Int) - (a2 : Int)) = (le : Int) := by rw [IntKind.wrap_i64]; omega
                have wri : IntKind.i64.wrap ((b2 : Int) - (mid : Int)) = (ri : Int) := by rw [IntKind.wrap_i64]; omega
                have mI : (mid : Int) ≤ 1000000 := by omega
                have m0 : (0 : Int) ≤ (mid : Int) := by omega
                obtain ⟨mp, hmp⟩ : ∃ z, z = mid + 1 := ⟨_, rfl⟩
                have wmp : IntKind.i64.wrap ((mid : Int) + 1) = (mp : Int) := by rw [IntKind.wrap_i64]; omega
                have fF := F.out
                have fF1 := F1.out
                have IL := Lib.hid (IH.out w4 a2 mid lm d4 (by omega) S4.out q1 (by omega) q4 (by have := LM.out; omega))
                have IR := Lib.hid (IH.out w4 mp b2 lm d4 (by omega) S4.out (by omega) (by omega) (by rw [hmp]; exact q5) (by have := LM.out; omega))
                have HMP := Lib.hid hmp
                have HL2 := Lib.hid (And.intro hle hri)
                clear q1 q2 q3 q4 q5 q6 q7 s4 hPR bN hmp fF fF1 hle hri
                by_cases hlr : le < ri
                · have gl : (le : Int) < (ri : Int) := by omega
                  have glb : decide (le < ri) = true := decide_eq_true hlr
                  clear hlr
                  go_wp2_with fail
                  go_at_call 27
                  refine IL.out.mono ?_
                  rintro e w5 ⟨d5, rfl, hp5, hs5, hS5⟩
                  have R5 := Lib.hid (Q6.out d5 hp5 hs5)
                  have S5 := Lib.hid (S4.out.step hS5)
                  clear hp5 hs5 hS5
                  go_wp2_with fail
                  go_roundw
                  case rel => exact ⟨mp, b2, lm, _, ap, d5, rfl, rfl, rfl, rfl, rfl, by have := M.out; have := F1.out; have := HMP.out; omega, by have := M.out; have := HMP.out; omega, F1.out.2.2.1, by have := LM.out; omega, by rw [HMP.out]; exact R5.out.1, S5.out, fun R h k => by
                    have := R5.out.2 R (by rw [← HMP.out]; exact h) (by rw [← HMP.out]; exact k)
                    exact C1.out R (permIn_trans _ _ _ a2 b2 PM7.out this.1) this.2⟩
                  case measure => have := M.out; have := HMP.out; simp [intOf]; omega
                · have gl : decide ((le : Int) < (ri : Int)) = false := decide_eq_false (by omega)
                  have glb : decide (le < ri) = false := decide_eq_false hlr
                  clear hlr
                  go_wp2_with fail
                  go_at_call 27
                  refine IR.out.mono ?_
                  rintro e w5 ⟨d5, rfl, hp5, hs5, hS5⟩
                  have R5 := Lib.hid (Q7.out d5 (by rw [← HMP.out]; exact hp5) (by rw [← HMP.out]; exact hs5))
                  have S5 := Lib.hid (S4.out.step hS5)
                  clear hp5 hs5 hS5
                  go_wp2_with fail
                  go_roundw
                  case rel => exact ⟨a2, mid, lm, _, ap, d5, rfl, rfl, rfl, rfl, rfl, F1.out.1, M.out.1, by have := M.out; have := F1.out; omega, by have := LM.out; omega, R5.out.1, S5.out, fun R h k => by
                    have := R5.out.2 R h k
                    exact C1.out R (permIn_trans _ _ _ a2 b2 PM7.out this.1) this.2⟩
                  case measure => have := M.out; simp [intOf]; omega
            · have gk : decide ((k : Int) = 2) = false := decide_eq_false (by omega)
              have gkb : ((k : Int) == 2) = false := by simp; omega
              have gkc : decide (k = 2) = false := decide_eq_false hk2
              have kI : (k : Int) ≤ 2 := by omega
              clear hk2
              have SZD := Lib.hid (show b2 ≤ Array.size d3 by rw [S3.out.size]; exact b2N.out)
              by_cases ha0 : 0 < a2
              · have ga : (0 : Int) < (a2 : Int) := by omega
                have gab : decide (0 < a2) = true := decide_eq_true ha0
                obtain ⟨am, ham⟩ : ∃ z, z = a2 - 1 := ⟨_, rfl⟩
                have wam : IntKind.i64.wrap ((a2 : Int) - 1) = (am : Int) := by rw [IntKind.wrap_i64]; have := b2N.out; have := XP.out; omega
                have amN : am < n := by have := b2N.out; have := XP.out; omega
                have pN : p < n := by have := b2N.out; have := XP.out; omega
                have am0 : (0 : Int) ≤ (am : Int) := by omega
                have am1 : (am : Int) < (n : Int) := by omega
                have p0I : (0 : Int) ≤ (p : Int) := by omega
                have p1I : (p : Int) < (n : Int) := by omega
                obtain ⟨x, hx⟩ : ∃ z, d3[am]! = z := ⟨_, rfl⟩
                obtain ⟨y, hy⟩ : ∃ z, d3[p]! = z := ⟨_, rfl⟩
                have c0 := S3.out.at amN hx
                have c1 := S3.out.at pN hy
                have LL := Lib.hid (less_u32 x y)
                have X := Lib.hid (And.intro hx (And.intro hy (And.intro ham ha0)))
                clear amN pN hx hy ham ha0
                go_wp2_with fail
                go_quiet (exact Calls.quiet_of_same (LL.out _))
                have k9 := keeps_drewN w3 nq
                generalize World.drewN w3 nq = wq at *
                have SQ := Lib.hid (S3.out.keep k9)
                clear k9 c0 c1
                cases hb : ltN x y
                · go_wp2_with fail
                  go_at_call 36
                  refine (PQ.out _ _ p SQ.out XP.out.1 XP.out.2).mono ?_
                  rintro e w4 ⟨rfl, s4⟩
                  obtain ⟨PRV, hPE⟩ : ∃ z, partitionEqual ltN d3 a2 b2 p = z := ⟨_, rfl⟩
                  obtain ⟨mid, d4⟩ := PRV
                  rw [hPE] at s4 ⊢
                  simp only at s4 ⊢
                  have RE := Lib.hid (round_eq swo_ltN (partitionEqual_holds ltN) X.out.2.2.2 XP.out.1 XP.out.2 SZD.out B3.out (by rw [← X.out.2.2.1, X.out.1, X.out.2.1]; exact hb) hPE)
                  have S4 := Lib.hid (SQ.out.step s4)
                  clear s4 hPE
                  go_wp2_with fail
                  go_roundw
                  case rel => exact ⟨mid, b2, lm, _, _, d4, rfl, rfl, rfl, rfl, rfl, by have := RE.out; have := F1.out; omega, RE.out.2.1, F1.out.2.2.1, by have := LM.out; omega, RE.out.2.2.2.1, S4.out, fun R h k => by
                    have := RE.out.2.2.2.2 R h k
                    exact C1.out R (permIn_trans _ _ _ a2 b2 PM3.out this.1) this.2⟩
                  case measure => have := RE.out; simp [intOf]; omega
                · go_wp2_with fail
                  go_at_call 37
                  refine (PT.out _ _ p SQ.out XP.out.1 XP.out.2).mono ?_
                  rintro e w4 ⟨rfl, s4⟩
                  obtain ⟨PRV, hPR⟩ : ∃ z, partition ltN d3 a2 b2 p = z := ⟨_, rfl⟩
                  obtain ⟨mid, ap, d4⟩ := PRV
                  rw [hPR] at s4 ⊢
                  simp only at s4 ⊢
                  obtain ⟨q1, q2, q3, q4, q5, q6, q7⟩ := round_part swo_ltN (partition_holds ltN) XP.out.1 XP.out.2 SZD.out B3.out hPR
                  have S4 := Lib.hid (SQ.out.step s4)
                  have M := Lib.hid (And.intro q1 (And.intro q2 (And.intro q4 q5)))
                  have Q6 := Lib.hid q6
                  have Q7 := Lib.hid q7
                  obtain ⟨le, hle⟩ : ∃ z, z = mid - a2 := ⟨_, rfl⟩
                  obtain ⟨ri, hri⟩ : ∃ z, z = b2 - mid := ⟨_, rfl⟩
                  have bN := b2N.out
                  have wle : IntKind.i64.wrap ((mid : Int) - (a2 : Int)) = (le : Int) := by rw [IntKind.wrap_i64]; omega
                  have wri : IntKind.i64.wrap ((b2 : Int) - (mid : Int)) = (ri : Int) := by rw [IntKind.wrap_i64]; omega
                  have mI : (mid : Int) ≤ 1000000 := by omega
                  have m0 : (0 : Int) ≤ (mid : Int) := by omega
                  obtain ⟨mp, hmp⟩ : ∃ z, z = mid + 1 := ⟨_, rfl⟩
                  have wmp : IntKind.i64.wrap ((mid : Int) + 1) = (mp : Int) := by rw [IntKind.wrap_i64]; omega
                  have fF := F.out
                  have fF1 := F1.out
                  have IL := Lib.hid (IH.out w4 a2 mid lm d4 (by omega) S4.out q1 (by omega) q4 (by have := LM.out; omega))
                  have IR := Lib.hid (IH.out w4 mp b2 lm d4 (by omega) S4.out (by omega) (by omega) (by rw [hmp]; exact q5) (by have := LM.out; omega))
                  have HMP := Lib.hid hmp
                  have HL2 := Lib.hid (And.intro hle hri)
                  clear q1 q2 q3 q4 q5 q6 q7 s4 hPR bN hmp fF fF1 hle hri
                  by_cases hlr : le < ri
                  · have gl : (le : Int) < (ri : Int) := by omega
                    have glb : decide (le < ri) = true := decide_eq_true hlr
                    clear hlr
                    go_wp2_with fail
                    go_at_call 27
                    refine IL.out.mono ?_
                    rintro e w5 ⟨d5, rfl, hp5, hs5, hS5⟩
                    have R5 := Lib.hid (Q6.out d5 hp5 hs5)
                    have S5 := Lib.hid (S4.out.step hS5)
                    clear hp5 hs5 hS5
                    go_wp2_with fail
                    go_roundw
                    case rel => exact ⟨mp, b2, lm, _, ap, d5, rfl, rfl, rfl, rfl, rfl, by have := M.out; have := F1.out; have := HMP.out; omega, by have := M.out; have := HMP.out; omega, F1.out.2.2.1, by have := LM.out; omega, by rw [HMP.out]; exact R5.out.1, S5.out, fun R h k => by
                      have := R5.out.2 R (by rw [← HMP.out]; exact h) (by rw [← HMP.out]; exact k)
                      exact C1.out R (permIn_trans _ _ _ a2 b2 PM3.out this.1) this.2⟩
                    case measure => have := M.out; have := HMP.out; simp [intOf]; omega
                  · have gl : decide ((le : Int) < (ri : Int)) = false := decide_eq_false (by omega)
                    have glb : decide (le < ri) = false := decide_eq_false hlr
                    clear hlr
                    go_wp2_with fail
                    go_at_call 27
                    refine IR.out.mono ?_
                    rintro e w5 ⟨d5, rfl, hp5, hs5, hS5⟩
                    have R5 := Lib.hid (Q7.out d5 (by rw [← HMP.out]; exact hp5) (by rw [← HMP.out]; exact hs5))
                    have S5 := Lib.hid (S4.out.step hS5)
                    clear hp5 hs5 hS5
                    go_wp2_with fail
                    go_roundw
                    case rel => exact ⟨a2, mid, lm, _, ap, d5, rfl, rfl, rfl, rfl, rfl, F1.out.1, M.out.1, by have := M.out; have := F1.out; omega, by have := LM.out; omega, R5.out.1, S5.out, fun R h k => by
                      have := R5.out.2 R h k
                      exact C1.out R (permIn_trans _ _ _ a2 b2 PM3.out this.1) this.2⟩
                    case measure => have := M.out; simp [intOf]; omega
              · have ga : decide ((0 : Int) < (a2 : Int)) = false := decide_eq_false (by omega)
                have gab : decide (0 < a2) = false := decide_eq_false ha0
                clear ha0
                go_wp2_with fail
                go_quiet (fail)
                have k9 := keeps_drewN w3 nq
                generalize World.drewN w3 nq = wq at *
                have SQ := Lib.hid (S3.out.keep k9)
                clear k9
                go_wp2_with fail
                go_at_call 37
                refine (PT.out _ _ p SQ.out XP.out.1 XP.out.2).mono ?_
                rintro e w4 ⟨rfl, s4⟩
                obtain ⟨PRV, hPR⟩ : ∃ z, partition ltN d3 a2 b2 p = z := ⟨_, rfl⟩
                obtain ⟨mid, ap, d4⟩ := PRV
                rw [hPR] at s4 ⊢
                simp only at s4 ⊢
                obtain ⟨q1, q2, q3, q4, q5, q6, q7⟩ := round_part swo_ltN (partition_holds ltN) XP.out.1 XP.out.2 SZD.out B3.out hPR
                have S4 := Lib.hid (SQ.out.step s4)
                have M := Lib.hid (And.intro q1 (And.intro q2 (And.intro q4 q5)))
                have Q6 := Lib.hid q6
                have Q7 := Lib.hid q7
                obtain ⟨le, hle⟩ : ∃ z, z = mid - a2 := ⟨_, rfl⟩
                obtain ⟨ri, hri⟩ : ∃ z, z = b2 - mid := ⟨_, rfl⟩
                have bN := b2N.out
                have wle : IntKind.i64.wrap ((mid : Int) - (a2 : Int)) = (le : Int) := by rw [IntKind.wrap_i64]; omega
                have wri : IntKind.i64.wrap ((b2 : Int) - (mid : Int)) = (ri : Int) := by rw [IntKind.wrap_i64]; omega
                have mI : (mid : Int) ≤ 1000000 := by omega
                have m0 : (0 : Int) ≤ (mid : Int) := by omega
                obtain ⟨mp, hmp⟩ : ∃ z, z = mid + 1 := ⟨_, rfl⟩
                have wmp : IntKind.i64.wrap ((mid : Int) + 1) = (mp : Int) := by rw [IntKind.wrap_i64]; omega
                have fF := F.out
                have fF1 := F1.out
                have IL := Lib.hid (IH.out w4 a2 mid lm d4 (by omega) S4.out q1 (by omega) q4 (by have := LM.out; omega))
                have IR := Lib.hid (IH.out w4 mp b2 lm d4 (by omega) S4.out (by omega) (by omega) (by rw [hmp]; exact q5) (by have := LM.out; omega))
                have HMP := Lib.hid hmp
                have HL2 := Lib.hid (And.intro hle hri)
                clear q1 q2 q3 q4 q5 q6 q7 s4 hPR bN hmp fF fF1 hle hri
                by_cases hlr : le < ri
                · have gl : (le : Int) < (ri : Int) := by omega
                  have glb : decide (le < ri) = true := decide_eq_true hlr
                  clear hlr
                  go_wp2_with fail
                  go_at_call 27
                  refine IL.out.mono ?_
                  rintro e w5 ⟨d5, rfl, hp5, hs5, hS5⟩
                  have R5 := Lib.hid (Q6.out d5 hp5 hs5)
                  have S5 := Lib.hid (S4.out.step hS5)
                  clear hp5 hs5 hS5
                  go_wp2_with fail
                  go_roundw
                  case rel => exact ⟨mp, b2, lm, _, ap, d5, rfl, rfl, rfl, rfl, rfl, by have := M.out; have := F1.out; have := HMP.out; omega, by have := M.out; have := HMP.out; omega, F1.out.2.2.1, by have := LM.out; omega, by rw [HMP.out]; exact R5.out.1, S5.out, fun R h k => by
                    have := R5.out.2 R (by rw [← HMP.out]; exact h) (by rw [← HMP.out]; exact k)
                    exact C1.out R (permIn_trans _ _ _ a2 b2 PM3.out this.1) this.2⟩
                  case measure => have := M.out; have := HMP.out; simp [intOf]; omega
                · have gl : decide ((le : Int) < (ri : Int)) = false := decide_eq_false (by omega)
                  have glb : decide (le < ri) = false := decide_eq_false hlr
                  clear hlr
                  go_wp2_with fail
                  go_at_call 27
                  refine IR.out.mono ?_
                  rintro e w5 ⟨d5, rfl, hp5, hs5, hS5⟩
                  have R5 := Lib.hid (Q7.out d5 (by rw [← HMP.out]; exact hp5) (by rw [← HMP.out]; exact hs5))
                  have S5 := Lib.hid (S4.out.step hS5)
                  clear hp5 hs5 hS5
                  go_wp2_with fail
                  go_roundw
                  case rel => exact ⟨a2, mid, lm, _, ap, d5, rfl, rfl, rfl, rfl, rfl, F1.out.1, M.out.1, by have := M.out; have := F1.out; omega, by have := LM.out; omega, R5.out.1, S5.out, fun R h k => by
                    have := R5.out.2 R h k
                    exact C1.out R (permIn_trans _ _ _ a2 b2 PM3.out this.1) this.2⟩
                  case measure => have := M.out; simp [intOf]; omega
          · cases wp
            · go_wp2_with fail
              go_at_call 32
              refine (CH.out _ _ S1.out).mono ?_
              rintro e w3 ⟨p, k, rfl, hp, hk, kp⟩
              have XP := Lib.hid hp
              have S3 := Lib.hid (S1.out.keep kp)
              have p0 : (0 : Int) ≤ (p : Int) := by omega
              have pI : (p : Int) ≤ 1000000 := by have := b2N.out; omega
              clear hp kp
              by_cases hk2 : k = 2
              · subst hk2
                obtain ⟨pa, hpa⟩ : ∃ z, z = p - a2 := ⟨_, rfl⟩
                have wpa : IntKind.i64.wrap ((p : Int) - (a2 : Int)) = (pa : Int) := by rw [IntKind.wrap_i64]; have := b2N.out; have := XP.out; omega
                obtain ⟨p2, hp2⟩ : ∃ z, z = bm - pa := ⟨_, rfl⟩
                have wp2 : IntKind.i64.wrap ((bm : Int) - (pa : Int)) = (p2 : Int) := by rw [IntKind.wrap_i64]; have := b2N.out; have := XP.out; have := HB.out; omega
                have XP2 := Lib.hid (show a2 ≤ p2 ∧ p2 < b2 by have := XP.out; have := HB.out; omega)
                clear hpa hp2
                go_wp2_with fail
                go_at_call 33
                refine (RV.out _ _ S3.out).mono ?_
                rintro e w7 ⟨rfl, s7⟩
                have RH := Lib.hid (reverseRange_holds d2 a2 b2 (by have := XP.out; omega) (by rw [S3.out.size]; exact b2N.out))
                obtain ⟨d7, hd7⟩ : ∃ z, reverseRange d2 a2 b2 = z := ⟨_, rfl⟩
                rw [hd7] at s7 RH
                have S7 := Lib.hid (S3.out.step s7)
                have PM7 := Lib.hid (permIn_trans _ _ _ a2 b2 RI.out RH.out)
                have B7 := Lib.hid (Below.permA permIn_all (by rw [S3.out.size]; exact b2N.out) B1.out RH.out)
                clear s7 hd7
                have SZD := Lib.hid (show b2 ≤ Array.size d7 by rw [S7.out.size]; exact b2N.out)
                by_cases ha0 : 0 < a2
                · have ga : (0 : Int) < (a2 : Int) := by omega
                  have gab : decide (0 < a2) = true := decide_eq_true ha0
                  obtain ⟨am, ham⟩ : ∃ z, z = a2 - 1 := ⟨_, rfl⟩
                  have wam : IntKind.i64.wrap ((a2 : Int) - 1) = (am : Int) := by rw [IntKind.wrap_i64]; have := b2N.out; have := XP2.out; omega
                  have amN : am < n := by have := b2N.out; have := XP2.out; omega
                  have pN : p2 < n := by have := b2N.out; have := XP2.out; omega
                  have am0 : (0 : Int) ≤ (am : Int) := by omega
                  have am1 : (am : Int) < (n : Int) := by omega
                  have p0I : (0 : Int) ≤ (p2 : Int) := by omega
                  have p1I : (p2 : Int) < (n : Int) := by omega
                  obtain ⟨x, hx⟩ : ∃ z, d7[am]! = z := ⟨_, rfl⟩
                  obtain ⟨y, hy⟩ : ∃ z, d7[p2]! = z := ⟨_, rfl⟩
                  have c0 := S7.out.at amN hx
                  have c1 := S7.out.at pN hy
                  have LL := Lib.hid (less_u32 x y)
                  have X := Lib.hid (And.intro hx (And.intro hy (And.intro ham ha0)))
                  clear amN pN hx hy ham ha0
                  go_wp2_with fail
                  go_quiet (exact Calls.quiet_of_same (LL.out _))
                  have k9 := keeps_drewN w7 nq
                  generalize World.drewN w7 nq = wq at *
                  have SQ := Lib.hid (S7.out.keep k9)
                  clear k9 c0 c1
                  cases hb : ltN x y
                  · go_wp2_with fail
                    go_at_call 36
                    refine (PQ.out _ _ p2 SQ.out XP2.out.1 XP2.out.2).mono ?_
                    rintro e w4 ⟨rfl, s4⟩
                    obtain ⟨PRV, hPE⟩ : ∃ z, partitionEqual ltN d7 a2 b2 p2 = z := ⟨_, rfl⟩
                    obtain ⟨mid, d4⟩ := PRV
                    rw [hPE] at s4 ⊢
                    simp only at s4 ⊢
                    have RE := Lib.hid (round_eq swo_ltN (partitionEqual_holds ltN) X.out.2.2.2 XP2.out.1 XP2.out.2 SZD.out B7.out (by rw [← X.out.2.2.1, X.out.1, X.out.2.1]; exact hb) hPE)
                    have S4 := Lib.hid (SQ.out.step s4)
                    clear s4 hPE
                    go_wp2_with fail
                    go_roundw
                    case rel => exact ⟨mid, b2, l2, _, _, d4, rfl, rfl, rfl, rfl, rfl, by have := RE.out; have := F1.out; omega, RE.out.2.1, F1.out.2.2.1, by have := LM.out; omega, RE.out.2.2.2.1, S4.out, fun R h k => by
                      have := RE.out.2.2.2.2 R h k
                      exact C1.out R (permIn_trans _ _ _ a2 b2 PM7.out this.1) this.2⟩
                    case measure => have := RE.out; simp [intOf]; omega
                  · go_wp2_with fail
                    go_at_call 37
                    refine (PT.out _ _ p2 SQ.out XP2.out.1 XP2.out.2).mono ?_
                    rintro e w4 ⟨rfl, s4⟩
                    obtain ⟨PRV, hPR⟩ : ∃ z, partition ltN d7 a2 b2 p2 = z := ⟨_, rfl⟩
                    obtain ⟨mid, ap, d4⟩ := PRV
                    rw [hPR] at s4 ⊢
                    simp only at s4 ⊢
                    obtain ⟨q1, q2, q3, q4, q5, q6, q7⟩ := round_part swo_ltN (partition_holds ltN) XP2.out.1 XP2.out.2 SZD.out B7.out hPR
                    have S4 := Lib.hid (SQ.out.step s4)
                    have M := Lib.hid (And.intro q1 (And.intro q2 (And.intro q4 q5)))
                    have Q6 := Lib.hid q6
                    have Q7 := Lib.hid q7
                    obtain ⟨le, hle⟩ : ∃ z, z = mid - a2 := ⟨_, rfl⟩
                    obtain ⟨ri, hri⟩ : ∃ z, z = b2 - mid := ⟨_, rfl⟩
                    have bN := b2N.out
                    have wle : IntKind.i64.wrap ((mid : Int) - (a2 : Int)) = (le : Int) := by rw [IntKind.wrap_i64]; omega
                    have wri : IntKind.i64.wrap ((b2 : Int) - (mid : Int)) = (ri : Int) := by rw [IntKind.wrap_i64]; omega
                    have mI : (mid : Int) ≤ 1000000 := by omega
                    have m0 : (0 : Int) ≤ (mid : Int) := by omega
                    obtain ⟨mp, hmp⟩ : ∃ z, z = mid + 1 := ⟨_, rfl⟩
                    have wmp : IntKind.i64.wrap ((mid : Int) + 1) = (mp : Int) := by rw [IntKind.wrap_i64]; omega
                    have fF := F.out
                    have fF1 := F1.out
                    have IL := Lib.hid (IH.out w4 a2 mid l2 d4 (by omega) S4.out q1 (by omega) q4 (by have := LM.out; omega))
                    have IR := Lib.hid (IH.out w4 mp b2 l2 d4 (by omega) S4.out (by omega) (by omega) (by rw [hmp]; exact q5) (by have := LM.out; omega))
                    have HMP := Lib.hid hmp
                    have HL2 := Lib.hid (And.intro hle hri)
                    clear q1 q2 q3 q4 q5 q6 q7 s4 hPR bN hmp fF fF1 hle hri
                    by_cases hlr : le < ri
                    · have gl : (le : Int) < (ri : Int) := by omega
                      have glb : decide (le < ri) = true := decide_eq_true hlr
                      clear hlr
                      go_wp2_with fail
                      go_at_call 27
                      refine IL.out.mono ?_
                      rintro e w5 ⟨d5, rfl, hp5, hs5, hS5⟩
                      have R5 := Lib.hid (Q6.out d5 hp5 hs5)
                      have S5 := Lib.hid (S4.out.step hS5)
                      clear hp5 hs5 hS5
                      go_wp2_with fail
                      go_roundw
                      case rel => exact ⟨mp, b2, l2, _, ap, d5, rfl, rfl, rfl, rfl, rfl, by have := M.out; have := F1.out; have := HMP.out; omega, by have := M.out; have := HMP.out; omega, F1.out.2.2.1, by have := LM.out; omega, by rw [HMP.out]; exact R5.out.1, S5.out, fun R h k => by
                        have := R5.out.2 R (by rw [← HMP.out]; exact h) (by rw [← HMP.out]; exact k)
                        exact C1.out R (permIn_trans _ _ _ a2 b2 PM7.out this.1) this.2⟩
                      case measure => have := M.out; have := HMP.out; simp [intOf]; omega
                    · have gl : decide ((le : Int) < (ri : Int)) = false := decide_eq_false (by omega)
                      have glb : decide (le < ri) = false := decide_eq_false hlr
                      clear hlr
                      go_wp2_with fail
                      go_at_call 27
                      refine IR.out.mono ?_
                      rintro e w5 ⟨d5, rfl, hp5, hs5, hS5⟩
                      have R5 := Lib.hid (Q7.out d5 (by rw [← HMP.out]; exact hp5) (by rw [← HMP.out]; exact hs5))
                      have S5 := Lib.hid (S4.out.step hS5)
                      clear hp5 hs5 hS5
                      go_wp2_with fail
                      go_roundw
                      case rel => exact ⟨a2, mid, l2, _, ap, d5, rfl, rfl, rfl, rfl, rfl, F1.out.1, M.out.1, by have := M.out; have := F1.out; omega, by have := LM.out; omega, R5.out.1, S5.out, fun R h k => by
                        have := R5.out.2 R h k
                        exact C1.out R (permIn_trans _ _ _ a2 b2 PM7.out this.1) this.2⟩
                      case measure => have := M.out; simp [intOf]; omega
                · have ga : decide ((0 : Int) < (a2 : Int)) = false := decide_eq_false (by omega)
                  have gab : decide (0 < a2) = false := decide_eq_false ha0
                  clear ha0
                  go_wp2_with fail
                  go_quiet (fail)
                  have k9 := keeps_drewN w7 nq
                  generalize World.drewN w7 nq = wq at *
                  have SQ := Lib.hid (S7.out.keep k9)
                  clear k9
                  go_wp2_with fail
                  go_at_call 37
                  refine (PT.out _ _ p2 SQ.out XP2.out.1 XP2.out.2).mono ?_
                  rintro e w4 ⟨rfl, s4⟩
                  obtain ⟨PRV, hPR⟩ : ∃ z, partition ltN d7 a2 b2 p2 = z := ⟨_, rfl⟩
                  obtain ⟨mid, ap, d4⟩ := PRV
                  rw [hPR] at s4 ⊢
                  simp only at s4 ⊢
                  obtain ⟨q1, q2, q3, q4, q5, q6, q7⟩ := round_part swo_ltN (partition_holds ltN) XP2.out.1 XP2.out.2 SZD.out B7.out hPR
                  have S4 := Lib.hid (SQ.out.step s4)
                  have M := Lib.hid (And.intro q1 (And.intro q2 (And.intro q4 q5)))
                  have Q6 := Lib.hid q6
                  have Q7 := Lib.hid q7
                  obtain ⟨le, hle⟩ : ∃ z, z = mid - a2 := ⟨_, rfl⟩
                  obtain ⟨ri, hri⟩ : ∃ z, z = b2 - mid := ⟨_, rfl⟩
                  have bN := b2N.out
                  have wle : IntKind.i64.wrap ((mid : Int) - (a2 : Int)) = (le : Int) := by rw [IntKind.wrap_i64]; omega
                  have wri : IntKind.i64.wrap ((b2 : Int) - (mid : Int)) = (ri : Int) := by rw [IntKind.wrap_i64]; omega
                  have mI : (mid : Int) ≤ 1000000 := by omega
                  have m0 : (0 : Int) ≤ (mid : Int) := by omega
                  obtain ⟨mp, hmp⟩ : ∃ z, z = mid + 1 := ⟨_, rfl⟩
                  have wmp : IntKind.i64.wrap ((mid : Int) + 1) = (mp : Int) := by rw [IntKind.wrap_i64]; omega
                  have fF := F.out
                  have fF1 := F1.out
                  have IL := Lib.hid (IH.out w4 a2 mid l2 d4 (by omega) S4.out q1 (by omega) q4 (by have := LM.out; omega))
                  have IR := Lib.hid (IH.out w4 mp b2 l2 d4 (by omega) S4.out (by omega) (by omega) (by rw [hmp]; exact q5) (by have := LM.out; omega))
                  have HMP := Lib.hid hmp
                  have HL2 := Lib.hid (And.intro hle hri)
                  clear q1 q2 q3 q4 q5 q6 q7 s4 hPR bN hmp fF fF1 hle hri
                  by_cases hlr : le < ri
                  · have gl : (le : Int) < (ri : Int) := by omega
                    have glb : decide (le < ri) = true := decide_eq_true hlr
                    clear hlr
                    go_wp2_with fail
                    go_at_call 27
                    refine IL.out.mono ?_
                    rintro e w5 ⟨d5, rfl, hp5, hs5, hS5⟩
                    have R5 := Lib.hid (Q6.out d5 hp5 hs5)
                    have S5 := Lib.hid (S4.out.step hS5)
                    clear hp5 hs5 hS5
                    go_wp2_with fail
                    go_roundw
                    case rel => exact ⟨mp, b2, l2, _, ap, d5, rfl, rfl, rfl, rfl, rfl, by have := M.out; have := F1.out; have := HMP.out; omega, by have := M.out; have := HMP.out; omega, F1.out.2.2.1, by have := LM.out; omega, by rw [HMP.out]; exact R5.out.1, S5.out, fun R h k => by
                      have := R5.out.2 R (by rw [← HMP.out]; exact h) (by rw [← HMP.out]; exact k)
                      exact C1.out R (permIn_trans _ _ _ a2 b2 PM7.out this.1) this.2⟩
                    case measure => have := M.out; have := HMP.out; simp [intOf]; omega
                  · have gl : decide ((le : Int) < (ri : Int)) = false := decide_eq_false (by omega)
                    have glb : decide (le < ri) = false := decide_eq_false hlr
                    clear hlr
                    go_wp2_with fail
                    go_at_call 27
                    refine IR.out.mono ?_
                    rintro e w5 ⟨d5, rfl, hp5, hs5, hS5⟩
                    have R5 := Lib.hid (Q7.out d5 (by rw [← HMP.out]; exact hp5) (by rw [← HMP.out]; exact hs5))
                    have S5 := Lib.hid (S4.out.step hS5)
                    clear hp5 hs5 hS5
                    go_wp2_with fail
                    go_roundw
                    case rel => exact ⟨a2, mid, l2, _, ap, d5, rfl, rfl, rfl, rfl, rfl, F1.out.1, M.out.1, by have := M.out; have := F1.out; omega, by have := LM.out; omega, R5.out.1, S5.out, fun R h k => by
                      have := R5.out.2 R h k
                      exact C1.out R (permIn_trans _ _ _ a2 b2 PM7.out this.1) this.2⟩
                    case measure => have := M.out; simp [intOf]; omega
              · have gk : decide ((k : Int) = 2) = false := decide_eq_false (by omega)
                have gkb : ((k : Int) == 2) = false := by simp; omega
                have gkc : decide (k = 2) = false := decide_eq_false hk2
                have kI : (k : Int) ≤ 2 := by omega
                clear hk2
                have SZD := Lib.hid (show b2 ≤ Array.size d2 by rw [S3.out.size]; exact b2N.out)
                by_cases ha0 : 0 < a2
                · have ga : (0 : Int) < (a2 : Int) := by omega
                  have gab : decide (0 < a2) = true := decide_eq_true ha0
                  obtain ⟨am, ham⟩ : ∃ z, z = a2 - 1 := ⟨_, rfl⟩
                  have wam : IntKind.i64.wrap ((a2 : Int) - 1) = (am : Int) := by rw [IntKind.wrap_i64]; have := b2N.out; have := XP.out; omega
                  have amN : am < n := by have := b2N.out; have := XP.out; omega
                  have pN : p < n := by have := b2N.out; have := XP.out; omega
                  have am0 : (0 : Int) ≤ (am : Int) := by omega
                  have am1 : (am : Int) < (n : Int) := by omega
                  have p0I : (0 : Int) ≤ (p : Int) := by omega
                  have p1I : (p : Int) < (n : Int) := by omega
                  obtain ⟨x, hx⟩ : ∃ z, d2[am]! = z := ⟨_, rfl⟩
                  obtain ⟨y, hy⟩ : ∃ z, d2[p]! = z := ⟨_, rfl⟩
                  have c0 := S3.out.at amN hx
                  have c1 := S3.out.at pN hy
                  have LL := Lib.hid (less_u32 x y)
                  have X := Lib.hid (And.intro hx (And.intro hy (And.intro ham ha0)))
                  clear amN pN hx hy ham ha0
                  go_wp2_with fail
                  go_quiet (exact Calls.quiet_of_same (LL.out _))
                  have k9 := keeps_drewN w3 nq
                  generalize World.drewN w3 nq = wq at *
                  have SQ := Lib.hid (S3.out.keep k9)
                  clear k9 c0 c1
                  cases hb : ltN x y
                  · go_wp2_with fail
                    go_at_call 36
                    refine (PQ.out _ _ p SQ.out XP.out.1 XP.out.2).mono ?_
                    rintro e w4 ⟨rfl, s4⟩
                    obtain ⟨PRV, hPE⟩ : ∃ z, partitionEqual ltN d2 a2 b2 p = z := ⟨_, rfl⟩
                    obtain ⟨mid, d4⟩ := PRV
                    rw [hPE] at s4 ⊢
                    simp only at s4 ⊢
                    have RE := Lib.hid (round_eq swo_ltN (partitionEqual_holds ltN) X.out.2.2.2 XP.out.1 XP.out.2 SZD.out B1.out (by rw [← X.out.2.2.1, X.out.1, X.out.2.1]; exact hb) hPE)
                    have S4 := Lib.hid (SQ.out.step s4)
                    clear s4 hPE
                    go_wp2_with fail
                    go_roundw
                    case rel => exact ⟨mid, b2, l2, _, _, d4, rfl, rfl, rfl, rfl, rfl, by have := RE.out; have := F1.out; omega, RE.out.2.1, F1.out.2.2.1, by have := LM.out; omega, RE.out.2.2.2.1, S4.out, fun R h k => by
                      have := RE.out.2.2.2.2 R h k
                      exact C1.out R (permIn_trans _ _ _ a2 b2 RI.out this.1) this.2⟩
                    case measure => have := RE.out; simp [intOf]; omega
                  · go_wp2_with fail
                    go_at_call 37
                    refine (PT.out _ _ p SQ.out XP.out.1 XP.out.2).mono ?_
                    rintro e w4 ⟨rfl, s4⟩
                    obtain ⟨PRV, hPR⟩ : ∃ z, partition ltN d2 a2 b2 p = z := ⟨_, rfl⟩
                    obtain ⟨mid, ap, d4⟩ := PRV
                    rw [hPR] at s4 ⊢
                    simp only at s4 ⊢
                    obtain ⟨q1, q2, q3, q4, q5, q6, q7⟩ := round_part swo_ltN (partition_holds ltN) XP.out.1 XP.out.2 SZD.out B1.out hPR
                    have S4 := Lib.hid (SQ.out.step s4)
                    have M := Lib.hid (And.intro q1 (And.intro q2 (And.intro q4 q5)))
                    have Q6 := Lib.hid q6
                    have Q7 := Lib.hid q7
                    obtain ⟨le, hle⟩ : ∃ z, z = mid - a2 := ⟨_, rfl⟩
                    obtain ⟨ri, hri⟩ : ∃ z, z = b2 - mid := ⟨_, rfl⟩
                    have bN := b2N.out
                    have wle : IntKind.i64.wrap ((mid : Int) - (a2 : Int)) = (le : Int) := by rw [IntKind.wrap_i64]; omega
                    have wri : IntKind.i64.wrap ((b2 : Int) - (mid : Int)) = (ri : Int) := by rw [IntKind.wrap_i64]; omega
                    have mI : (mid : Int) ≤ 1000000 := by omega
                    have m0 : (0 : Int) ≤ (mid : Int) := by omega
                    obtain ⟨mp, hmp⟩ : ∃ z, z = mid + 1 := ⟨_, rfl⟩
                    have wmp : IntKind.i64.wrap ((mid : Int) + 1) = (mp : Int) := by rw [IntKind.wrap_i64]; omega
                    have fF := F.out
                    have fF1 := F1.out
                    have IL := Lib.hid (IH.out w4 a2 mid l2 d4 (by omega) S4.out q1 (by omega) q4 (by have := LM.out; omega))
                    have IR := Lib.hid (IH.out w4 mp b2 l2 d4 (by omega) S4.out (by omega) (by omega) (by rw [hmp]; exact q5) (by have := LM.out; omega))
                    have HMP := Lib.hid hmp
                    have HL2 := Lib.hid (And.intro hle hri)
                    clear q1 q2 q3 q4 q5 q6 q7 s4 hPR bN hmp fF fF1 hle hri
                    by_cases hlr : le < ri
                    · have gl : (le : Int) < (ri : Int) := by omega
                      have glb : decide (le < ri) = true := decide_eq_true hlr
                      clear hlr
                      go_wp2_with fail
                      go_at_call 27
                      refine IL.out.mono ?_
                      rintro e w5 ⟨d5, rfl, hp5, hs5, hS5⟩
                      have R5 := Lib.hid (Q6.out d5 hp5 hs5)
                      have S5 := Lib.hid (S4.out.step hS5)
                      clear hp5 hs5 hS5
                      go_wp2_with fail
                      go_roundw
                      case rel => exact ⟨mp, b2, l2, _, ap, d5, rfl, rfl, rfl, rfl, rfl, by have := M.out; have := F1.out; have := HMP.out; omega, by have := M.out; have := HMP.out; omega, F1.out.2.2.1, by have := LM.out; omega, by rw [HMP.out]; exact R5.out.1, S5.out, fun R h k => by
                        have := R5.out.2 R (by rw [← HMP.out]; exact h) (by rw [← HMP.out]; exact k)
                        exact C1.out R (permIn_trans _ _ _ a2 b2 RI.out this.1) this.2⟩
                      case measure => have := M.out; have := HMP.out; simp [intOf]; omega
                    · have gl : decide ((le : Int) < (ri : Int)) = false := decide_eq_false (by omega)
                      have glb : decide (le < ri) = false := decide_eq_false hlr
                      clear hlr
                      go_wp2_with fail
                      go_at_call 27
                      refine IR.out.mono ?_
                      rintro e w5 ⟨d5, rfl, hp5, hs5, hS5⟩
                      have R5 := Lib.hid (Q7.out d5 (by rw [← HMP.out]; exact hp5) (by rw [← HMP.out]; exact hs5))
                      have S5 := Lib.hid (S4.out.step hS5)
                      clear hp5 hs5 hS5
                      go_wp2_with fail
                      go_roundw
                      case rel => exact ⟨a2, mid, l2, _, ap, d5, rfl, rfl, rfl, rfl, rfl, F1.out.1, M.out.1, by have := M.out; have := F1.out; omega, by have := LM.out; omega, R5.out.1, S5.out, fun R h k => by
                        have := R5.out.2 R h k
                        exact C1.out R (permIn_trans _ _ _ a2 b2 RI.out this.1) this.2⟩
                      case measure => have := M.out; simp [intOf]; omega
                · have ga : decide ((0 : Int) < (a2 : Int)) = false := decide_eq_false (by omega)
                  have gab : decide (0 < a2) = false := decide_eq_false ha0
                  clear ha0
                  go_wp2_with fail
                  go_quiet (fail)
                  have k9 := keeps_drewN w3 nq
                  generalize World.drewN w3 nq = wq at *
                  have SQ := Lib.hid (S3.out.keep k9)
                  clear k9
                  go_wp2_with fail
                  go_at_call 37
                  refine (PT.out _ _ p SQ.out XP.out.1 XP.out.2).mono ?_
                  rintro e w4 ⟨rfl, s4⟩
                  obtain ⟨PRV, hPR⟩ : ∃ z, partition ltN d2 a2 b2 p = z := ⟨_, rfl⟩
                  obtain ⟨mid, ap, d4⟩ := PRV
                  rw [hPR] at s4 ⊢
                  simp only at s4 ⊢
                  obtain ⟨q1, q2, q3, q4, q5, q6, q7⟩ := round_part swo_ltN (partition_holds ltN) XP.out.1 XP.out.2 SZD.out B1.out hPR
                  have S4 := Lib.hid (SQ.out.step s4)
                  have M := Lib.hid (And.intro q1 (And.intro q2 (And.intro q4 q5)))
                  have Q6 := Lib.hid q6
                  have Q7 := Lib.hid q7
                  obtain ⟨le, hle⟩ : ∃ z, z = mid - a2 := ⟨_, rfl⟩
                  obtain ⟨ri, hri⟩ : ∃ z, z = b2 - mid := ⟨_, rfl⟩
                  have bN := b2N.out
                  have wle : IntKind.i64.wrap ((mid : Int) - (a2 : Int)) = (le : Int) := by rw [IntKind.wrap_i64]; omega
                  have wri : IntKind.i64.wrap ((b2 : Int) - (mid : Int)) = (ri : Int) := by rw [IntKind.wrap_i64]; omega
                  have mI : (mid : Int) ≤ 1000000 := by omega
                  have m0 : (0 : Int) ≤ (mid : Int) := by omega
                  obtain ⟨mp, hmp⟩ : ∃ z, z = mid + 1 := ⟨_, rfl⟩
                  have wmp : IntKind.i64.wrap ((mid : Int) + 1) = (mp : Int) := by rw [IntKind.wrap_i64]; omega
                  have fF := F.out
                  have fF1 := F1.out
                  have IL := Lib.hid (IH.out w4 a2 mid l2 d4 (by omega) S4.out q1 (by omega) q4 (by have := LM.out; omega))
                  have IR := Lib.hid (IH.out w4 mp b2 l2 d4 (by omega) S4.out (by omega) (by omega) (by rw [hmp]; exact q5) (by have := LM.out; omega))
                  have HMP := Lib.hid hmp
                  have HL2 := Lib.hid (And.intro hle hri)
                  clear q1 q2 q3 q4 q5 q6 q7 s4 hPR bN hmp fF fF1 hle hri
                  by_cases hlr : le < ri
                  · have gl : (le : Int) < (ri : Int) := by omega
                    have glb : decide (le < ri) = true := decide_eq_true hlr
                    clear hlr
                    go_wp2_with fail
                    go_at_call 27
                    refine IL.out.mono ?_
                    rintro e w5 ⟨d5, rfl, hp5, hs5, hS5⟩
                    have R5 := Lib.hid (Q6.out d5 hp5 hs5)
                    have S5 := Lib.hid (S4.out.step hS5)
                    clear hp5 hs5 hS5
                    go_wp2_with fail
                    go_roundw
                    case rel => exact ⟨mp, b2, l2, _, ap, d5, rfl, rfl, rfl, rfl, rfl, by have := M.out; have := F1.out; have := HMP.out; omega, by have := M.out; have := HMP.out; omega, F1.out.2.2.1, by have := LM.out; omega, by rw [HMP.out]; exact R5.out.1, S5.out, fun R h k => by
                      have := R5.out.2 R (by rw [← HMP.out]; exact h) (by rw [← HMP.out]; exact k)
                      exact C1.out R (permIn_trans _ _ _ a2 b2 RI.out this.1) this.2⟩
                    case measure => have := M.out; have := HMP.out; simp [intOf]; omega
                  · have gl : decide ((le : Int) < (ri : Int)) = false := decide_eq_false (by omega)
                    have glb : decide (le < ri) = false := decide_eq_false hlr
                    clear hlr
                    go_wp2_with fail
                    go_at_call 27
                    refine IR.out.mono ?_
                    rintro e w5 ⟨d5, rfl, hp5, hs5, hS5⟩
                    have R5 := Lib.hid (Q7.out d5 (by rw [← HMP.out]; exact hp5) (by rw [← HMP.out]; exact hs5))
                    have S5 := Lib.hid (S4.out.step hS5)
                    clear hp5 hs5 hS5
                    go_wp2_with fail
                    go_roundw
                    case rel => exact ⟨a2, mid, l2, _, ap, d5, rfl, rfl, rfl, rfl, rfl, F1.out.1, M.out.1, by have := M.out; have := F1.out; omega, by have := LM.out; omega, R5.out.1, S5.out, fun R h k => by
                      have := R5.out.2 R h k
                      exact C1.out R (permIn_trans _ _ _ a2 b2 RI.out this.1) this.2⟩
                    case measure => have := M.out; simp [intOf]; omega
            · go_wp2_with fail
              go_at_call 32
              refine (CH.out _ _ S1.out).mono ?_
              rintro e w3 ⟨p, k, rfl, hp, hk, kp⟩
              have XP := Lib.hid hp
              have S3 := Lib.hid (S1.out.keep kp)
              have p0 : (0 : Int) ≤ (p : Int) := by omega
              have pI : (p : Int) ≤ 1000000 := by have := b2N.out; omega
              clear hp kp
              by_cases hk2 : k = 2
              · subst hk2
                obtain ⟨pa, hpa⟩ : ∃ z, z = p - a2 := ⟨_, rfl⟩
                have wpa : IntKind.i64.wrap ((p : Int) - (a2 : Int)) = (pa : Int) := by rw [IntKind.wrap_i64]; have := b2N.out; have := XP.out; omega
                obtain ⟨p2, hp2⟩ : ∃ z, z = bm - pa := ⟨_, rfl⟩
                have wp2 : IntKind.i64.wrap ((bm : Int) - (pa : Int)) = (p2 : Int) := by rw [IntKind.wrap_i64]; have := b2N.out; have := XP.out; have := HB.out; omega
                have XP2 := Lib.hid (show a2 ≤ p2 ∧ p2 < b2 by have := XP.out; have := HB.out; omega)
                clear hpa hp2
                go_wp2_with fail
                go_at_call 33
                refine (RV.out _ _ S3.out).mono ?_
                rintro e w7 ⟨rfl, s7⟩
                have RH := Lib.hid (reverseRange_holds d2 a2 b2 (by have := XP.out; omega) (by rw [S3.out.size]; exact b2N.out))
                obtain ⟨d7, hd7⟩ : ∃ z, reverseRange d2 a2 b2 = z := ⟨_, rfl⟩
                rw [hd7] at s7 RH
                have S7 := Lib.hid (S3.out.step s7)
                have PM7 := Lib.hid (permIn_trans _ _ _ a2 b2 RI.out RH.out)
                have B7 := Lib.hid (Below.permA permIn_all (by rw [S3.out.size]; exact b2N.out) B1.out RH.out)
                clear s7 hd7
                go_wp2_with fail
                go_at_call 34
                refine (PI.out _ _ S7.out).mono ?_
                rintro e w6 ⟨rfl, s6⟩
                have PH := Lib.hid (partialInsertionSort_holds (lt := ltN) swo_ltN d7 a2 b2 (by have := XP2.out; omega) (by rw [S7.out.size]; exact b2N.out) B7.out)
                obtain ⟨PRV, hPI⟩ : ∃ z, partialInsertionSort ltN d7 a2 b2 = z := ⟨_, rfl⟩
                obtain ⟨d6, rb⟩ := PRV
                rw [hPI] at s6 PH ⊢
                simp only at s6 PH ⊢
                have S6 := Lib.hid (S7.out.step s6)
                have PM6 := Lib.hid (permIn_trans _ _ _ a2 b2 PM7.out PH.out.1)
                have B6 := Lib.hid (Below.permA permIn_all (by rw [S7.out.size]; exact b2N.out) B7.out PH.out.1)
                clear s6 hPI
                cases rb
                · have SZD := Lib.hid (show b2 ≤ Array.size d6 by rw [S6.out.size]; exact b2N.out)
                  by_cases ha0 : 0 < a2
                  · have ga : (0 : Int) < (a2 : Int) := by omega
                    have gab : decide (0 < a2) = true := decide_eq_true ha0
                    obtain ⟨am, ham⟩ : ∃ z, z = a2 - 1 := ⟨_, rfl⟩
                    have wam : IntKind.i64.wrap ((a2 : Int) - 1) = (am : Int) := by rw [IntKind.wrap_i64]; have := b2N.out; have := XP2.out; omega
                    have amN : am < n := by have := b2N.out; have := XP2.out; omega
                    have pN : p2 < n := by have := b2N.out; have := XP2.out; omega
                    have am0 : (0 : Int) ≤ (am : Int) := by omega
                    have am1 : (am : Int) < (n : Int) := by omega
                    have p0I : (0 : Int) ≤ (p2 : Int) := by omega
                    have p1I : (p2 : Int) < (n : Int) := by omega
                    obtain ⟨x, hx⟩ : ∃ z, d6[am]! = z := ⟨_, rfl⟩
                    obtain ⟨y, hy⟩ : ∃ z, d6[p2]! = z := ⟨_, rfl⟩
                    have c0 := S6.out.at amN hx
                    have c1 := S6.out.at pN hy
                    have LL := Lib.hid (less_u32 x y)
                    have X := Lib.hid (And.intro hx (And.intro hy (And.intro ham ha0)))
                    clear amN pN hx hy ham ha0
                    go_wp2_with fail
                    go_quiet (exact Calls.quiet_of_same (LL.out _))
                    have k9 := keeps_drewN w6 nq
                    generalize World.drewN w6 nq = wq at *
                    have SQ := Lib.hid (S6.out.keep k9)
                    clear k9 c0 c1
                    cases hb : ltN x y
                    · go_wp2_with fail
                      go_at_call 36
                      refine (PQ.out _ _ p2 SQ.out XP2.out.1 XP2.out.2).mono ?_
                      rintro e w4 ⟨rfl, s4⟩
                      obtain ⟨PRV, hPE⟩ : ∃ z, partitionEqual ltN d6 a2 b2 p2 = z := ⟨_, rfl⟩
                      obtain ⟨mid, d4⟩ := PRV
                      rw [hPE] at s4 ⊢
                      simp only at s4 ⊢
                      have RE := Lib.hid (round_eq swo_ltN (partitionEqual_holds ltN) X.out.2.2.2 XP2.out.1 XP2.out.2 SZD.out B6.out (by rw [← X.out.2.2.1, X.out.1, X.out.2.1]; exact hb) hPE)
                      have S4 := Lib.hid (SQ.out.step s4)
                      clear s4 hPE
                      go_wp2_with fail
                      go_roundw
                      case rel => exact ⟨mid, b2, l2, _, _, d4, rfl, rfl, rfl, rfl, rfl, by have := RE.out; have := F1.out; omega, RE.out.2.1, F1.out.2.2.1, by have := LM.out; omega, RE.out.2.2.2.1, S4.out, fun R h k => by
                        have := RE.out.2.2.2.2 R h k
                        exact C1.out R (permIn_trans _ _ _ a2 b2 PM6.out this.1) this.2⟩
                      case measure => have := RE.out; simp [intOf]; omega
                    · go_wp2_with fail
                      go_at_call 37
                      refine (PT.out _ _ p2 SQ.out XP2.out.1 XP2.out.2).mono ?_
                      rintro e w4 ⟨rfl, s4⟩
                      obtain ⟨PRV, hPR⟩ : ∃ z, partition ltN d6 a2 b2 p2 = z := ⟨_, rfl⟩
                      obtain ⟨mid, ap, d4⟩ := PRV
                      rw [hPR] at s4 ⊢
                      simp only at s4 ⊢
                      obtain ⟨q1, q2, q3, q4, q5, q6, q7⟩ := round_part swo_ltN (partition_holds ltN) XP2.out.1 XP2.out.2 SZD.out B6.out hPR
                      have S4 := Lib.hid (SQ.out.step s4)
                      have M := Lib.hid (And.intro q1 (And.intro q2 (And.intro q4 q5)))
                      have Q6 := Lib.hid q6
                      have Q7 := Lib.hid q7
                      obtain ⟨le, hle⟩ : ∃ z, z = mid - a2 := ⟨_, rfl⟩
                      obtain ⟨ri, hri⟩ : ∃ z, z = b2 - mid := ⟨_, rfl⟩
                      have bN := b2N.out
                      have wle : IntKind.i64.wrap ((mid : Int) - (a2 : Int)) = (le : Int) := by rw [IntKind.wrap_i64]; omega
                      have wri : IntKind.i64.wrap ((b2 : Int) - (mid : Int)) = (ri : Int) := by rw [IntKind.wrap_i64]; omega
                      have mI : (mid : Int) ≤ 1000000 := by omega
                      have m0 : (0 : Int) ≤ (mid : Int) := by omega
                      obtain ⟨mp, hmp⟩ : ∃ z, z = mid + 1 := ⟨_, rfl⟩
                      have wmp : IntKind.i64.wrap ((mid : Int) + 1) = (mp : Int) := by rw [IntKind.wrap_i64]; omega
                      have fF := F.out
                      have fF1 := F1.out
                      have IL := Lib.hid (IH.out w4 a2 mid l2 d4 (by omega) S4.out q1 (by omega) q4 (by have := LM.out; omega))
                      have IR := Lib.hid (IH.out w4 mp b2 l2 d4 (by omega) S4.out (by omega) (by omega) (by rw [hmp]; exact q5) (by have := LM.out; omega))
                      have HMP := Lib.hid hmp
                      have HL2 := Lib.hid (And.intro hle hri)
                      clear q1 q2 q3 q4 q5 q6 q7 s4 hPR bN hmp fF fF1 hle hri
                      by_cases hlr : le < ri
                      · have gl : (le : Int) < (ri : Int) := by omega
                        have glb : decide (le < ri) = true := decide_eq_true hlr
                        clear hlr
                        go_wp2_with fail
                        go_at_call 27
                        refine IL.out.mono ?_
                        rintro e w5 ⟨d5, rfl, hp5, hs5, hS5⟩
                        have R5 := Lib.hid (Q6.out d5 hp5 hs5)
                        have S5 := Lib.hid (S4.out.step hS5)
                        clear hp5 hs5 hS5
                        go_wp2_with fail
                        go_roundw
                        case rel => exact ⟨mp, b2, l2, _, ap, d5, rfl, rfl, rfl, rfl, rfl, by have := M.out; have := F1.out; have := HMP.out; omega, by have := M.out; have := HMP.out; omega, F1.out.2.2.1, by have := LM.out; omega, by rw [HMP.out]; exact R5.out.1, S5.out, fun R h k => by
                          have := R5.out.2 R (by rw [← HMP.out]; exact h) (by rw [← HMP.out]; exact k)
                          exact C1.out R (permIn_trans _ _ _ a2 b2 PM6.out this.1) this.2⟩
                        case measure => have := M.out; have := HMP.out; simp [intOf]; omega
                      · have gl : decide ((le : Int) < (ri : Int)) = false := decide_eq_false (by omega)
                        have glb : decide (le < ri) = false := decide_eq_false hlr
                        clear hlr
                        go_wp2_with fail
                        go_at_call 27
                        refine IR.out.mono ?_
                        rintro e w5 ⟨d5, rfl, hp5, hs5, hS5⟩
                        have R5 := Lib.hid (Q7.out d5 (by rw [← HMP.out]; exact hp5) (by rw [← HMP.out]; exact hs5))
                        have S5 := Lib.hid (S4.out.step hS5)
                        clear hp5 hs5 hS5
                        go_wp2_with fail
                        go_roundw
                        case rel => exact ⟨a2, mid, l2, _, ap, d5, rfl, rfl, rfl, rfl, rfl, F1.out.1, M.out.1, by have := M.out; have := F1.out; omega, by have := LM.out; omega, R5.out.1, S5.out, fun R h k => by
                          have := R5.out.2 R h k
                          exact C1.out R (permIn_trans _ _ _ a2 b2 PM6.out this.1) this.2⟩
                        case measure => have := M.out; simp [intOf]; omega
                  · have ga : decide ((0 : Int) < (a2 : Int)) = false := decide_eq_false (by omega)
                    have gab : decide (0 < a2) = false := decide_eq_false ha0
                    clear ha0
                    go_wp2_with fail
                    go_quiet (fail)
                    have k9 := keeps_drewN w6 nq
                    generalize World.drewN w6 nq = wq at *
                    have SQ := Lib.hid (S6.out.keep k9)
                    clear k9
                    go_wp2_with fail
                    go_at_call 37
                    refine (PT.out _ _ p2 SQ.out XP2.out.1 XP2.out.2).mono ?_
                    rintro e w4 ⟨rfl, s4⟩
                    obtain ⟨PRV, hPR⟩ : ∃ z, partition ltN d6 a2 b2 p2 = z := ⟨_, rfl⟩
                    obtain ⟨mid, ap, d4⟩ := PRV
                    rw [hPR] at s4 ⊢
                    simp only at s4 ⊢
                    obtain ⟨q1, q2, q3, q4, q5, q6, q7⟩ := round_part swo_ltN (partition_holds ltN) XP2.out.1 XP2.out.2 SZD.out B6.out hPR
                    have S4 := Lib.hid (SQ.out.step s4)
                    have M := Lib.hid (And.intro q1 (And.intro q2 (And.intro q4 q5)))
                    have Q6 := Lib.hid q6
                    have Q7 := Lib.hid q7
                    obtain ⟨le, hle⟩ : ∃ z, z = mid - a2 := ⟨_, rfl⟩
                    obtain ⟨ri, hri⟩ : ∃ z, z = b2 - mid := ⟨_, rfl⟩
                    have bN := b2N.out
                    have wle : IntKind.i64.wrap ((mid : Int) - (a2 : Int)) = (le : Int) := by rw [IntKind.wrap_i64]; omega
                    have wri : IntKind.i64.wrap ((b2 : Int) - (mid : Int)) = (ri : Int) := by rw [IntKind.wrap_i64]; omega
                    have mI : (mid : Int) ≤ 1000000 := by omega
                    have m0 : (0 : Int) ≤ (mid : Int) := by omega
                    obtain ⟨mp, hmp⟩ : ∃ z, z = mid + 1 := ⟨_, rfl⟩
                    have wmp : IntKind.i64.wrap ((mid : Int) + 1) = (mp : Int) := by rw [IntKind.wrap_i64]; omega
                    have fF := F.out
                    have fF1 := F1.out
                    have IL := Lib.hid (IH.out w4 a2 mid l2 d4 (by omega) S4.out q1 (by omega) q4 (by have := LM.out; omega))
                    have IR := Lib.hid (IH.out w4 mp b2 l2 d4 (by omega) S4.out (by omega) (by omega) (by rw [hmp]; exact q5) (by have := LM.out; omega))
                    have HMP := Lib.hid hmp
                    have HL2 := Lib.hid (And.intro hle hri)
                    clear q1 q2 q3 q4 q5 q6 q7 s4 hPR bN hmp fF fF1 hle hri
                    by_cases hlr : le < ri
                    · have gl : (le : Int) < (ri : Int) := by omega
                      have glb : decide (le < ri) = true := decide_eq_true hlr
                      clear hlr
                      go_wp2_with fail
                      go_at_call 27
                      refine IL.out.mono ?_
                      rintro e w5 ⟨d5, rfl, hp5, hs5, hS5⟩
                      have R5 := Lib.hid (Q6.out d5 hp5 hs5)
                      have S5 := Lib.hid (S4.out.step hS5)
                      clear hp5 hs5 hS5
                      go_wp2_with fail
                      go_roundw
                      case rel => exact ⟨mp, b2, l2, _, ap, d5, rfl, rfl, rfl, rfl, rfl, by have := M.out; have := F1.out; have := HMP.out; omega, by have := M.out; have := HMP.out; omega, F1.out.2.2.1, by have := LM.out; omega, by rw [HMP.out]; exact R5.out.1, S5.out, fun R h k => by
                        have := R5.out.2 R (by rw [← HMP.out]; exact h) (by rw [← HMP.out]; exact k)
                        exact C1.out R (permIn_trans _ _ _ a2 b2 PM6.out this.1) this.2⟩
                      case measure => have := M.out; have := HMP.out; simp [intOf]; omega
                    · have gl : decide ((le : Int) < (ri : Int)) = false := decide_eq_false (by omega)
                      have glb : decide (le < ri) = false := decide_eq_false hlr
                      clear hlr
                      go_wp2_with fail
                      go_at_call 27
                      refine IR.out.mono ?_
                      rintro e w5 ⟨d5, rfl, hp5, hs5, hS5⟩
                      have R5 := Lib.hid (Q7.out d5 (by rw [← HMP.out]; exact hp5) (by rw [← HMP.out]; exact hs5))
                      have S5 := Lib.hid (S4.out.step hS5)
                      clear hp5 hs5 hS5
                      go_wp2_with fail
                      go_roundw
                      case rel => exact ⟨a2, mid, l2, _, ap, d5, rfl, rfl, rfl, rfl, rfl, F1.out.1, M.out.1, by have := M.out; have := F1.out; omega, by have := LM.out; omega, R5.out.1, S5.out, fun R h k => by
                        have := R5.out.2 R h k
                        exact C1.out R (permIn_trans _ _ _ a2 b2 PM6.out this.1) this.2⟩
                      case measure => have := M.out; simp [intOf]; omega
                · go_wp2_with fail
                  go_returns
                  exact ⟨d6, rfl, (C1.out _ PM6.out (PH.out.2 (by first | rfl | trivial))).1, (C1.out _ PM6.out (PH.out.2 (by first | rfl | trivial))).2, S6.out⟩
              · by_cases hk1 : k = 1
                · subst hk1
                  go_wp2_with fail
                  go_at_call 34
                  refine (PI.out _ _ S3.out).mono ?_
                  rintro e w6 ⟨rfl, s6⟩
                  have PH := Lib.hid (partialInsertionSort_holds (lt := ltN) swo_ltN d2 a2 b2 (by have := XP.out; omega) (by rw [S3.out.size]; exact b2N.out) B1.out)
                  obtain ⟨PRV, hPI⟩ : ∃ z, partialInsertionSort ltN d2 a2 b2 = z := ⟨_, rfl⟩
                  obtain ⟨d6, rb⟩ := PRV
                  rw [hPI] at s6 PH ⊢
                  simp only at s6 PH ⊢
                  have S6 := Lib.hid (S3.out.step s6)
                  have PM6 := Lib.hid (permIn_trans _ _ _ a2 b2 RI.out PH.out.1)
                  have B6 := Lib.hid (Below.permA permIn_all (by rw [S3.out.size]; exact b2N.out) B1.out PH.out.1)
                  clear s6 hPI
                  cases rb
                  · have SZD := Lib.hid (show b2 ≤ Array.size d6 by rw [S6.out.size]; exact b2N.out)
                    by_cases ha0 : 0 < a2
                    · have ga : (0 : Int) < (a2 : Int) := by omega
                      have gab : decide (0 < a2) = true := decide_eq_true ha0
                      obtain ⟨am, ham⟩ : ∃ z, z = a2 - 1 := ⟨_, rfl⟩
                      have wam : IntKind.i64.wrap ((a2 : Int) - 1) = (am : Int) := by rw [IntKind.wrap_i64]; have := b2N.out; have := XP.out; omega
                      have amN : am < n := by have := b2N.out; have := XP.out; omega
                      have pN : p < n := by have := b2N.out; have := XP.out; omega
                      have am0 : (0 : Int) ≤ (am : Int) := by omega
                      have am1 : (am : Int) < (n : Int) := by omega
                      have p0I : (0 : Int) ≤ (p : Int) := by omega
                      have p1I : (p : Int) < (n : Int) := by omega
                      obtain ⟨x, hx⟩ : ∃ z, d6[am]! = z := ⟨_, rfl⟩
                      obtain ⟨y, hy⟩ : ∃ z, d6[p]! = z := ⟨_, rfl⟩
                      have c0 := S6.out.at amN hx
                      have c1 := S6.out.at pN hy
                      have LL := Lib.hid (less_u32 x y)
                      have X := Lib.hid (And.intro hx (And.intro hy (And.intro ham ha0)))
                      clear amN pN hx hy ham ha0
                      go_wp2_with fail
                      go_quiet (exact Calls.quiet_of_same (LL.out _))
                      have k9 := keeps_drewN w6 nq
                      generalize World.drewN w6 nq = wq at *
                      have SQ := Lib.hid (S6.out.keep k9)
                      clear k9 c0 c1
                      cases hb : ltN x y
                      · go_wp2_with fail
                        go_at_call 36
                        refine (PQ.out _ _ p SQ.out XP.out.1 XP.out.2).mono ?_
                        rintro e w4 ⟨rfl, s4⟩
                        obtain ⟨PRV, hPE⟩ : ∃ z, partitionEqual ltN d6 a2 b2 p = z := ⟨_, rfl⟩
                        obtain ⟨mid, d4⟩ := PRV
                        rw [hPE] at s4 ⊢
                        simp only at s4 ⊢
                        have RE := Lib.hid (round_eq swo_ltN (partitionEqual_holds ltN) X.out.2.2.2 XP.out.1 XP.out.2 SZD.out B6.out (by rw [← X.out.2.2.1, X.out.1, X.out.2.1]; exact hb) hPE)
                        have S4 := Lib.hid (SQ.out.step s4)
                        clear s4 hPE
                        go_wp2_with fail
                        go_roundw
                        case rel => exact ⟨mid, b2, l2, _, _, d4, rfl, rfl, rfl, rfl, rfl, by have := RE.out; have := F1.out; omega, RE.out.2.1, F1.out.2.2.1, by have := LM.out; omega, RE.out.2.2.2.1, S4.out, fun R h k => by
                          have := RE.out.2.2.2.2 R h k
                          exact C1.out R (permIn_trans _ _ _ a2 b2 PM6.out this.1) this.2⟩
                        case measure => have := RE.out; simp [intOf]; omega
                      · go_wp2_with fail
                        go_at_call 37
                        refine (PT.out _ _ p SQ.out XP.out.1 XP.out.2).mono ?_
                        rintro e w4 ⟨rfl, s4⟩
                        obtain ⟨PRV, hPR⟩ : ∃ z, partition ltN d6 a2 b2 p = z := ⟨_, rfl⟩
                        obtain ⟨mid, ap, d4⟩ := PRV
                        rw [hPR] at s4 ⊢
                        simp only at s4 ⊢
                        obtain ⟨q1, q2, q3, q4, q5, q6, q7⟩ := round_part swo_ltN (partition_holds ltN) XP.out.1 XP.out.2 SZD.out B6.out hPR
                        have S4 := Lib.hid (SQ.out.step s4)
                        have M := Lib.hid (And.intro q1 (And.intro q2 (And.intro q4 q5)))
                        have Q6 := Lib.hid q6
                        have Q7 := Lib.hid q7
                        obtain ⟨le, hle⟩ : ∃ z, z = mid - a2 := ⟨_, rfl⟩
                        obtain ⟨ri, hri⟩ : ∃ z, z = b2 - mid := ⟨_, rfl⟩
                        have bN := b2N.out
                        have wle : IntKind.i64.wrap ((mid : Int) - (a2 : Int)) = (le : Int) := by rw [IntKind.wrap_i64]; omega
                        have wri : IntKind.i64.wrap ((b2 : Int) - (mid : Int)) = (ri : Int) := by rw [IntKind.wrap_i64]; omega
                        have mI : (mid : Int) ≤ 1000000 := by omega
                        have m0 : (0 : Int) ≤ (mid : Int) := by omega
                        obtain ⟨mp, hmp⟩ : ∃ z, z = mid + 1 := ⟨_, rfl⟩
                        have wmp : IntKind.i64.wrap ((mid : Int) + 1) = (mp : Int) := by rw [IntKind.wrap_i64]; omega
                        have fF := F.out
                        have fF1 := F1.out
                        have IL := Lib.hid (IH.out w4 a2 mid l2 d4 (by omega) S4.out q1 (by omega) q4 (by have := LM.out; omega))
                        have IR := Lib.hid (IH.out w4 mp b2 l2 d4 (by omega) S4.out (by omega) (by omega) (by rw [hmp]; exact q5) (by have := LM.out; omega))
                        have HMP := Lib.hid hmp
                        have HL2 := Lib.hid (And.intro hle hri)
                        clear q1 q2 q3 q4 q5 q6 q7 s4 hPR bN hmp fF fF1 hle hri
                        by_cases hlr : le < ri
                        · have gl : (le : Int) < (ri : Int) := by omega
                          have glb : decide (le < ri) = true := decide_eq_true hlr
                          clear hlr
                          go_wp2_with fail
                          go_at_call 27
                          refine IL.out.mono ?_
                          rintro e w5 ⟨d5, rfl, hp5, hs5, hS5⟩
                          have R5 := Lib.hid (Q6.out d5 hp5 hs5)
                          have S5 := Lib.hid (S4.out.step hS5)
                          clear hp5 hs5 hS5
                          go_wp2_with fail
                          go_roundw
                          case rel => exact ⟨mp, b2, l2, _, ap, d5, rfl, rfl, rfl, rfl, rfl, by have := M.out; have := F1.out; have := HMP.out; omega, by have := M.out; have := HMP.out; omega, F1.out.2.2.1, by have := LM.out; omega, by rw [HMP.out]; exact R5.out.1, S5.out, fun R h k => by
                            have := R5.out.2 R (by rw [← HMP.out]; exact h) (by rw [← HMP.out]; exact k)
                            exact C1.out R (permIn_trans _ _ _ a2 b2 PM6.out this.1) this.2⟩
                          case measure => have := M.out; have := HMP.out; simp [intOf]; omega
                        · have gl : decide ((le : Int) < (ri : Int)) = false := decide_eq_false (by omega)
                          have glb : decide (le < ri) = false := decide_eq_false hlr
                          clear hlr
                          go_wp2_with fail
                          go_at_call 27
                          refine IR.out.mono ?_
                          rintro e w5 ⟨d5, rfl, hp5, hs5, hS5⟩
                          have R5 := Lib.hid (Q7.out d5 (by rw [← HMP.out]; exact hp5) (by rw [← HMP.out]; exact hs5))
                          have S5 := Lib.hid (S4.out.step hS5)
                          clear hp5 hs5 hS5
                          go_wp2_with fail
                          go_roundw
                          case rel => exact ⟨a2, mid, l2, _, ap, d5, rfl, rfl, rfl, rfl, rfl, F1.out.1, M.out.1, by have := M.out; have := F1.out; omega, by have := LM.out; omega, R5.out.1, S5.out, fun R h k => by
                            have := R5.out.2 R h k
                            exact C1.out R (permIn_trans _ _ _ a2 b2 PM6.out this.1) this.2⟩
                          case measure => have := M.out; simp [intOf]; omega
                    · have ga : decide ((0 : Int) < (a2 : Int)) = false := decide_eq_false (by omega)
                      have gab : decide (0 < a2) = false := decide_eq_false ha0
                      clear ha0
                      go_wp2_with fail
                      go_quiet (fail)
                      have k9 := keeps_drewN w6 nq
                      generalize World.drewN w6 nq = wq at *
                      have SQ := Lib.hid (S6.out.keep k9)
                      clear k9
                      go_wp2_with fail
                      go_at_call 37
                      refine (PT.out _ _ p SQ.out XP.out.1 XP.out.2).mono ?_
                      rintro e w4 ⟨rfl, s4⟩
                      obtain ⟨PRV, hPR⟩ : ∃ z, partition ltN d6 a2 b2 p = z := ⟨_, rfl⟩
                      obtain ⟨mid, ap, d4⟩ := PRV
                      rw [hPR] at s4 ⊢
                      simp only at s4 ⊢
                      obtain ⟨q1, q2, q3, q4, q5, q6, q7⟩ := round_part swo_ltN (partition_holds ltN) XP.out.1 XP.out.2 SZD.out B6.out hPR
                      have S4 := Lib.hid (SQ.out.step s4)
                      have M := Lib.hid (And.intro q1 (And.intro q2 (And.intro q4 q5)))
                      have Q6 := Lib.hid q6
                      have Q7 := Lib.hid q7
                      obtain ⟨le, hle⟩ : ∃ z, z = mid - a2 := ⟨_, rfl⟩
                      obtain ⟨ri, hri⟩ : ∃ z, z = b2 - mid := ⟨_, rfl⟩
                      have bN := b2N.out
                      have wle : IntKind.i64.wrap ((mid : Int) - (a2 : Int)) = (le : Int) := by rw [IntKind.wrap_i64]; omega
                      have wri : IntKind.i64.wrap ((b2 : Int) - (mid : Int)) = (ri : Int) := by rw [IntKind.wrap_i64]; omega
                      have mI : (mid : Int) ≤ 1000000 := by omega
                      have m0 : (0 : Int) ≤ (mid : Int) := by omega
                      obtain ⟨mp, hmp⟩ : ∃ z, z = mid + 1 := ⟨_, rfl⟩
                      have wmp : IntKind.i64.wrap ((mid : Int) + 1) = (mp : Int) := by rw [IntKind.wrap_i64]; omega
                      have fF := F.out
                      have fF1 := F1.out
                      have IL := Lib.hid (IH.out w4 a2 mid l2 d4 (by omega) S4.out q1 (by omega) q4 (by have := LM.out; omega))
                      have IR := Lib.hid (IH.out w4 mp b2 l2 d4 (by omega) S4.out (by omega) (by omega) (by rw [hmp]; exact q5) (by have := LM.out; omega))
                      have HMP := Lib.hid hmp
                      have HL2 := Lib.hid (And.intro hle hri)
                      clear q1 q2 q3 q4 q5 q6 q7 s4 hPR bN hmp fF fF1 hle hri
                      by_cases hlr : le < ri
                      · have gl : (le : Int) < (ri : Int) := by omega
                        have glb : decide (le < ri) = true := decide_eq_true hlr
                        clear hlr
                        go_wp2_with fail
                        go_at_call 27
                        refine IL.out.mono ?_
                        rintro e w5 ⟨d5, rfl, hp5, hs5, hS5⟩
                        have R5 := Lib.hid (Q6.out d5 hp5 hs5)
                        have S5 := Lib.hid (S4.out.step hS5)
                        clear hp5 hs5 hS5
                        go_wp2_with fail
                        go_roundw
                        case rel => exact ⟨mp, b2, l2, _, ap, d5, rfl, rfl, rfl, rfl, rfl, by have := M.out; have := F1.out; have := HMP.out; omega, by have := M.out; have := HMP.out; omega, F1.out.2.2.1, by have := LM.out; omega, by rw [HMP.out]; exact R5.out.1, S5.out, fun R h k => by
                          have := R5.out.2 R (by rw [← HMP.out]; exact h) (by rw [← HMP.out]; exact k)
                          exact C1.out R (permIn_trans _ _ _ a2 b2 PM6.out this.1) this.2⟩
                        case measure => have := M.out; have := HMP.out; simp [intOf]; omega
                      · have gl : decide ((le : Int) < (ri : Int)) = false := decide_eq_false (by omega)
                        have glb : decide (le < ri) = false := decide_eq_false hlr
                        clear hlr
                        go_wp2_with fail
                        go_at_call 27
                        refine IR.out.mono ?_
                        rintro e w5 ⟨d5, rfl, hp5, hs5, hS5⟩
                        have R5 := Lib.hid (Q7.out d5 (by rw [← HMP.out]; exact hp5) (by rw [← HMP.out]; exact hs5))
                        have S5 := Lib.hid (S4.out.step hS5)
                        clear hp5 hs5 hS5
                        go_wp2_with fail
                        go_roundw
                        case rel => exact ⟨a2, mid, l2, _, ap, d5, rfl, rfl, rfl, rfl, rfl, F1.out.1, M.out.1, by have := M.out; have := F1.out; omega, by have := LM.out; omega, R5.out.1, S5.out, fun R h k => by
                          have := R5.out.2 R h k
                          exact C1.out R (permIn_trans _ _ _ a2 b2 PM6.out this.1) this.2⟩
                        case measure => have := M.out; simp [intOf]; omega
                  · go_wp2_with fail
                    go_returns
                    exact ⟨d6, rfl, (C1.out _ PM6.out (PH.out.2 (by first | rfl | trivial))).1, (C1.out _ PM6.out (PH.out.2 (by first | rfl | trivial))).2, S6.out⟩
                · obtain rfl : k = 0 := by omega
                  have SZD := Lib.hid (show b2 ≤ Array.size d2 by rw [S3.out.size]; exact b2N.out)
                  by_cases ha0 : 0 < a2
                  · have ga : (0 : Int) < (a2 : Int) := by omega
                    have gab : decide (0 < a2) = true := decide_eq_true ha0
                    obtain ⟨am, ham⟩ : ∃ z, z = a2 - 1 := ⟨_, rfl⟩
                    have wam : IntKind.i64.wrap ((a2 : Int) - 1) = (am : Int) := by rw [IntKind.wrap_i64]; have := b2N.out; have := XP.out; omega
                    have amN : am < n := by have := b2N.out; have := XP.out; omega
                    have pN : p < n := by have := b2N.out; have := XP.out; omega
                    have am0 : (0 : Int) ≤ (am : Int) := by omega
                    have am1 : (am : Int) < (n : Int) := by omega
                    have p0I : (0 : Int) ≤ (p : Int) := by omega
                    have p1I : (p : Int) < (n : Int) := by omega
                    obtain ⟨x, hx⟩ : ∃ z, d2[am]! = z := ⟨_, rfl⟩
                    obtain ⟨y, hy⟩ : ∃ z, d2[p]! = z := ⟨_, rfl⟩
                    have c0 := S3.out.at amN hx
                    have c1 := S3.out.at pN hy
                    have LL := Lib.hid (less_u32 x y)
                    have X := Lib.hid (And.intro hx (And.intro hy (And.intro ham ha0)))
                    clear amN pN hx hy ham ha0
                    go_wp2_with fail
                    go_quiet (exact Calls.quiet_of_same (LL.out _))
                    have k9 := keeps_drewN w3 nq
                    generalize World.drewN w3 nq = wq at *
                    have SQ := Lib.hid (S3.out.keep k9)
                    clear k9 c0 c1
                    cases hb : ltN x y
                    · go_wp2_with fail
                      go_at_call 36
                      refine (PQ.out _ _ p SQ.out XP.out.1 XP.out.2).mono ?_
                      rintro e w4 ⟨rfl, s4⟩
                      obtain ⟨PRV, hPE⟩ : ∃ z, partitionEqual ltN d2 a2 b2 p = z := ⟨_, rfl⟩
                      obtain ⟨mid, d4⟩ := PRV
                      rw [hPE] at s4 ⊢
                      simp only at s4 ⊢
                      have RE := Lib.hid (round_eq swo_ltN (partitionEqual_holds ltN) X.out.2.2.2 XP.out.1 XP.out.2 SZD.out B1.out (by rw [← X.out.2.2.1, X.out.1, X.out.2.1]; exact hb) hPE)
                      have S4 := Lib.hid (SQ.out.step s4)
                      clear s4 hPE
                      go_wp2_with fail
                      go_roundw
                      case rel => exact ⟨mid, b2, l2, _, _, d4, rfl, rfl, rfl, rfl, rfl, by have := RE.out; have := F1.out; omega, RE.out.2.1, F1.out.2.2.1, by have := LM.out; omega, RE.out.2.2.2.1, S4.out, fun R h k => by
                        have := RE.out.2.2.2.2 R h k
                        exact C1.out R (permIn_trans _ _ _ a2 b2 RI.out this.1) this.2⟩
                      case measure => have := RE.out; simp [intOf]; omega
                    · go_wp2_with fail
                      go_at_call 37
                      refine (PT.out _ _ p SQ.out XP.out.1 XP.out.2).mono ?_
                      rintro e w4 ⟨rfl, s4⟩
                      obtain ⟨PRV, hPR⟩ : ∃ z, partition ltN d2 a2 b2 p = z := ⟨_, rfl⟩
                      obtain ⟨mid, ap, d4⟩ := PRV
                      rw [hPR] at s4 ⊢
                      simp only at s4 ⊢
                      obtain ⟨q1, q2, q3, q4, q5, q6, q7⟩ := round_part swo_ltN (partition_holds ltN) XP.out.1 XP.out.2 SZD.out B1.out hPR
                      have S4 := Lib.hid (SQ.out.step s4)
                      have M := Lib.hid (And.intro q1 (And.intro q2 (And.intro q4 q5)))
                      have Q6 := Lib.hid q6
                      have Q7 := Lib.hid q7
                      obtain ⟨le, hle⟩ : ∃ z, z = mid - a2 := ⟨_, rfl⟩
                      obtain ⟨ri, hri⟩ : ∃ z, z = b2 - mid := ⟨_, rfl⟩
                      have bN := b2N.out
                      have wle : IntKind.i64.wrap ((mid : Int) - (a2 : Int)) = (le : Int) := by rw [IntKind.wrap_i64]; omega
                      have wri : IntKind.i64.wrap ((b2 : Int) - (mid : Int)) = (ri : Int) := by rw [IntKind.wrap_i64]; omega
                      have mI : (mid : Int) ≤ 1000000 := by omega
                      have m0 : (0 : Int) ≤ (mid : Int) := by omega
                      obtain ⟨mp, hmp⟩ : ∃ z, z = mid + 1 := ⟨_, rfl⟩
                      have wmp : IntKind.i64.wrap ((mid : Int) + 1) = (mp : Int) := by rw [IntKind.wrap_i64]; omega
                      have fF := F.out
                      have fF1 := F1.out
                      have IL := Lib.hid (IH.out w4 a2 mid l2 d4 (by omega) S4.out q1 (by omega) q4 (by have := LM.out; omega))
                      have IR := Lib.hid (IH.out w4 mp b2 l2 d4 (by omega) S4.out (by omega) (by omega) (by rw [hmp]; exact q5) (by have := LM.out; omega))
                      have HMP := Lib.hid hmp
                      have HL2 := Lib.hid (And.intro hle hri)
                      clear q1 q2 q3 q4 q5 q6 q7 s4 hPR bN hmp fF fF1 hle hri
                      by_cases hlr : le < ri
                      · have gl : (le : Int) < (ri : Int) := by omega
                        have glb : decide (le < ri) = true := decide_eq_true hlr
                        clear hlr
                        go_wp2_with fail
                        go_at_call 27
                        refine IL.out.mono ?_
                        rintro e w5 ⟨d5, rfl, hp5, hs5, hS5⟩
                        have R5 := Lib.hid (Q6.out d5 hp5 hs5)
                        have S5 := Lib.hid (S4.out.step hS5)
                        clear hp5 hs5 hS5
                        go_wp2_with fail
                        go_roundw
                        case rel => exact ⟨mp, b2, l2, _, ap, d5, rfl, rfl, rfl, rfl, rfl, by have := M.out; have := F1.out; have := HMP.out; omega, by have := M.out; have := HMP.out; omega, F1.out.2.2.1, by have := LM.out; omega, by rw [HMP.out]; exact R5.out.1, S5.out, fun R h k => by
                          have := R5.out.2 R (by rw [← HMP.out]; exact h) (by rw [← HMP.out]; exact k)
                          exact C1.out R (permIn_trans _ _ _ a2 b2 RI.out this.1) this.2⟩
                        case measure => have := M.out; have := HMP.out; simp [intOf]; omega
                      · have gl : decide ((le : Int) < (ri : Int)) = false := decide_eq_false (by omega)
                        have glb : decide (le < ri) = false := decide_eq_false hlr
                        clear hlr
                        go_wp2_with fail
                        go_at_call 27
                        refine IR.out.mono ?_
                        rintro e w5 ⟨d5, rfl, hp5, hs5, hS5⟩
                        have R5 := Lib.hid (Q7.out d5 (by rw [← HMP.out]; exact hp5) (by rw [← HMP.out]; exact hs5))
                        have S5 := Lib.hid (S4.out.step hS5)
                        clear hp5 hs5 hS5
                        go_wp2_with fail
                        go_roundw
                        case rel => exact ⟨a2, mid, l2, _, ap, d5, rfl, rfl, rfl, rfl, rfl, F1.out.1, M.out.1, by have := M.out; have := F1.out; omega, by have := LM.out; omega, R5.out.1, S5.out, fun R h k => by
                          have := R5.out.2 R h k
                          exact C1.out R (permIn_trans _ _ _ a2 b2 RI.out this.1) this.2⟩
                        case measure => have := M.out; simp [intOf]; omega
                  · have ga : decide ((0 : Int) < (a2 : Int)) = false := decide_eq_false (by omega)
                    have gab : decide (0 < a2) = false := decide_eq_false ha0
                    clear ha0
                    go_wp2_with fail
                    go_quiet (fail)
                    have k9 := keeps_drewN w3 nq
                    generalize World.drewN w3 nq = wq at *
                    have SQ := Lib.hid (S3.out.keep k9)
                    clear k9
                    go_wp2_with fail
                    go_at_call 37
                    refine (PT.out _ _ p SQ.out XP.out.1 XP.out.2).mono ?_
                    rintro e w4 ⟨rfl, s4⟩
                    obtain ⟨PRV, hPR⟩ : ∃ z, partition ltN d2 a2 b2 p = z := ⟨_, rfl⟩
                    obtain ⟨mid, ap, d4⟩ := PRV
                    rw [hPR] at s4 ⊢
                    simp only at s4 ⊢
                    obtain ⟨q1, q2, q3, q4, q5, q6, q7⟩ := round_part swo_ltN (partition_holds ltN) XP.out.1 XP.out.2 SZD.out B1.out hPR
                    have S4 := Lib.hid (SQ.out.step s4)
                    have M := Lib.hid (And.intro q1 (And.intro q2 (And.intro q4 q5)))
                    have Q6 := Lib.hid q6
                    have Q7 := Lib.hid q7
                    obtain ⟨le, hle⟩ : ∃ z, z = mid - a2 := ⟨_, rfl⟩
                    obtain ⟨ri, hri⟩ : ∃ z, z = b2 - mid := ⟨_, rfl⟩
                    have bN := b2N.out
                    have wle : IntKind.i64.wrap ((mid : Int) - (a2 : Int)) = (le : Int) := by rw [IntKind.wrap_i64]; omega
                    have wri : IntKind.i64.wrap ((b2 : Int) - (mid : Int)) = (ri : Int) := by rw [IntKind.wrap_i64]; omega
                    have mI : (mid : Int) ≤ 1000000 := by omega
                    have m0 : (0 : Int) ≤ (mid : Int) := by omega
                    obtain ⟨mp, hmp⟩ : ∃ z, z = mid + 1 := ⟨_, rfl⟩
                    have wmp : IntKind.i64.wrap ((mid : Int) + 1) = (mp : Int) := by rw [IntKind.wrap_i64]; omega
                    have fF := F.out
                    have fF1 := F1.out
                    have IL := Lib.hid (IH.out w4 a2 mid l2 d4 (by omega) S4.out q1 (by omega) q4 (by have := LM.out; omega))
                    have IR := Lib.hid (IH.out w4 mp b2 l2 d4 (by omega) S4.out (by omega) (by omega) (by rw [hmp]; exact q5) (by have := LM.out; omega))
                    have HMP := Lib.hid hmp
                    have HL2 := Lib.hid (And.intro hle hri)
                    clear q1 q2 q3 q4 q5 q6 q7 s4 hPR bN hmp fF fF1 hle hri
                    by_cases hlr : le < ri
                    · have gl : (le : Int) < (ri : Int) := by omega
                      have glb : decide (le < ri) = true := decide_eq_true hlr
                      clear hlr
                      go_wp2_with fail
                      go_at_call 27
                      refine IL.out.mono ?_
                      rintro e w5 ⟨d5, rfl, hp5, hs5, hS5⟩
                      have R5 := Lib.hid (Q6.out d5 hp5 hs5)
                      have S5 := Lib.hid (S4.out.step hS5)
                      clear hp5 hs5 hS5
                      go_wp2_with fail
                      go_roundw
                      case rel => exact ⟨mp, b2, l2, _, ap, d5, rfl, rfl, rfl, rfl, rfl, by have := M.out; have := F1.out; have := HMP.out; omega, by have := M.out; have := HMP.out; omega, F1.out.2.2.1, by have := LM.out; omega, by rw [HMP.out]; exact R5.out.1, S5.out, fun R h k => by
                        have := R5.out.2 R (by rw [← HMP.out]; exact h) (by rw [← HMP.out]; exact k)
                        exact C1.out R (permIn_trans _ _ _ a2 b2 RI.out this.1) this.2⟩
                      case measure => have := M.out; have := HMP.out; simp [intOf]; omega
                    · have gl : decide ((le : Int) < (ri : Int)) = false := decide_eq_false (by omega)
                      have glb : decide (le < ri) = false := decide_eq_false hlr
                      clear hlr
                      go_wp2_with fail
                      go_at_call 27
                      refine IR.out.mono ?_
                      rintro e w5 ⟨d5, rfl, hp5, hs5, hS5⟩
                      have R5 := Lib.hid (Q7.out d5 (by rw [← HMP.out]; exact hp5) (by rw [← HMP.out]; exact hs5))
                      have S5 := Lib.hid (S4.out.step hS5)
                      clear hp5 hs5 hS5
                      go_wp2_with fail
                      go_roundw
                      case rel => exact ⟨a2, mid, l2, _, ap, d5, rfl, rfl, rfl, rfl, rfl, F1.out.1, M.out.1, by have := M.out; have := F1.out; omega, by have := LM.out; omega, R5.out.1, S5.out, fun R h k => by
                        have := R5.out.2 R h k
                        exact C1.out R (permIn_trans _ _ _ a2 b2 RI.out this.1) this.2⟩
                      case measure => have := M.out; simp [intOf]; omega
end Go.Proofs.Ytdfaogagadoooaa
