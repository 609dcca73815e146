/- slices.Sort at []uint32: siftDownOrdered, heapSortOrdered. -/
import Derived.Test.YtdfaogagadoooaaSoIns
namespace Go.Proofs.Ytdfaogagadoooaa
open Go.RowKit Go.Sort
set_option linter.unusedSimpArgs false
set_option linter.unusedVariables false
set_option maxRecDepth 100000

theorem sift_out {hi first r : Nat} {d : Array Nat} (h : hi ≤ 2 * r + 1) : siftDown ltN hi first r d = d := by rw [siftDown, dif_pos (by omega)]
theorem sift_in {hi first r c : Nat} {d : Array Nat} (h : 2 * r + 1 < hi) (hc : c = if 2 * r + 2 < hi && ltN d[first + (2 * r + 1)]! d[first + (2 * r + 2)]! then 2 * r + 2 else 2 * r + 1) :
    siftDown ltN hi first r d = if !ltN d[first + r]! d[first + c]! then d else siftDown ltN hi first c (Sort.swp d (first + r) (first + c)) := by
  rw [siftDown, dif_neg (by omega)]
  rw [show 2 * r + 1 + 1 = 2 * r + 2 from rfl, show first + (2 * r + 1) + 1 = first + (2 * r + 2) from rfl]
  split at hc
  · rename_i h2
    subst hc
    rw [if_pos h2]
    have h3 : 2 * r + 2 < hi := by simp only [Bool.and_eq_true, decide_eq_true_eq] at h2; exact h2.1
    rw [dif_pos h3]
  · rename_i h2
    subst hc
    rw [if_neg h2]

set_option maxHeartbeats 8000000 in
theorem sift_u32 {w : World} {base g n cap lo hi first : Nat} {d : Array Nat} (h : Own w base 30 1 (.slice (some ⟨g, 0, none⟩) n cap) n (celU d.toList)) (hb : first + hi ≤ n) (hn : n ≤ 1000000) (hlo : lo ≤ n) :
    Calls Try.prog 40 #[.slice (some ⟨g, 0, none⟩) n cap, .int .i64 (lo : Int), .int .i64 (hi : Int), .int .i64 (first : Int)] w fun e w' => e = .returned (.tuple #[]) ∧ SoR w w' base g n cap (siftDown ltN hi first lo d) := by
  have H := Lib.hid (SoR.start h)
  obtain ⟨R, hR⟩ : ∃ R, siftDown ltN hi first lo d = R := ⟨_, rfl⟩
  rw [hR]
  have HR := Lib.hid hR
  have bI : (first : Int) + (hi : Int) ≤ (n : Int) := by omega
  have nI : (n : Int) ≤ 1000000 := by omega
  have fI : (0 : Int) ≤ (first : Int) := by omega
  have HL := Lib.hid hlo
  clear h hR hb hn hlo
  go_enter Try.func40, Try.ntmps40
  go_wp2_with fail
  go_loopw [8] (fun u wr => ∃ (r : Nat) (d2 : Array Nat), u = .int .i64 r ∧ r ≤ n ∧ SoR w wr base g n cap d2 ∧ siftDown ltN hi first r d2 = R) (fun u _ => n - (intOf u).toNat)
  case atStart => exact ⟨lo, d, rfl, HL.out, H.out, HR.out⟩
  case round =>
    obtain ⟨r, d2, rfl, hr, hS, hE⟩ := hrel
    have S1 := Lib.hid hS
    have E1 := Lib.hid hE
    clear hS hE
    have rI : (r : Int) ≤ (n : Int) := by omega
    have r0 : (0 : Int) ≤ (r : Int) := by omega
    obtain ⟨t, ht⟩ : ∃ t, t = 2 * r := ⟨_, rfl⟩
    obtain ⟨c, hc⟩ : ∃ c, c = t + 1 := ⟨_, rfl⟩
    have w1 : IntKind.i64.wrap (2 * (r : Int)) = (t : Int) := by rw [IntKind.wrap_i64]; omega
    have w2 : IntKind.i64.wrap ((t : Int) + 1) = (c : Int) := by rw [IntKind.wrap_i64]; omega
    by_cases hch : c < hi
    · obtain ⟨c2, hc2⟩ : ∃ c2, c2 = c + 1 := ⟨_, rfl⟩
      obtain ⟨p0, hp0⟩ : ∃ p, p = first + r := ⟨_, rfl⟩
      obtain ⟨p1, hp1⟩ : ∃ p, p = first + c := ⟨_, rfl⟩
      obtain ⟨p2, hp2⟩ : ∃ p, p = first + c2 := ⟨_, rfl⟩
      have w3 : IntKind.i64.wrap ((c : Int) + 1) = (c2 : Int) := by rw [IntKind.wrap_i64]; omega
      have w4 : IntKind.i64.wrap ((first : Int) + (c : Int)) = (p1 : Int) := by rw [IntKind.wrap_i64]; omega
      have w5 : IntKind.i64.wrap ((p1 : Int) + 1) = (p2 : Int) := by rw [IntKind.wrap_i64]; omega
      have w6 : IntKind.i64.wrap ((first : Int) + (c2 : Int)) = (p2 : Int) := by rw [IntKind.wrap_i64]; omega
      have w7 : IntKind.i64.wrap ((first : Int) + (r : Int)) = (p0 : Int) := by rw [IntKind.wrap_i64]; omega
      have g1 : (c : Int) < (hi : Int) := by omega
      have g1b : decide (hi ≤ c) = false := decide_eq_false (by omega)
      have g1c : decide ((hi : Int) ≤ (c : Int)) = false := decide_eq_false (by omega)
      have b0p0 : (0 : Int) ≤ (p0 : Int) := by omega
      have b1p0 : (p0 : Int) < (n : Int) := by omega
      have b0p1 : (0 : Int) ≤ (p1 : Int) := by omega
      have b1p1 : (p1 : Int) < (n : Int) := by omega
      obtain ⟨x0, hx0⟩ : ∃ z, d2[p0]! = z := ⟨_, rfl⟩
      have X0 := Lib.hid hx0
      clear hx0
      obtain ⟨x1, hx1⟩ : ∃ z, d2[p1]! = z := ⟨_, rfl⟩
      have X1 := Lib.hid hx1
      clear hx1
      have FACT := Lib.hid (And.intro ht (And.intro hc (And.intro hc2 (And.intro hp0 (And.intro hp1 (And.intro hp2 (And.intro hch hr)))))))
      have SI := Lib.hid (fun (k : Nat) (hk : k = if 2 * r + 2 < hi && ltN d2[first + (2 * r + 1)]! d2[first + (2 * r + 2)]! then 2 * r + 2 else 2 * r + 1) => sift_in (first := first) (d := d2) (show 2 * r + 1 < hi by omega) hk)
      have LS := Lib.hid (fun (x y : Nat) (W : World) => less_u32 x y W)
      by_cases hc2h : c2 < hi
      · have g2 : (c2 : Int) < (hi : Int) := by omega
        have g2b : decide (c2 < hi) = true := decide_eq_true hc2h
        have b0p2 : (0 : Int) ≤ (p2 : Int) := by omega
        have b1p2 : (p2 : Int) < (n : Int) := by omega
        obtain ⟨x2, hx2⟩ : ∃ z, d2[p2]! = z := ⟨_, rfl⟩
        have X2 := Lib.hid hx2
        clear hx2
        have c1 := S1.out.at (i := p1) (by omega) X1.out
        have c2' := S1.out.at (i := p2) (by omega) X2.out
        have LM := Lib.hid (LS.out x1 x2)
        clear ht hc hc2 hp0 hp1 hp2 hch hr hc2h
        go_wp2_with fail
        go_quiet (exact Calls.quiet_of_same (LM.out _))
        have k9 := keeps_drewN wr nq
        generalize wr.drewN nq = wq at *
        have S2 := Lib.hid (S1.out.keep k9)
        clear k9 c1 c2'
        cases ha : ltN x1 x2
        · have EQ := Lib.hid (SI.out c (by
            rw [show first + (2 * r + 1) = p1 by have := FACT.out; omega, show first + (2 * r + 2) = p2 by have := FACT.out; omega, X1.out, X2.out, ha, Bool.and_false]
            have := FACT.out
            simp
            omega))
          have c9p0 := S2.out.at (i := p0) (by have := FACT.out; omega) X0.out
          have c9p1 := S2.out.at (i := p1) (by have := FACT.out; omega) X1.out
          have LL := Lib.hid (LS.out x0 x1)
          go_wp2_with fail
          go_quiet (exact Calls.quiet_of_same (LL.out _))
          have k8 := keeps_drewN wq nq
          generalize wq.drewN nq = wz at *
          have S3 := Lib.hid (S2.out.keep k8)
          clear k8 c9p0 c9p1
          cases hb : ltN x0 x1
          · have E2 := Lib.hid (show d2 = R by
              have h1 := EQ.out
              rw [show first + r = p0 by have := FACT.out; omega, show first + c = p1 by have := FACT.out; omega, X0.out, X1.out, hb] at h1
              rw [← E1.out, h1]
              rfl)
            go_wp2_with fail
            go_returns
            exact ⟨rfl, E2.out ▸ S3.out⟩
          · have E2 := Lib.hid (show siftDown ltN hi first c (Sort.swp d2 p0 p1) = R by
              have h1 := EQ.out
              rw [show first + r = p0 by have := FACT.out; omega, show first + c = p1 by have := FACT.out; omega, X0.out, X1.out, hb] at h1
              rw [← E1.out, h1]
              rfl)
            have SW := Lib.hid (S3.out.swpx (i := p0) (j := p1) (by omega) (by omega) X0.out X1.out)
            have c8p0 := S3.out.at (i := p0) (by omega) X0.out
            have c8p1 := S3.out.at (i := p1) (by omega) X1.out
            have f8p0 := S3.out.fz (i := p0) (by omega)
            have f8p1 := S3.out.fz (i := p1) (by omega)
            have n1 : p0 ≠ p1 := by have := FACT.out; omega
            have n2 : p1 ≠ p0 := by omega
            go_wp2_with fail
            go_region
            all_goals
              go_wp2_with fail
              go_roundw
              case rel => exact ⟨c, Sort.swp d2 p0 p1, rfl, by have := FACT.out; omega, SW.out.keep (keeps_drew _), E2.out⟩
              case measure => have := FACT.out; simp [intOf]; omega
        · have EQ := Lib.hid (SI.out c2 (by
            rw [show first + (2 * r + 1) = p1 by have := FACT.out; omega, show first + (2 * r + 2) = p2 by have := FACT.out; omega, X1.out, X2.out, ha, Bool.and_true, if_pos (by have := FACT.out; simp; omega)]
            have := FACT.out
            omega))
          have c9p0 := S2.out.at (i := p0) (by have := FACT.out; omega) X0.out
          have c9p2 := S2.out.at (i := p2) (by have := FACT.out; omega) X2.out
          have LL := Lib.hid (LS.out x0 x2)
          go_wp2_with fail
          go_quiet (exact Calls.quiet_of_same (LL.out _))
          have k8 := keeps_drewN wq nq
          generalize wq.drewN nq = wz at *
          have S3 := Lib.hid (S2.out.keep k8)
          clear k8 c9p0 c9p2
          cases hb : ltN x0 x2
          · have E2 := Lib.hid (show d2 = R by
              have h1 := EQ.out
              rw [show first + r = p0 by have := FACT.out; omega, show first + c2 = p2 by have := FACT.out; omega, X0.out, X2.out, hb] at h1
              rw [← E1.out, h1]
              rfl)
            go_wp2_with fail
            go_returns
            exact ⟨rfl, E2.out ▸ S3.out⟩
          · have E2 := Lib.hid (show siftDown ltN hi first c2 (Sort.swp d2 p0 p2) = R by
              have h1 := EQ.out
              rw [show first + r = p0 by have := FACT.out; omega, show first + c2 = p2 by have := FACT.out; omega, X0.out, X2.out, hb] at h1
              rw [← E1.out, h1]
              rfl)
            have SW := Lib.hid (S3.out.swpx (i := p0) (j := p2) (by omega) (by omega) X0.out X2.out)
            have c8p0 := S3.out.at (i := p0) (by omega) X0.out
            have c8p2 := S3.out.at (i := p2) (by omega) X2.out
            have f8p0 := S3.out.fz (i := p0) (by omega)
            have f8p2 := S3.out.fz (i := p2) (by omega)
            have n1 : p0 ≠ p2 := by have := FACT.out; omega
            have n2 : p2 ≠ p0 := by omega
            go_wp2_with fail
            go_region
            all_goals
              go_wp2_with fail
              go_roundw
              case rel => exact ⟨c2, Sort.swp d2 p0 p2, rfl, by have := FACT.out; omega, SW.out.keep (keeps_drew _), E2.out⟩
              case measure => have := FACT.out; simp [intOf]; omega
      · have g2 : decide ((c2 : Int) < (hi : Int)) = false := decide_eq_false (by omega)
        have g2b : decide (c2 < hi) = false := decide_eq_false hc2h
        have EQ := Lib.hid (SI.out c (by
          rw [show decide (2 * r + 2 < hi) = false from decide_eq_false (by omega), Bool.false_and]
          simp
          omega))
        clear ht hc hc2 hp0 hp1 hp2 hch hr hc2h
        go_wp2_with fail
        go_quiet (fail)
        have k9 := keeps_drewN wr nq
        generalize wr.drewN nq = wq at *
        have S2 := Lib.hid (S1.out.keep k9)
        clear k9
        have c9p0 := S2.out.at (i := p0) (by have := FACT.out; omega) X0.out
        have c9p1 := S2.out.at (i := p1) (by have := FACT.out; omega) X1.out
        have LL := Lib.hid (LS.out x0 x1)
        go_wp2_with fail
        go_quiet (exact Calls.quiet_of_same (LL.out _))
        have k8 := keeps_drewN wq nq
        generalize wq.drewN nq = wz at *
        have S3 := Lib.hid (S2.out.keep k8)
        clear k8 c9p0 c9p1
        cases hb : ltN x0 x1
        · have E2 := Lib.hid (show d2 = R by
            have h1 := EQ.out
            rw [show first + r = p0 by have := FACT.out; omega, show first + c = p1 by have := FACT.out; omega, X0.out, X1.out, hb] at h1
            rw [← E1.out, h1]
            rfl)
          go_wp2_with fail
          go_returns
          exact ⟨rfl, E2.out ▸ S3.out⟩
        · have E2 := Lib.hid (show siftDown ltN hi first c (Sort.swp d2 p0 p1) = R by
            have h1 := EQ.out
            rw [show first + r = p0 by have := FACT.out; omega, show first + c = p1 by have := FACT.out; omega, X0.out, X1.out, hb] at h1
            rw [← E1.out, h1]
            rfl)
          have SW := Lib.hid (S3.out.swpx (i := p0) (j := p1) (by omega) (by omega) X0.out X1.out)
          have c8p0 := S3.out.at (i := p0) (by omega) X0.out
          have c8p1 := S3.out.at (i := p1) (by omega) X1.out
          have f8p0 := S3.out.fz (i := p0) (by omega)
          have f8p1 := S3.out.fz (i := p1) (by omega)
          have n1 : p0 ≠ p1 := by have := FACT.out; omega
          have n2 : p1 ≠ p0 := by omega
          go_wp2_with fail
          go_region
          all_goals
            go_wp2_with fail
            go_roundw
            case rel => exact ⟨c, Sort.swp d2 p0 p1, rfl, by have := FACT.out; omega, SW.out.keep (keeps_drew _), E2.out⟩
            case measure => have := FACT.out; simp [intOf]; omega
    · have g1 : (hi : Int) ≤ (c : Int) := by omega
      have g1b : decide (hi ≤ c) = true := decide_eq_true (by omega)
      have E2 := Lib.hid (show d2 = R by rw [← E1.out, sift_out (by omega)])
      clear ht hc hch hr
      go_wp2_with fail
      go_returns
      exact ⟨rfl, E2.out ▸ S1.out⟩

/-- where a loop that counts down stands, k rounds being left -/
def IdxU (u : Value) (k : Nat) : Prop := (k = 0 ∧ u = .int .i64 (-1)) ∨ ∃ j : Nat, k = j + 1 ∧ u = .int .i64 (j : Int)
theorem IdxU.of (k : Nat) : IdxU (.int .i64 ((k : Int) - 1)) k := by
  cases k with
  | zero => exact .inl ⟨rfl, rfl⟩
  | succ j => exact .inr ⟨j, rfl, by congr 1; omega⟩
theorem build_step (hi first k : Nat) (d : Array Nat) : heapBuild ltN hi first (k + 1) d = heapBuild ltN hi first k (siftDown ltN hi first k d) := rfl
theorem pop_step (first k : Nat) (d : Array Nat) : heapPop ltN first (k + 1) d = heapPop ltN first k (siftDown ltN k first 0 (Sort.swp d first (first + k))) := rfl
set_option maxHeartbeats 8000000 in
theorem heap_u32 {w : World} {base g n cap a b : Nat} {d : Array Nat} (h : Own w base 30 1 (.slice (some ⟨g, 0, none⟩) n cap) n (celU d.toList)) (hb : b ≤ n) (hn : n ≤ 1000000) (hab : a < b) :
    Calls Try.prog 30 #[.slice (some ⟨g, 0, none⟩) n cap, .int .i64 (a : Int), .int .i64 (b : Int)] w fun e w' => e = .returned (.tuple #[]) ∧ SoR w w' base g n cap (heapSort ltN d a b) := by
  have H := Lib.hid (SoR.start h)
  obtain ⟨R, hR⟩ : ∃ R, heapSort ltN d a b = R := ⟨_, rfl⟩
  rw [hR]
  obtain ⟨hi, hhi⟩ : ∃ z, z = b - a := ⟨_, rfl⟩
  obtain ⟨hm, hhm⟩ : ∃ z, z = hi - 1 := ⟨_, rfl⟩
  obtain ⟨m, hm2⟩ : ∃ z, z = hm / 2 := ⟨_, rfl⟩
  have HR := Lib.hid (show heapPop ltN a hi (heapBuild ltN hi a (m + 1) d) = R by rw [hm2, hhm, hhi]; exact hR)
  have w1 : IntKind.i64.wrap ((b : Int) - (a : Int)) = (hi : Int) := by rw [IntKind.wrap_i64]; omega
  have w2 : IntKind.i64.wrap ((hi : Int) - 1) = (hm : Int) := by rw [IntKind.wrap_i64]; omega
  have w3 : Int.tdiv (hm : Int) 2 = (m : Int) := by rw [hm2]; rfl
  have bI : (b : Int) ≤ (n : Int) := by omega
  have nI : (n : Int) ≤ 1000000 := by omega
  have aI : (a : Int) < (b : Int) := by omega
  have mI : (m : Int) ≤ (n : Int) := by omega
  have hmI : (hm : Int) ≤ (n : Int) := by omega
  have F0 := Lib.hid (And.intro hhi (And.intro hhm (And.intro hm2 (And.intro hb (And.intro hn hab)))))
  have SI := Lib.hid (fun (W : World) (D : Array Nat) (lo h2 : Nat) (s : SoR w W base g n cap D) (h3 : a + h2 ≤ n) (h4 : lo ≤ n) => sift_u32 (lo := lo) (hi := h2) (first := a) s.own h3 hn h4)
  clear h hR hb hn hab hhi hhm hm2
  go_enter Try.func30, Try.ntmps30
  go_wp2_with fail
  go_loopw [9] (fun u wr => ∃ (k : Nat) (d2 : Array Nat), IdxU u k ∧ k ≤ m + 1 ∧ SoR w wr base g n cap d2 ∧ heapPop ltN a hi (heapBuild ltN hi a k d2) = R) (fun u _ => (intOf u + 1).toNat)
  case atStart => exact ⟨m + 1, d, .inr ⟨m, rfl, by go_num⟩, Nat.le_refl _, H.out, HR.out⟩
  case round =>
    obtain ⟨k, d2, hu, hk, hS, hE⟩ := hrel
    have S1 := Lib.hid hS
    have E1 := Lib.hid hE
    clear hS hE
    rcases hu with ⟨rfl, rfl⟩ | ⟨k, rfl, rfl⟩
    rotate_left
    · have kI : (k : Int) ≤ (n : Int) := by omega
      have k0 : (0 : Int) ≤ (k : Int) := by omega
      have C := Lib.hid (SI.out wr d2 k hi S1.out (by have := F0.out; omega) (by omega))
      have HK := Lib.hid hk
      clear hk
      go_wp2_with (go_at_call 40; refine C.out.mono ?_; rintro e w2 ⟨rfl, s2⟩)
      go_roundw
      case rel => exact ⟨k, siftDown ltN hi a k d2, IdxU.of k, by have := HK.out; omega, S1.out.step s2, by rw [← E1.out, build_step]⟩
      case measure => simp [intOf]
    · have E2 := Lib.hid (show heapPop ltN a hi d2 = R from E1.out)
      obtain ⟨wo, hwo⟩ : ∃ wo, wo = wr := ⟨_, rfl⟩
      subst hwo
      clear hk
      go_wp2_with fail
      go_loopw [10] (fun u wr => ∃ (k : Nat) (d2 : Array Nat), IdxU u k ∧ k ≤ hi ∧ SoR w wr base g n cap d2 ∧ heapPop ltN a k d2 = R) (fun u _ => (intOf u + 1).toNat)
      case atStart => exact ⟨hi, d2, .inr ⟨hm, by have := F0.out; omega, rfl⟩, Nat.le_refl _, S1.out, E2.out⟩
      case round =>
        obtain ⟨k, d3, hu, hk, hS, hE⟩ := hrel
        have S2 := Lib.hid hS
        have E3 := Lib.hid hE
        clear hS hE
        rcases hu with ⟨rfl, rfl⟩ | ⟨k, rfl, rfl⟩
        · have E4 := Lib.hid (show d3 = R from E3.out)
          clear hk
          go_wp2_with fail
          go_returns
          exact ⟨rfl, E4.out ▸ S2.out⟩
        · have hF := F0.out
          obtain ⟨q, hq⟩ : ∃ q, q = a + k := ⟨_, rfl⟩
          have kI : (k : Int) ≤ (n : Int) := by omega
          have k0 : (0 : Int) ≤ (k : Int) := by omega
          have w4 : IntKind.i64.wrap ((a : Int) + (k : Int)) = (q : Int) := by rw [IntKind.wrap_i64]; omega
          have aN : a < n := by omega
          have qN : q < n := by omega
          have a0 : (0 : Int) ≤ (a : Int) := by omega
          have a1 : (a : Int) < (n : Int) := by omega
          have q0 : (0 : Int) ≤ (q : Int) := by omega
          have q1 : (q : Int) < (n : Int) := by omega
          obtain ⟨x, hx⟩ : ∃ z, d3[a]! = z := ⟨_, rfl⟩
          obtain ⟨y, hy⟩ : ∃ z, d3[q]! = z := ⟨_, rfl⟩
          have SW := Lib.hid (S2.out.swpx aN qN hx hy)
          have ca := S2.out.at aN hx
          have cq := S2.out.at qN hy
          have fa := S2.out.fz aN
          have fq := S2.out.fz qN
          have C := Lib.hid (fun (W : World) (s : SoR w W base g n cap (Sort.swp d3 a q)) => show Calls _ _ #[.slice (some ⟨g, 0, none⟩) n cap, .int .i64 0, .int .i64 (k : Int), .int .i64 (a : Int)] W _ from SI.out W _ 0 k s (by omega) (by omega))
          have E4 := Lib.hid (show heapPop ltN a k (siftDown ltN k a 0 (Sort.swp d3 a q)) = R by rw [← E3.out, pop_step, hq])
          by_cases hk0 : k = 0
          · obtain rfl : q = a := by omega
            obtain rfl : x = y := by rw [← hx, ← hy]
            have HK := Lib.hid hk
            have F1 := Lib.hid (And.intro hq hk0)
            clear hk hF hq hx hy hk0 aN qN
            go_wp2_with fail
            go_region
            all_goals
              go_wp2_with (go_at_call 40; refine (C.out _ (SW.out.keep (keeps_drew _))).mono ?_; rintro e w2 ⟨rfl, s2⟩)
              go_roundw
              case rel => exact ⟨k, siftDown ltN k q 0 (Sort.swp d3 q q), IdxU.of k, by have := HK.out; omega, (SW.out.keep (keeps_drew _)).step s2, E4.out⟩
              case measure => simp [intOf]
          · have n1 : a ≠ q := by omega
            have n2 : q ≠ a := by omega
            have HK := Lib.hid hk
            clear hk hF hq hx hy hk0 aN qN
            go_wp2_with fail
            go_region
            all_goals
              go_wp2_with (go_at_call 40; refine (C.out _ (SW.out.keep (keeps_drew _))).mono ?_; rintro e w2 ⟨rfl, s2⟩)
              go_roundw
              case rel => exact ⟨k, siftDown ltN k a 0 (Sort.swp d3 a q), IdxU.of k, by have := HK.out; omega, (SW.out.keep (keeps_drew _)).step s2, E4.out⟩
              case measure => simp [intOf]
end Go.Proofs.Ytdfaogagadoooaa
