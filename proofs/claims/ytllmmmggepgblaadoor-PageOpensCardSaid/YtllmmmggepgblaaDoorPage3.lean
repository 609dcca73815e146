/- page.Open, and so pageOk. -/
import Derived.Test.YtllmmmggepgblaaDoorPage2
import Derived.Test.YtllmmmggepgblaaDoorPageMath2
import Derived.WalkMore
import Derived.ScopeJumps
namespace Go.Proofs.YtllmmmggepgblaaDoor
open Go.RowKit
set_option linter.unusedSimpArgs false
set_option linter.unusedVariables false
set_option maxRecDepth 100000

set_option maxHeartbeats 1600000 in
theorem open_short (t n : Nat) (A : Option Addr) (m c : Nat) (w : World) (h : ¬ m = 256) (hmax : m ≤ maxLen) :
    Calls Tryd.prog 19 #[.slice A m c, .int .u32 t, .int .u32 n] w (Refused w 7) := by
  have hne : ((m : Int) == 256) = false := by simp; omega
  unfold maxLen at hmax
  have k0 := keeps_alloc w (.cells #[.int .u32 0, .int .u32 0, .int .u16 0, .int .u16 0] 51)
  go_enter Tryd.func19, Tryd.ntmps19
  go_wp2
  refine wp_scope_jumps 0 (fun a' w' => (∃ u0 u1 u2 u3 u4 u5 u6 u7 u8 u9 u10 u11 u12 u13 u14 u15 u16 u17 u18 u19 u20 u21 u22 u23 u24 u25 u26 u27 u28 u29 u30 u31 u32 u33 u34 u35 u36 u37 u38 u39 u40 u41 u42 u43 u44 : Value, a' = { tmps := #[u0, u1, u2, u3, u4, u5, u6, u7, u8, u9, u10, u11, u12, u13, u14, u15, u16, u17, u18, u19, u20, u21, u22, u23, u24, u25, u26, u27, u28, u29, u30, u31, u32, u33, u34, u35, u36, u37, u38, u39, u40, u41, u42, u43, u44], defers := [] }) ∧ Keeps w w') (fun _ _ => 0) rfl ?_ ?_
  · go_wp2
    go_step3
    exact ⟨rfl, ⟨_, _, _, _, _, _, _, _, _, _, _, _, _, _, _, _, _, _, _, _, _, _, _, _, _, _, _, _, _, _, _, _, _, _, _, _, _, _, _, _, _, _, _, _, _, rfl⟩, k0⟩
  · rintro a' w' ⟨⟨u0, u1, u2, u3, u4, u5, u6, u7, u8, u9, u10, u11, u12, u13, u14, u15, u16, u17, u18, u19, u20, u21, u22, u23, u24, u25, u26, u27, u28, u29, u30, u31, u32, u33, u34, u35, u36, u37, u38, u39, u40, u41, u42, u43, u44, rfl⟩, hk⟩
    go_wp2
    simp only [Exit.jump]
    go_ret2
    exact ⟨rfl, hk⟩

theorem keeps_set {w w1 : World} (k : Keeps w w1) (b i : Nat) (u : Value) (hb : w.heap.size ≤ b) : Keeps w (w1.setCell ⟨b, i, none⟩ u) :=
  Below.trans k ⟨rfl, rfl, rfl, by simp [World.setCell], fun j hj => Below.heap_setCell _ _ _ _ (by simp only; omega)⟩
set_option maxHeartbeats 4000000 in
theorem open_256 (K : CrcOk) (t n : Nat) (ht : t < 4294967296) (hn : n < 4294967296) (A : Option Addr) (c : Nat) (p : List UInt8) (w : World) (hS : Sizes w) (hB : Bs w A p) (hp : p.length = 256) (hc : 256 ≤ c) :
    Calls Tryd.prog 19 #[.slice A 256 c, .int .u32 t, .int .u32 n] w (fun e w' => (IsPage p t n ∧ Gave w (saidB p) e w') ∨ (¬ IsPage p t n ∧ Refused w 7 e w')) := by
  obtain ⟨ad, rfl⟩ := hB.some_ (by omega)
  have k0 := keeps_alloc w (.cells #[.int .u32 0, .int .u32 0, .int .u16 0, .int .u16 0] 51)
  have bx := Box.new w 51 #[.int .u32 0, .int .u32 0, .int .u16 0, .int .u16 0]
  have HO := Lib.hid (headOf_any (some ad) c p _ (hS.keep k0) (hB.keep k0) hp hc)
  unfold headV at HO
  have h0 : numAt p 0 4 < 4294967296 := numAt_lt8 p 0 4
  have h1 : numAt p 4 4 < 4294967296 := numAt_lt8 p 4 4
  have h2 : numAt p 8 2 < 65536 := numAt_lt8 p 8 2
  have h3 : numAt p 10 2 < 65536 := numAt_lt8 p 10 2
  have FO := Lib.hid (show IsPage p t n → numAt p 8 2 ≤ 240 ∧ numAt p 0 4 = t ∧ numAt p 4 4 = n ∧ numAt p 10 2 = 0 ∧ (p.take 252).drop (12 + numAt p 8 2) = noughts (240 - numAt p 8 2) ∧ numAt p 252 4 = extC 0 (p.take 252) from fun h => by
    have f := fit_of ht hn h
    exact ⟨f.size, f.tag, f.number, f.zero, f.rest, f.sum⟩)
  have SD := Lib.hid (show numAt p 8 2 ≤ 240 → numAt p 10 2 = 0 → saidB p = (p.drop 12).take (numAt p 8 2) from fun h h' => by
    unfold saidB
    rw [(fit_size hp (.inr ⟨h, h'⟩)).1])
  have PO := Lib.hid (fun (g1 : numAt p 8 2 ≤ 240) (g2 : numAt p 0 4 = t) (g3 : numAt p 4 4 = n) (g4 : numAt p 10 2 = 0) (g5 : (p.take 252).drop (12 + numAt p 8 2) = noughts (240 - numAt p 8 2)) (g6 : numAt p 252 4 = extC 0 (p.take 252)) => page_of hp ⟨g1, g2, g3, g4, g5, g6⟩)
  generalize numAt p 0 4 = x0 at *
  generalize numAt p 4 4 = x1 at *
  generalize numAt p 8 2 = x2 at *
  generalize numAt p 10 2 = x3 at *
  go_enter Tryd.func19, Tryd.ntmps19
  go_wp2
  refine wp_scope_jumps 0 (fun a' w' => (∃ u0 u1 u2 u3 u4 u5 u6 u7 u8 u9 u10 u11 u12 u13 u14 u15 u16 u17 u18 u19 u20 u21 u22 u23 u24 u25 u26 u27 u28 u29 u30 u31 u32 u33 u34 u35 u36 u37 u38 u39 u40 u41 u42 u43 u44 : Value, a' = { tmps := #[u0, u1, u2, u3, u4, u5, u6, u7, u8, u9, u10, u11, u12, u13, u14, u15, u16, u17, u18, u19, u20, u21, u22, u23, u24, u25, u26, u27, u28, u29, u30, u31, u32, u33, u34, u35, u36, u37, u38, u39, u40, u41, u42, u43, u44], defers := [] }) ∧ Keeps w w' ∧ ¬ IsPage p t n) (fun _ _ => 0) rfl ?_ ?_
  · go_wp2_with fail
    refine HO.out.mono ?_
    rintro e w1 ⟨rfl, k1⟩
    have bx1 := bx.keep k1
    have c0 := bx1.cell 0 rfl
    have c1 := bx1.cell 1 rfl
    have c2 := bx1.cell 2 rfl
    have c3 := bx1.cell 3 rfl
    have f0 := bx1.frozen 0
    have f1 := bx1.frozen 1
    have f2 := bx1.frozen 2
    have f3 := bx1.frozen 3
    go_wp2_with fail
    · have k5 : Keeps w ((((w1.setCell ⟨w.heap.size, 0, none⟩ (.int .u32 (t : Int))).setCell ⟨w.heap.size, 1, none⟩ (.int .u32 (n : Int))).setCell ⟨w.heap.size, 2, none⟩ (.int .u16 (x2 : Int))).setCell ⟨w.heap.size, 3, none⟩ (.int .u16 0)) := keeps_set (keeps_set (keeps_set (keeps_set (keeps_trans k0 k1) _ _ _ (Nat.le_refl _)) _ _ _ (Nat.le_refl _)) _ _ _ (Nat.le_refl _)) _ _ _ (Nat.le_refl _)
      generalize (((w1.setCell ⟨w.heap.size, 0, none⟩ (.int .u32 (t : Int))).setCell ⟨w.heap.size, 1, none⟩ (.int .u32 (n : Int))).setCell ⟨w.heap.size, 2, none⟩ (.int .u16 (x2 : Int))).setCell ⟨w.heap.size, 3, none⟩ (.int .u16 0) = w5 at *
      have hx2 : x2 ≤ 240 := by omega
      have e0 : x0 = t := by omega
      have e1 : x1 = n := by omega
      have hl : ((p.take 252).drop (12 + x2)).length = 252 - (12 + x2) := by rw [List.length_drop, List.length_take, hp]; rfl
      refine (areNoughts_any (some (ad.add (12 + x2))) (252 - (12 + x2)) (c - (12 + x2)) ((p.take 252).drop (12 + x2)) w5 (((hB.keep k5).take 252).drop (12 + x2)) hl.symm (by omega)).mono ?_
      rintro e w' ⟨rfl, rfl⟩
      have hsub : 252 - (12 + x2) = 240 - x2 := by omega
      have SF := Lib.hid (sumFits_any K (some ad) c p w5 (hS.keep k5) (hB.keep k5) hp hc)
      by_cases hz : (p.take 252).drop (12 + x2) = noughts (252 - (12 + x2))
      · rw [decide_eq_true hz]
        by_cases hsm : numAt p 252 4 = extC 0 (p.take 252)
        · rw [decide_eq_true hsm] at SF
          have hyes : IsPage p t n := PO.out hx2 e0 e1 (by assumption) (by rw [← hsub]; exact hz) hsm
          have CL := Lib.hid (fun W (k : Keeps w W) => clone_any (some ⟨ad.block, ad.off + 12, none⟩) x2 (c - 12) ((p.drop 12).take x2) W (((hB.keep k).drop 12).take x2) (by rw [List.length_take, List.length_drop, hp]; omega) (fun h => by cases h) (by omega))
          rw [← SD.out hx2 (by assumption)] at CL
          have HY := Lib.hid hyes
          clear hz hsm hyes PO FO
          have hc12 : 12 + (x2 : Int) ≤ (c : Int) := by omega
          go_wp2_with fail
          refine SF.out.mono ?_
          rintro e w6 ⟨rfl, k6⟩
          have q6 := keeps_trans k5 k6
          go_wp2_with fail
          refine (CL.out _ q6).mono ?_
          rintro e w7 ⟨v7, rfl, o7, k7⟩
          go_wp2_with fail
          simp only [Exit.jump]
          go_ret2
          exact .inl ⟨HY.out, v7, rfl, o7.base_le q6.size, keeps_trans q6 k7⟩
        · rw [decide_eq_false hsm] at SF
          have hno : ¬ IsPage p t n := fun h => hsm (FO.out h).2.2.2.2.2
          have HNO := Lib.hid hno
          clear hz hsm hno PO FO
          go_wp2_with fail
          refine SF.out.mono ?_
          rintro e w6 ⟨rfl, k6⟩
          have q6 := keeps_trans k5 k6
          go_wp2_with fail
          go_step3
          exact ⟨rfl, ⟨_, _, _, _, _, _, _, _, _, _, _, _, _, _, _, _, _, _, _, _, _, _, _, _, _, _, _, _, _, _, _, _, _, _, _, _, _, _, _, _, _, _, _, _, _, rfl⟩, q6, HNO.out⟩
      · rw [decide_eq_false hz]
        have hno : ¬ IsPage p t n := fun h => hz (by rw [hsub]; exact (FO.out h).2.2.2.2.1)
        have HNO := Lib.hid hno
        clear hz hno PO FO SF
        go_wp2_with fail
        go_step3
        exact ⟨rfl, ⟨_, _, _, _, _, _, _, _, _, _, _, _, _, _, _, _, _, _, _, _, _, _, _, _, _, _, _, _, _, _, _, _, _, _, _, _, _, _, _, _, _, _, _, _, _, rfl⟩, k5, HNO.out⟩
    all_goals
      go_step3
      refine ⟨rfl, ⟨_, _, _, _, _, _, _, _, _, _, _, _, _, _, _, _, _, _, _, _, _, _, _, _, _, _, _, _, _, _, _, _, _, _, _, _, _, _, _, _, _, _, _, _, _, rfl⟩, keeps_set (keeps_set (keeps_set (keeps_set (keeps_trans k0 k1) _ _ _ (Nat.le_refl _)) _ _ _ (Nat.le_refl _)) _ _ _ (Nat.le_refl _)) _ _ _ (Nat.le_refl _), fun h => ?_⟩
      obtain ⟨g1, g2, g3, g4, -, -⟩ := FO.out h
      omega
  · rintro a' w' ⟨⟨u0, u1, u2, u3, u4, u5, u6, u7, u8, u9, u10, u11, u12, u13, u14, u15, u16, u17, u18, u19, u20, u21, u22, u23, u24, u25, u26, u27, u28, u29, u30, u31, u32, u33, u34, u35, u36, u37, u38, u39, u40, u41, u42, u43, u44, rfl⟩, hk, hno⟩
    go_wp2
    simp only [Exit.jump]
    go_ret2
    exact .inr ⟨hno, rfl, hk⟩

theorem pageOk_of (K : CrcOk) : PageOk where
  make := fun t n ht hn A m c b w hS hB hm hc _ hb => make_any K t n ht hn A m c b w hS hB hm hc hb
  many := many_any
  takes := fun t n ht hn A m c p w hS hB hm hc hcm hy => by
    obtain rfl : m = 256 := by rw [hm, hy.1]
    exact (open_256 K t n ht hn A c p w hS hB hm.symm hc).mono fun e w' h => by
      rcases h with h | h
      · exact h.2
      · exact absurd hy h.1
  rot := fun t n ht hn A m c p w hS hB hm hc hcm hno => by
    by_cases h256 : m = 256
    · subst h256
      exact (open_256 K t n ht hn A c p w hS hB hm.symm hc).mono fun e w' h => by
        rcases h with h | h
        · exact absurd h.1 hno
        · exact h.2
    · exact open_short t n A m c w h256 (Nat.le_trans hc hcm)
  tag := tag_any K
theorem pageOk : PageOk := pageOk_of crcOk
end Go.Proofs.YtllmmmggepgblaaDoor
