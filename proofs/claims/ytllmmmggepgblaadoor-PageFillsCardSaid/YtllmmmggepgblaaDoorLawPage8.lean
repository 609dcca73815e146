/- The walk of PageFills. -/
import Derived.Test.YtllmmmggepgblaaDoorLawPage7
namespace Go.Proofs.YtllmmmggepgblaaDoor
open Go.RowKit
set_option linter.unusedSimpArgs false
set_option linter.unusedVariables false
set_option maxRecDepth 100000

set_option maxHeartbeats 1600000 in
theorem fills7_walk (K : PageOk) (J : CrcOk) (t n t' n' : Nat) (ht : t < 4294967296) (hn : n < 4294967296) (A : Option Addr) (m c : Nat) (b : List UInt8) (D : Option Addr) (m2 c2 : Nat) (z : Nat) (hz : z < 65536) (v : UInt8) (w : World) (hS : Sizes w) (hB : Bs w A b) (hm : m = b.length) (hc : m ≤ c) (hcm : c ≤ maxLen) :
    Calls Tryd.prog 9 #[.agg #[.slice A m c, .int .u32 t, .int .u32 n, .int .u32 t', .int .u32 n', .slice D m2 c2], .int .u16 z, .int .u8 (v.toNat : Int)] w (Yes7 w) := by
  have hlen : m ≤ maxLen := Nat.le_trans hc hcm
  unfold maxLen at hlen
  have W := Lib.hid (fun W (k : Keeps w W) => works_page K W (hS.keep k))
  have k0 := keeps_alloc w (.cells #[.slice A m c, .int .u32 t, .int .u32 n, .int .u32 t', .int .u32 n', .slice D m2 c2] 38)
  have bx := Box.new w 38 #[.slice A m c, .int .u32 t, .int .u32 n, .int .u32 t', .int .u32 n', .slice D m2 c2]
  have HN := Lib.hid hm
  have HB := Lib.hid hB
  clear hm hB
  by_cases h : (240 : Int) < m
  · go_enter Tryd.func9, Tryd.ntmps9
    go_wp2_with fail
    refine (W.out _ k0).mono ?_
    rintro e w3 ⟨rfl, k3⟩
    go_wp2_with fail
    go_ret
    exact ⟨rfl, keeps_trans k0 k3⟩
  · have hmx : m ≤ 240 := by omega
    have hb : b.length ≤ 240 := by rw [← HN.out]; exact hmx
    have hpl := pageB_length (b := b) t n hb
    have hrem : Int.tmod (z : Int) 242 = ((z % 242 : Nat) : Int) := by
      rw [Int.tmod_eq_emod_of_nonneg (by omega)]; rfl
    have hr : z % 242 < 242 := Nat.mod_lt _ (by decide)
    generalize z % 242 = r at *
    have hvl := v.toNat_lt
    have MK := Lib.hid (fun W (k : Keeps w W) => K.make t n ht hn A m c b W (hS.keep k) (HB.out.keep k) HN.out hc hcm hb)
    have hplace : r = 0 ∨ r = 1 ∨ (2 + m ≤ r ∧ r < 242) ∨ (2 ≤ r ∧ r < 2 + m) := by omega
    have F0 := Lib.hid (fun h => fills_zero t n b hb (10 + r) h)
    have F1 := Lib.hid (fun h1 h2 => fills_in t n b hb (10 + r) h1 h2 v)
    have F2 := Lib.hid (fun h hv => fills_no t n b hb (10 + r) h v hv)
    have OYES := Lib.hid (fun W (k : Keeps w W) A' c' (b' : List UInt8) (hb' : b'.length ≤ 240) hB' hc' hm' => K.takes t n ht hn A' 256 c' (pageB t n b') W (hS.keep k) hB' (pageB_length t n hb').symm hc' hm' (isPage_pageB t n b' hb'))
    have ONO := Lib.hid (fun W (k : Keeps w W) A' c' q hB' (hl : 256 = q.length) hc' hm' (h256 : ¬ IsPage q t n) => K.rot t n ht hn A' 256 c' q W (hS.keep k) hB' hl hc' hm' h256)
    have SB := Lib.hid (fun b' hb' => saidB_pageB t n b' hb')
    generalize hp : pageB t n b = p at *
    have HP := Lib.hid hp
    clear hp
    go_enter Tryd.func9, Tryd.ntmps9
    go_wp2_with fail
    refine (MK.out _ k0).mono ?_
    generalize (w.alloc (.cells #[.slice A m c, .int .u32 t, .int .u32 n, .int .u32 t', .int .u32 n', .slice D m2 c2] 38)) = w2 at k0 bx ⊢
    rintro e w3 ⟨v3, rfl, o3, k3⟩
    rw [hpl] at o3
    obtain ⟨A3, c3, rfl, hc3, hm3, -, -⟩ := o3.form
    have B3 : Bs w3 A3 p := Own.at_ o3
    have q3 := keeps_trans k0 k3
    have bx3 := bx.keep k3
    have sm0 := fun W (k : Keeps w3 W) => summed_any J A3 c3 p (10 + r) (by omega) v W (B3.keep k) hpl
    have hcast : ((10 + r : Nat) : Int) = 10 + (r : Int) := by omega
    rw [hcast] at sm0
    have SM := Lib.hid sm0
    have BK := Lib.hid (fun W (k : Keeps w3 W) => And.intro ((bx3.keep k).cell 1 rfl) ((bx3.keep k).cell 2 rfl))
    clear sm0 hcast o3 B3
    by_cases hin : 2 ≤ r ∧ r < 2 + m
    · have hin1 := hin.1
      have hin2 := hin.2
      have fe := F1.out (by omega) (by rw [← HN.out]; omega)
      have hsl : (b.set (10 + r - 12) v).length = m := by rw [List.length_set, ← HN.out]
      have FE := Lib.hid fe
      clear hin fe hplace
      go_wp2_with fail
      go_region_held3 (fun V => V.cell? ⟨w.heap.size, 1, none⟩ = some (.int .u32 (t : Int)) ∧ V.cell? ⟨w.heap.size, 2, none⟩ = some (.int .u32 (n : Int))) (exact BK.out _ (by first | exact keeps_drew _ | assumption)) (first
        | (go_at_call 22; refine (SM.out _ (keeps_drew _)).mono ?_; rintro e w4 ⟨v4, rfl, o4, k4⟩; rw [sumB_length hpl] at o4; obtain ⟨A4, c4, rfl, hc4, hm4, -, -⟩ := o4.form; replace k4 := keeps_trans (keeps_drew _) k4; have B4 : Bs w4 A4 (sumB p (10 + r) v) := Own.at_ o4; clear o4)
        | (go_at_call 19; rw [FE.out] at B4; refine (OYES.out _ (keeps_trans q3 k4) A4 c4 _ (by rw [hsl]; exact hmx) B4 hc4 hm4).mono ?_; rintro e w5 ⟨v5, rfl, o5, k5⟩; replace k5 := keeps_trans k4 k5; rw [SB.out _ (by rw [hsl]; exact hmx), hsl] at o5; obtain ⟨A5, c5, rfl, hc5, hm5, -, -⟩ := o5.form))
      have k5' := keeps_trans q3 k5
      have bx5 := bx3.keep k5
      clear B4 BK SM
      have zB := bx5.cell 0 rfl
      go_wp2_with fail
      refine (copyBytes_any A m c b w5 (HB.out.keep k5') HN.out (by unfold maxLen; omega)).mono ?_
      rintro e w6 ⟨v6, rfl, o6, k6⟩
      rw [← HN.out] at o6
      obtain ⟨A6, c6, rfl, hc6, hm6, -, -⟩ := o6.form
      have hcl : (cel b).length = m := by rw [cel_length, ← HN.out]
      have hj : (10 + r - 12) < m := by omega
      have hidx : (10 : Int) + (r : Int) - 12 = ((10 + r - 12 : Nat) : Int) := by omega
      obtain ⟨g, rfl, hcc, hff, hgb⟩ := o6.cell (j := 10 + r - 12) (by rw [hcl]; exact hj)
      rw [cel_get _ (by rw [← HN.out]; exact hj)] at hcc
      have o7 := o6.store (j := 10 + r - 12) (by rw [hcl]; exact hj) (.int .u8 (v.toNat : Int))
      have ec : (cel b).set (10 + r - 12) (.int .u8 (v.toNat : Int)) = cel (b.set (10 + r - 12) v) := by simp [cel, List.map_set]
      rw [ec] at o7
      have k7 : Keeps w5 (w6.setCell ⟨g, 10 + r - 12, none⟩ (.int .u8 (v.toNat : Int))) := Below.trans k6 ⟨rfl, rfl, rfl, by simp [World.setCell], fun j hj => Below.heap_setCell _ _ _ _ (by simp only; omega)⟩
      have B5 : Bs w5 A5 (b.set (10 + r - 12) v) := Own.at_ o5
      have EQ := Lib.hid (eqBytes_one A5 m c5 (b.set (10 + r - 12) v) (some ⟨g, 0, none⟩) m c6 _ (B5.keep k7) hsl.symm (Own.at_ o7) hsl.symm)
      have q7 := keeps_trans k5' k7
      clear o5 o6 o7 ec B5 hcl zB
      generalize 10 + r - 12 = j at *
      clear hsl
      go_wp2_with fail
      refine EQ.out.mono ?_
      rintro e w' ⟨rfl, rfl⟩
      go_wp2_with fail
      refine (W.out _ q7).mono ?_
      rintro e w8 ⟨rfl, k8⟩
      go_wp2_with fail
      go_ret
      exact ⟨rfl, keeps_trans q7 k8⟩
    · have hout := Lib.hid (show 10 + r = 10 ∨ 10 + r = 11 ∨ (12 + b.length ≤ 10 + r ∧ 10 + r < 252) by rw [← HN.out]; omega)
      clear hplace
      by_cases hr2 : r < 2
      all_goals first
        | (have hx1 : (10 : Int) + (r : Int) < 12 := by omega
           have hx2 : True := trivial
           clear hin)
        | (have hx1 : decide ((10 : Int) + (r : Int) < 12) = false := decide_eq_false (by omega)
           have hx2 : (12 : Int) + (m : Int) ≤ 10 + (r : Int) := by omega
           clear hin)
      all_goals
        clear hr2
        by_cases hv : v = 0
        · have fe : sumB p (10 + r) v = p := by rw [hv]; exact F0.out hout.out
          have FE := Lib.hid fe
          have hvb : (((v.toNat : Nat) : Int) == 0) = true := by rw [hv]; rfl
          have hvd := Lib.hid hv
          clear fe hv F0 F1 F2 hout
          go_wp2_with fail
          go_region_held3 (fun V => V.cell? ⟨w.heap.size, 1, none⟩ = some (.int .u32 (t : Int)) ∧ V.cell? ⟨w.heap.size, 2, none⟩ = some (.int .u32 (n : Int))) (exact BK.out _ (by first | exact keeps_drew _ | assumption)) (first
            | (go_at_call 22; refine (SM.out _ (keeps_drew _)).mono ?_; rintro e w4 ⟨v4, rfl, o4, k4⟩; rw [sumB_length hpl] at o4; obtain ⟨A4, c4, rfl, hc4, hm4, -, -⟩ := o4.form; replace k4 := keeps_trans (keeps_drew _) k4; have B4 : Bs w4 A4 (sumB p (10 + r) v) := Own.at_ o4; clear o4)
            | (go_at_call 19; rw [FE.out, ← HP.out] at B4; refine (OYES.out _ (keeps_trans q3 k4) A4 c4 _ hb B4 hc4 hm4).mono ?_; rintro e w5 ⟨v5, rfl, o5, k5⟩; replace k5 := keeps_trans k4 k5; clear o5))
          have k5' := keeps_trans q3 k5
          have bx5 := bx3.keep k5
          clear B4 BK SM
          have zB := bx5.cell 0 rfl
          go_wp2_with fail
          refine (W.out _ k5').mono ?_
          rintro e w6 ⟨rfl, k6⟩
          go_wp2_with fail
          go_ret
          exact ⟨rfl, keeps_trans k5' k6⟩
        · have fe := F2.out hout.out hv
          have FE := Lib.hid fe
          have hvb : (((v.toNat : Nat) : Int) == 0) = false := by
            have : ¬ v.toNat = 0 := fun e => hv (UInt8.toNat_inj.1 (by simpa using e))
            simp; omega
          clear fe hv F0 F1 F2 hout
          go_wp2_with fail
          go_region_held3 (fun V => V.cell? ⟨w.heap.size, 1, none⟩ = some (.int .u32 (t : Int)) ∧ V.cell? ⟨w.heap.size, 2, none⟩ = some (.int .u32 (n : Int))) (exact BK.out _ (by first | exact keeps_drew _ | assumption)) (first
            | (go_at_call 22; refine (SM.out _ (keeps_drew _)).mono ?_; rintro e w4 ⟨v4, rfl, o4, k4⟩; rw [sumB_length hpl] at o4; obtain ⟨A4, c4, rfl, hc4, hm4, -, -⟩ := o4.form; replace k4 := keeps_trans (keeps_drew _) k4; have B4 : Bs w4 A4 (sumB p (10 + r) v) := Own.at_ o4; clear o4)
            | (go_at_call 19; refine (ONO.out _ (keeps_trans q3 k4) A4 c4 _ B4 (sumB_length hpl _ _).symm hc4 hm4 FE.out).mono ?_; rintro e w5 ⟨rfl, k5⟩; replace k5 := keeps_trans k4 k5))
          have k5' := keeps_trans q3 k5
          have bx5 := bx3.keep k5
          clear B4 BK SM
          have zB := bx5.cell 0 rfl
          go_wp2_with fail
          refine (W.out _ k5').mono ?_
          rintro e w6 ⟨rfl, k6⟩
          go_wp2_with fail
          go_ret
          exact ⟨rfl, keeps_trans k5' k6⟩
end Go.Proofs.YtllmmmggepgblaaDoor
