/- The walk of PageBursts. -/
import Derived.Test.YtllmmmggepgblaaDoorLawPage2
import Derived.Test.YtllmmmggepgblaaDoorTurned7
import Derived.Test.YtllmmmggepgblaaDoorBox
namespace Go.Proofs.YtllmmmggepgblaaDoor
open Go.RowKit
set_option linter.unusedSimpArgs false
set_option linter.unusedVariables false
set_option maxRecDepth 100000

theorem turn_place7 (z : Int) (n : Nat) (hn : 0 < n) : ∃ a : Nat, a < n ∧ (z.tmod n + n).tmod n = (a : Int) := by
  have h1 : -(n : Int) < z.tmod n := Int.lt_tmod_of_pos z (by omega)
  have h2 : z.tmod n < n := Int.tmod_lt_of_pos z (by omega)
  have h3 : (0 : Int) ≤ (z.tmod n + n).tmod n := Int.tmod_nonneg _ (by omega)
  have h4 : (z.tmod n + n).tmod n < n := Int.tmod_lt_of_pos _ (by omega)
  exact ⟨((z.tmod n + n).tmod n).toNat, by omega, by omega⟩

set_option maxHeartbeats 1000000 in
theorem bursts7_walk (K : PageOk) (t n : Nat) (ht : t < 4294967296) (hn : n < 4294967296) (A : Option Addr) (m c : Nat) (b : List UInt8) (z : Int) (hz1 : -9223372036854775808 ≤ z) (hz2 : z ≤ 9223372036854775807) (x : Nat) (hx : x < 4294967296) (w : World) (hS : Sizes w) (hB : Bs w A b) (hm : m = b.length) (hc : m ≤ c) (hcm : c ≤ maxLen) :
    Calls Tryd.prog 6 #[.agg #[.int .u32 t, .int .u32 n, .slice A m c, .int .i64 z, .int .u32 x]] w (Yes7 w) := by
  have hlen : m ≤ maxLen := Nat.le_trans hc hcm
  unfold maxLen at hlen
  have W := Lib.hid (fun W (k : Keeps w W) => works_page K W (hS.keep k))
  have k1 := keeps_alloc w (.cells #[.int .u32 t, .int .u32 n, .slice A m c, .int .i64 z, .int .u32 x] 41)
  have k2 := keeps_trans k1 (keeps_alloc (w.alloc (.cells #[.int .u32 t, .int .u32 n, .slice A m c, .int .i64 z, .int .u32 x] 41)) (.cells #[.int .u32 t, .int .u32 n] 36))
  have bx : Box ((w.alloc (.cells #[.int .u32 t, .int .u32 n, .slice A m c, .int .i64 z, .int .u32 x] 41)).alloc (.cells #[.int .u32 t, .int .u32 n] 36)) (w.heap.size + 1) 36 #[.int .u32 t, .int .u32 n] := by
    have := Box.new (w.alloc (.cells #[.int .u32 t, .int .u32 n, .slice A m c, .int .i64 z, .int .u32 x] 41)) 36 #[.int .u32 t, .int .u32 n]
    simpa using this
  have HN := Lib.hid hm
  have HB := Lib.hid hB
  clear hm hB k1
  by_cases h : (4096 : Int) < m
  · go_enter Tryd.func6, Tryd.ntmps6
    go_wp2_with fail
    refine (W.out _ k2).mono ?_
    rintro e w3 ⟨rfl, k3⟩
    go_wp2_with fail
    go_ret
    exact ⟨rfl, keeps_trans k2 k3⟩
  · have hmx : m ≤ 4096 := by omega
    by_cases h240 : m ≤ 240
    · have hb : b.length ≤ 240 := by rw [← HN.out]; exact h240
      have hpl := pageB_length (b := b) t n hb
      have hno := fun a => isPage_burst (t := t) (n := n) (t' := t) (n' := n) hb a x
      have MK := Lib.hid (fun W (k : Keeps w W) => K.make t n ht hn A m c b W (hS.keep k) (HB.out.keep k) HN.out hc hcm hb)
      have RT := Lib.hid (fun W (k : Keeps w W) A' c' q hB' hq hc' hm' hno' => K.rot t n ht hn A' 256 c' q W (hS.keep k) hB' hq hc' hm' hno')
      obtain ⟨a, ha, hat0⟩ := turn_place7 z 2048 (by omega)
      have hat : (z.tmod 2048 + 2048).tmod 2048 = (a : Int) := hat0
      clear hat0
      have hN1 := Int.lt_tmod_of_pos z (b := 2048) (by omega)
      have hN2 := Int.tmod_lt_of_pos z (b := 2048) (by omega)
      have hno := Lib.hid (hno a)
      generalize pageB t n b = p at *
      clear hb
      go_enter Tryd.func6, Tryd.ntmps6
      go_wp2_with fail
      refine (MK.out _ k2).mono ?_
      generalize ((w.alloc (.cells #[.int .u32 t, .int .u32 n, .slice A m c, .int .i64 z, .int .u32 x] 41)).alloc (.cells #[.int .u32 t, .int .u32 n] 36)) = w2 at k2 bx ⊢
      rintro e w3 ⟨v3, rfl, o3, k3⟩
      rw [hpl] at o3
      obtain ⟨A3, c3, rfl, hc3, hm3, -, -⟩ := o3.form
      have B3 := Own.at_ o3
      have q3 := keeps_trans k2 k3
      have bx3 := bx.keep k3
      clear o3
      go_wp2_with fail
      refine (turned7_any A3 256 c3 p a x (by omega) hx w3 B3 hpl.symm (by omega)).mono ?_
      rintro e w4 ⟨v4, rfl, o4, k4⟩
      rw [turnC_length, hpl] at o4
      have htl : (turnC p a x 32).length = 256 := by rw [turnC_length, hpl]
      obtain ⟨A4, c4, rfl, hc4, hm4, -, -⟩ := o4.form
      have B4 := Own.at_ o4
      have q4 := keeps_trans q3 k4
      have bx4 := bx3.keep k4
      generalize turnC p a x 32 = q at *
      clear o4
      go_wp2_with fail
      refine (eqBytes_any A3 256 c3 p A4 256 c4 q w4 (Bs.keep B3 k4) hpl.symm B4 htl.symm).mono ?_
      rintro e w' ⟨rfl, rfl⟩
      by_cases he : p = q
      · rw [decide_eq_true he]
        go_wp2_with fail
        refine (W.out _ q4).mono ?_
        rintro e w5 ⟨rfl, k5⟩
        go_wp2_with fail
        go_ret
        exact ⟨rfl, keeps_trans q4 k5⟩
      · rw [decide_eq_false he]
        have R5 := Lib.hid (RT.out w4 q4 A4 c4 q B4 htl.symm hc4 hm4 (hno.out he))
        have z0 := bx4.cell 0 rfl
        have z1 := bx4.cell 1 rfl
        clear hno he B3 B4 bx bx3 bx4
        go_wp2_with fail
        refine R5.out.mono ?_
        rintro e w5 ⟨rfl, k5⟩
        have q5 := keeps_trans q4 k5
        go_wp2_with fail
        refine (W.out _ q5).mono ?_
        rintro e w6 ⟨rfl, k6⟩
        go_wp2_with fail
        go_ret
        exact ⟨rfl, keeps_trans q5 k6⟩
    · have MK := Lib.hid (fun W (k : Keeps w W) => K.many t n A m c W (by omega) (by unfold maxLen; omega))
      go_enter Tryd.func6, Tryd.ntmps6
      go_wp2_with fail
      refine (MK.out _ k2).mono ?_
      generalize ((w.alloc (.cells #[.int .u32 t, .int .u32 n, .slice A m c, .int .i64 z, .int .u32 x] 41)).alloc (.cells #[.int .u32 t, .int .u32 n] 36)) = w2 at k2 bx ⊢
      rintro e w3 ⟨rfl, k3⟩
      have q3 := keeps_trans k2 k3
      go_wp2_with fail
      refine (W.out _ q3).mono ?_
      rintro e w4 ⟨rfl, k4⟩
      go_wp2_with fail
      go_ret
      exact ⟨rfl, keeps_trans q3 k4⟩
end Go.Proofs.YtllmmmggepgblaaDoor
