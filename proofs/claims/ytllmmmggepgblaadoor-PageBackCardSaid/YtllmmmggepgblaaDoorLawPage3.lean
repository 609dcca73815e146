/- The walk of PageSizes. -/
import Derived.Test.YtllmmmggepgblaaDoorLawPage2
import Derived.OwnWalk
namespace Go.Proofs.YtllmmmggepgblaaDoor
open Go.RowKit
set_option linter.unusedSimpArgs false
set_option linter.unusedVariables false
set_option maxRecDepth 100000

theorem made_noughts (s : Nat) : (madeCells (Value.int .u8 0).cells (s * 1)).toList = cel (noughts s) := by
  rw [Nat.mul_one]
  apply List.ext_getElem?
  intro j
  by_cases hj : j < s
  · simp [madeCells, noughts, cel, hj, Value.cells, Nat.mod_one]
  · simp [madeCells, noughts, cel, hj, Value.cells]

set_option maxHeartbeats 2000000 in
theorem sizes_walk (K : PageOk) (t n z : Nat) (ht : t < 4294967296) (hn : n < 4294967296) (hz : z < 65536) (w : World) (hS : Sizes w) :
    Calls Tryd.prog 7 #[.int .u32 t, .int .u32 n, .int .u16 z] w (Yes7 w) := by
  obtain ⟨i0, hi, hz0, hz1, hz2⟩ := info_parts info_u8
  have hrem : Int.tmod (z : Int) 1000 = ((z % 1000 : Nat) : Int) := by
    rw [Int.tmod_eq_emod_of_nonneg (by omega)]; rfl
  have hs : z % 1000 < 1000 := Nat.mod_lt _ (by decide)
  generalize z % 1000 = s at *
  have HR := Lib.hid hrem
  have hL := makeL_le t n (noughts s)
  go_enter Tryd.func7, Tryd.ntmps7
  go_wp2_with (first
    | (at_make; refine wpList_make_full _ rfl _ _ 23 rfl w.heap.size 5 i0 (.int .u8 0) 1 Tryd.underlying23 hi hz0 hz1 .i64 .i64 _ _ s rfl rfl (by simp) (by simp) (by rw [hz2]; omega) (by unfold maxLen; omega) (Nat.le_refl _) ?_; intro w1 hown1 hg1; have k1 : Keeps w w1 := keeps_grown hg1 _ (Nat.le_refl _) (by simp); rw [made_noughts] at hown1; have B1 := Own.at_ (Own.of_row hown1)))
  clear hL
  by_cases h240 : s ≤ 240
  · have hb : (noughts s).length ≤ 240 := by rw [noughts_length]; exact h240
    have hpl := pageB_length (b := noughts s) t n hb
    have hyes := isPage_pageB t n (noughts s) hb
    have hsaid := saidB_pageB t n (noughts s) hb
    have hsl := noughts_length s
    refine (K.make t n ht hn (some ⟨w.heap.size, 0, none⟩) s s (noughts s) w1 (hS.keep k1) B1 (noughts_length s).symm (Nat.le_refl _) (by unfold maxLen; omega) hb).mono ?_
    rintro e w2 ⟨v2, rfl, o2, k2⟩
    rw [hpl] at o2
    obtain ⟨A2, c2, rfl, hc2, hm2, -, -⟩ := o2.form
    have B2 := Own.at_ o2
    have q2 := keeps_trans k1 k2
    have OP := Lib.hid (K.takes t n ht hn A2 256 c2 _ w2 (hS.keep q2) B2 hpl.symm hc2 hm2 hyes)
    rw [hsaid] at OP
    have WK := Lib.hid (fun W (k : Keeps w W) => works_page K W (hS.keep k))
    clear hb hpl hyes hsaid B2 o2 B1 hown1
    go_wp2_with fail
    refine OP.out.mono ?_
    rintro e w3 ⟨v3, rfl, o3, k3⟩
    rw [hsl] at o3
    obtain ⟨A3, c3, rfl, hc3, hm3, -, -⟩ := o3.form
    have q3 := keeps_trans q2 k3
    clear o3 OP
    go_wp2_with fail
    refine (WK.out w3 q3).mono ?_
    rintro e w4 ⟨rfl, k4⟩
    go_wp2_with fail
    go_ret
    exact ⟨rfl, keeps_trans q3 k4⟩
  · have WK := Lib.hid (fun W (k : Keeps w W) => works_page K W (hS.keep k))
    refine (K.many t n (some ⟨w.heap.size, 0, none⟩) s s w1 (by omega) (by unfold maxLen; omega)).mono ?_
    rintro e w2 ⟨rfl, k2⟩
    have q2 := keeps_trans k1 k2
    clear B1 hown1
    go_wp2_with fail
    refine (WK.out w2 q2).mono ?_
    rintro e w4 ⟨rfl, k4⟩
    go_wp2_with fail
    go_ret
    exact ⟨rfl, keeps_trans q2 k4⟩
end Go.Proofs.YtllmmmggepgblaaDoor
