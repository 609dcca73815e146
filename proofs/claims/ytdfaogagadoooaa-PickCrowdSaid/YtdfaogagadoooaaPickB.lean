/- Chapter 16: the reference's ahead, Once, rising. -/
import Derived.Test.YtdfaogagadoooaaPickA
namespace Go.Proofs.Ytdfaogagadoooaa
open Go.RowKit
set_option linter.unusedSimpArgs false
set_option linter.unusedVariables false
set_option maxRecDepth 100000

theorem info_cand : (Try.prog.info? 33).map (fun i => (i.zero, i.size, i.bytes)) = some (some (.agg #[.int .u32 0, .int .u64 0, .slice none 0 0]), 3, 40) := by kernel_rfl
theorem info_u32P : (Try.prog.info? 30).map (fun i => (i.zero, i.size, i.bytes)) = some (some (.int .u32 0), 1, 4) := by kernel_rfl
theorem info_partsU {P : Program} {t : TypeId} {z : Value} {s b : Nat} (h : (P.info? t).map (fun i => (i.zero, i.size, i.bytes)) = some (some z, s, b)) : ∃ i, P.info? t = some i ∧ i.zero = some z ∧ i.size = s ∧ i.bytes = b := by
  obtain ⟨i, hi, e⟩ := Option.map_eq_some_iff.1 h
  injection e with e1 e2
  injection e2 with e2 e3
  exact ⟨i, hi, e1, e2, e3⟩

set_option maxHeartbeats 4000000 in
theorem ahead16_any (x y : Cd) (w : World) : Calls Try.prog 24 #[cdV x, cdV y] w fun e w' => e = .returned (.bool (aheadC x.n y.n)) ∧ Keeps w w' := by
  have BX := (cdBox w 33 x).keep (keeps_alloc _ (.cells #[.int .u32 (y.v : Int), .int .u64 (y.key : Int), .slice y.A y.near.length y.c] 33))
  have BY := cdBox (w.alloc (.cells #[.int .u32 (x.v : Int), .int .u64 (x.key : Int), .slice x.A x.near.length x.c] 33)) 33 y
  have K0 := Lib.hid (keeps_trans (keeps_alloc w (.cells #[.int .u32 (x.v : Int), .int .u64 (x.key : Int), .slice x.A x.near.length x.c] 33)) (keeps_alloc _ (.cells #[.int .u32 (y.v : Int), .int .u64 (y.key : Int), .slice y.A y.near.length y.c] 33)))
  simp only [World.size_alloc] at BY
  obtain ⟨b0, b1, b2⟩ := BX
  obtain ⟨d0, d1, d2⟩ := BY
  unfold aheadC Cd.n
  obtain ⟨xv, xk, XA, xc, xn⟩ := x
  obtain ⟨yv, yk, YA, yc, yn⟩ := y
  unfold cdV
  simp only at *
  by_cases h1 : xk < yk
  · have e1 : decide (xk < yk) = true := decide_eq_true h1
    have e2 : decide ((xk : Int) < (yk : Int)) = true := decide_eq_true (by omega)
    simp only [e1, Bool.true_or]
    clear h1
    go_enter Try.func24, Try.ntmps24
    go_wp2_with fail
    go_ret
    exact ⟨rfl, K0.out⟩
  · have e1 : decide (xk < yk) = false := decide_eq_false h1
    have e2 : decide ((xk : Int) < (yk : Int)) = false := decide_eq_false (by omega)
    by_cases h2 : xk = yk
    · subst h2
      by_cases h3 : xv < yv
      · have e3 : decide (xv < yv) = true := decide_eq_true h3
        have e4 : decide ((xv : Int) < (yv : Int)) = true := decide_eq_true (by omega)
        simp only [e1, e3, decide_true, Bool.false_or, Bool.true_and]
        clear h1 h3
        go_enter Try.func24, Try.ntmps24
        go_wp2_with fail
        go_ret
        exact ⟨rfl, K0.out⟩
      · have e3 : decide (xv < yv) = false := decide_eq_false h3
        have e4 : decide ((xv : Int) < (yv : Int)) = false := decide_eq_false (by omega)
        simp only [e1, e3, decide_true, Bool.false_or, Bool.true_and]
        clear h1 h3
        go_enter Try.func24, Try.ntmps24
        go_wp2_with fail
        go_ret
        exact ⟨rfl, K0.out⟩
    · have e3 : decide (xk = yk) = false := decide_eq_false h2
      have e4 : ((xk : Int) == (yk : Int)) = false := by simp only [beq_eq_false_iff_ne, ne_eq, Int.natCast_inj]; exact h2
      simp only [e1, e3, Bool.false_or, Bool.false_and]
      clear h1 h2
      go_enter Try.func24, Try.ntmps24
      go_wp2_with fail
      go_ret
      exact ⟨rfl, K0.out⟩

theorem mem_take_next {O : List Cd} {j v : Nat} {y : Cd} (hy : O[j]? = some y) : (v ∈ (O.take (j + 1)).map Cd.v) ↔ (v ∈ (O.take j).map Cd.v ∨ v = y.v) := by
  rw [List.take_add_one, hy, List.map_append, List.mem_append]
  simp
set_option maxHeartbeats 16000000 in
theorem once16_any (A : Option Addr) (n c : Nat) (l : List Cd) (w : World) (hl : CdsAt w A l) (hn : n = l.length) (hm : n ≤ 1000) :
    Calls Try.prog 16 #[.slice A n c] w fun e w' => ∃ v, e = .returned v ∧ Own w' w.heap.size 33 3 v (onceD l).length (cdsC (onceD l)) ∧ Keeps w w' := by
  obtain ⟨i0, hi, hz0, hz1, hz2⟩ := info_partsU info_cand
  have HL := Lib.hid hl
  have HN := Lib.hid hn
  have HM := Lib.hid hm
  clear hl hn hm
  go_enter Try.func16, Try.ntmps16
  go_wp2_with fail
  go_loopw [3, 4] (fun u i wr => ∃ k : Nat, k ≤ n ∧ i = .int .i64 k ∧ Own wr w.heap.size 33 3 u (onceD (l.take k)).length (cdsC (onceD (l.take k))) ∧ Keeps w wr) (fun _ i _ => n - (intOf i).toNat)
  case atStart => exact ⟨0, Nat.zero_le _, rfl, Own.nil _ _ _ _, keeps_refl _⟩
  case round =>
    obtain ⟨k, hk, rfl, hO, hkp⟩ := hrel
    have HO := Lib.hid hO
    have HK := Lib.hid hkp
    obtain ⟨Ao, co, rfl, hco, -, -, -⟩ := hO.form
    clear hO hkp
    have OL := Lib.hid (show (onceD (l.take k)).length ≤ k by have := onceD_len (l.take k); rw [List.length_take] at this; omega)
    by_cases hlt : k < n
    · obtain ⟨x, hx⟩ : ∃ x, l[k]? = some x := ⟨_, List.getElem?_eq_getElem (by have := HN.out; omega)⟩
      obtain ⟨ad, hA, _, hEd⟩ := cds_at HL.out.cells hx
      subst hA
      have ON := Lib.hid (onceD_next hx)
      have XI := Lib.hid hEd
      have hkn : (k : Int) < (n : Int) := by omega
      have hk0 : (0 : Int) ≤ (k : Int) := by omega
      have hn3 : (n : Int) ≤ 1000 := by have := HM.out; omega
      have HKN := Lib.hid hlt
      obtain ⟨xv, xk, XA, xc, xn⟩ := x
      obtain ⟨O, hOO⟩ : ∃ O, onceD (l.take k) = O := ⟨_, rfl⟩
      rw [hOO] at HO OL ON hco ⊢
      obtain ⟨m, hm⟩ : ∃ m, O.length = m := ⟨_, rfl⟩
      rw [hm] at HO OL hco ⊢
      have HM2 := Lib.hid hm
      have hm3 : (m : Int) ≤ 1000 := by have := OL.out; omega
      clear hx hOO hm hEd hlt hk
      go_wp2_with fail
      rename World => wo
      go_loopw [5, 6] (fun b i wr => ∃ j : Nat, j ≤ m ∧ i = .int .i64 j ∧ b = .bool (decide (xv ∈ (O.take j).map Cd.v)) ∧ Keeps wo wr) (fun _ i _ => m - (intOf i).toNat)
      case atStart => exact ⟨0, Nat.zero_le _, rfl, by simp, keeps_refl _⟩
      case round =>
        obtain ⟨j, hj, rfl, rfl, hjp⟩ := hrel
        have JP := Lib.hid hjp
        obtain ⟨a0, a1, a2⟩ := XI.out.keep (keeps_trans HK.out hjp)
        clear hjp
        by_cases hjm : j < m
        · obtain ⟨y, hy⟩ : ∃ y, O[j]? = some y := ⟨_, List.getElem?_eq_getElem (by have := HM2.out; omega)⟩
          obtain ⟨ae, hAe, -, hYd⟩ := cds_at (HO.out.keep JP.out).at_ hy
          subst hAe
          obtain ⟨y0, y1, y2⟩ := hYd
          have MN := Lib.hid (mem_take_next (v := xv) hy)
          obtain ⟨yv, yk, YA, yc, yn⟩ := y
          have hjn : (j : Int) < (m : Int) := by omega
          have hj0 : (0 : Int) ≤ (j : Int) := by omega
          have HJ := Lib.hid hjm
          clear hy hjm hj
          by_cases hb : xv ∈ (O.take j).map Cd.v
          · have e1 : decide (xv ∈ (O.take j).map Cd.v) = true := decide_eq_true hb
            rw [e1]
            have MT := Lib.hid (show decide (xv ∈ (O.take (j + 1)).map Cd.v) = true from decide_eq_true (MN.out.2 (.inl hb)))
            clear hb e1
            go_wp2_with fail
            go_quiet (fail)
            go_wp2_with fail
            go_roundw
            case rel => exact ⟨j + 1, by have := HJ.out; omega, by go_num, by rw [MT.out], keeps_trans JP.out (by first | exact keeps_drewN _ _ | exact keeps_drew _)⟩
            case measure => have := HJ.out; simp [intOf]; omega
          · have e1 : decide (xv ∈ (O.take j).map Cd.v) = false := decide_eq_false hb
            rw [e1]
            by_cases hv : yv = xv
            · subst hv
              have MT := Lib.hid (show decide (yv ∈ (O.take (j + 1)).map Cd.v) = true from decide_eq_true (MN.out.2 (.inr rfl)))
              clear hb e1
              go_wp2_with fail
              go_quiet (fail)
              go_wp2_with fail
              go_roundw
              case rel => exact ⟨j + 1, by have := HJ.out; omega, by go_num, by rw [MT.out], keeps_trans JP.out (by first | exact keeps_drewN _ _ | exact keeps_drew _)⟩
              case measure => have := HJ.out; simp [intOf]; omega
            · have MT := Lib.hid (show decide (xv ∈ (O.take (j + 1)).map Cd.v) = false from decide_eq_false (fun h => by
                rcases MN.out.1 h with h | h
                · exact hb h
                · exact hv h.symm))
              have h4 : ((yv : Int) == (xv : Int)) = false := by simp only [beq_eq_false_iff_ne, ne_eq, Int.natCast_inj]; exact hv
              clear hb e1 hv
              go_wp2_with fail
              go_quiet (fail)
              go_wp2_with fail
              go_roundw
              case rel => exact ⟨j + 1, by have := HJ.out; omega, by go_num, by rw [MT.out], keeps_trans JP.out (by first | exact keeps_drewN _ _ | exact keeps_drew _)⟩
              case measure => have := HJ.out; simp [intOf]; omega
        · have hjn : ¬ ((j : Int) < (m : Int)) := by omega
          have E1 := Lib.hid (show O.take j = O from List.take_of_length_le (by have := HM2.out; omega))
          rw [E1.out]
          clear hjm hj
          by_cases hb : xv ∈ O.map Cd.v
          · have e1 : decide (xv ∈ O.map Cd.v) = true := decide_eq_true hb
            rw [e1]
            have ON2 := Lib.hid (show onceD (l.take (k + 1)) = O from by rw [ON.out]; exact if_pos hb)
            clear hb e1
            go_wp2_with fail
            go_roundw
            case rel => exact ⟨k + 1, by have := HKN.out; omega, by go_num, by rw [ON2.out, HM2.out]; exact HO.out.keep JP.out, keeps_trans HK.out JP.out⟩
            case measure => have := HKN.out; simp [intOf]; omega
          · have e1 : decide (xv ∈ O.map Cd.v) = false := decide_eq_false hb
            rw [e1]
            have ON2 := Lib.hid (show onceD (l.take (k + 1)) = O ++ [⟨xv, xk, XA, xc, xn⟩] from by rw [ON.out]; exact if_neg hb)
            have KK := Lib.hid (keeps_trans HK.out JP.out)
            have HO2 := Lib.hid (HO.out.keep JP.out)
            clear hb e1
            have AT := Lib.hid (show ∀ W : World, At (W.alloc (.cells #[.int .u32 (xv : Int), .int .u64 (xk : Int), .slice XA xn.length xc] 33)) (W.alloc (.cells #[.int .u32 (xv : Int), .int .u64 (xk : Int), .slice XA xn.length xc] 33)).heap.size (some ⟨W.heap.size, 0, none⟩) (cdC ⟨xv, xk, XA, xc, xn⟩) from fun W => At.new _ _ _ _ (by simp))
            go_wp2_with (at_builtin; refine wpList_app _ rfl _ _ 22 rfl w.heap.size 33 i0 (.agg #[.int .u32 0, .int .u64 0, .slice none 0 0]) 3 40 Try.underlying22 hi hz0 hz1 hz2 rfl (by decide) _ m (cdsC O) rfl ((HO2.out).keep (keeps_alloc _ _)) _ _ 1 1 (cdC ⟨xv, xk, XA, xc, xn⟩) rfl rfl (AT.out _) (cdC_ones _) (by unfold maxLen; omega) (by omega) (keeps_trans KK.out (keeps_alloc _ _)).size ?_)
            intro v8 w8 o8 g8 b8
            have kA := keeps_trans KK.out (keeps_alloc wr (.cells #[.int .u32 (xv : Int), .int .u64 (xk : Int), .slice XA xn.length xc] 33))
            have k8 : Keeps w w8 := Below.grown kA g8 kA.size (fun g hg => (HO2.out.lt g hg).1)
            have O8 := Lib.hid (show Own w8 w.heap.size 33 3 v8 (onceD (l.take (k + 1))).length (cdsC (onceD (l.take (k + 1)))) by
              rw [ON2.out, cdsC_put, List.length_append, HM2.out]
              exact o8)
            clear o8 g8 b8
            go_wp2_with fail
            go_roundw
            case rel => exact ⟨k + 1, by have := HKN.out; omega, by go_num, O8.out, k8⟩
            case measure => have := HKN.out; simp [intOf]; omega
    · obtain rfl : k = n := by omega
      have E1 := Lib.hid (show l.take k = l from List.take_of_length_le (by have := HN.out; omega))
      rw [E1.out] at HO hco ⊢
      clear hlt
      go_wp2_with fail
      go_returns
      exact ⟨_, rfl, HO.out, HK.out⟩
end Go.Proofs.Ytdfaogagadoooaa
