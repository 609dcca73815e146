/- Chapter 16: what the reference and the laws help themselves with: the same numbers? is a number there? near? ahead? -/
import Derived.Test.YtdfaogagadoooaaCands
import Derived.BigQuiet
import Derived.Deep.RegionHeld3
namespace Go.Proofs.Ytdfaogagadoooaa
open Go.RowKit
set_option linter.unusedSimpArgs false
set_option linter.unusedVariables false
set_option maxRecDepth 100000

theorem take_eq_next {α : Type} [DecidableEq α] {a b : List α} {k : Nat} {x y : α} (hx : a[k]? = some x) (hy : b[k]? = some y) (h : a.take k = b.take k) : a.take (k + 1) = b.take (k + 1) ↔ x = y := by
  rw [List.take_add_one, List.take_add_one, hx, hy, h]
  simp
set_option maxHeartbeats 4000000 in
theorem eq16_any (A B : Option Addr) (n c m d : Nat) (a b : List Nat) (w : World) (ha : At w w.heap.size A (celU a)) (hb : At w w.heap.size B (celU b)) (hn : n = a.length) (hm : m = b.length) (hl : n ≤ 1000000) (hl2 : m ≤ 1000000) :
    Calls Try.prog 13 #[.slice A n c, .slice B m d] w fun e w' => e = .returned (.bool (decide (a = b))) ∧ Keeps w w' := by
  by_cases hnm : n = m
  · subst hnm
    have HN := Lib.hid hn
    have HM := Lib.hid hm
    have HL := Lib.hid hl
    have HA := Lib.hid ha
    have HB := Lib.hid hb
    clear hn hm hl ha hb hl2
    obtain ⟨r, hr⟩ : ∃ r, decide (a = b) = r := ⟨_, rfl⟩
    have HR := Lib.hid hr
    rw [hr]
    clear hr
    go_enter Try.func13, Try.ntmps13
    go_wp2_with fail
    go_loopw [5] (fun i wr => ∃ k : Nat, k ≤ n ∧ i = .int .i64 (k : Int) ∧ a.take k = b.take k ∧ Keeps w wr) (fun i _ => n - (intOf i).toNat)
    case atStart => exact ⟨0, by omega, rfl, by simp, keeps_refl _⟩
    case round =>
      obtain ⟨k, hk, rfl, hab, hks⟩ := hrel
      have KS := Lib.hid hks
      have HAB := Lib.hid hab
      clear hks hab
      by_cases hkl : k < n
      · obtain ⟨x, hx⟩ : ∃ x, a[k]? = some x := ⟨_, List.getElem?_eq_getElem (by have := HN.out; omega)⟩
        obtain ⟨y, hy⟩ : ∃ y, b[k]? = some y := ⟨_, List.getElem?_eq_getElem (by have := HM.out; omega)⟩
        obtain ⟨ad, hA, -, hc⟩ := celU_at HA.out hx
        obtain ⟨ae, hB, -, he⟩ := celU_at HB.out hy
        subst hA
        subst hB
        have c1 := KS.out.cellOf hc
        have c2 := KS.out.cellOf he
        have NX := Lib.hid (take_eq_next hx hy HAB.out)
        have hkn : (k : Int) < (n : Int) := by omega
        have hk0 : (0 : Int) ≤ (k : Int) := by omega
        have hkm : (n : Int) ≤ 1000000 := by have := HL.out; omega
        have HK := Lib.hid hkl
        have HX := Lib.hid hx
        have HY := Lib.hid hy
        clear hx hy hc he hkl hk
        by_cases hv : x = y
        · subst hv
          go_wp2_with fail
          go_quiet (fail)
          go_wp2_with fail
          go_roundw
          case rel => exact ⟨k + 1, by have := HK.out; omega, by go_num, NX.out.2 trivial, keeps_trans KS.out (by first | exact keeps_drewN _ _ | exact keeps_drew _)⟩
          case measure => have := HK.out; simp [intOf]; omega
        · have e4 : ((x : Int) == (y : Int)) = false := by simp only [beq_eq_false_iff_ne, ne_eq, Int.natCast_inj]; exact hv
          have HRF := Lib.hid (show r = false by
            rw [← HR.out, decide_eq_false_iff_not]
            intro hab
            subst hab
            have h1 := HX.out
            rw [HY.out] at h1
            exact hv (Option.some.inj h1).symm)
          clear hv
          go_wp2_with fail
          go_quiet (fail)
          go_wp2_with fail
          go_ret
          exact ⟨by rw [HRF.out]; rfl, keeps_trans KS.out (by first | exact keeps_drewN _ _ | exact keeps_drew _)⟩
      · have hkn : ¬ ((k : Int) < (n : Int)) := by omega
        have HRT := Lib.hid (show r = true by
          rw [← HR.out, decide_eq_true_eq]
          have h := HAB.out
          rw [show k = n by omega] at h
          rw [List.take_of_length_le (by have := HN.out; omega), List.take_of_length_le (by have := HM.out; omega)] at h
          exact h)
        clear hk hkl
        go_wp2_with fail
        go_ret
        exact ⟨by rw [HRT.out]; rfl, KS.out⟩
  · have hf : decide (a = b) = false := by
      rw [decide_eq_false_iff_not]
      intro h
      subst h
      omega
    rw [hf]
    have e4 : ((n : Int) == (m : Int)) = false := by simp only [beq_eq_false_iff_ne, ne_eq, Int.natCast_inj]; exact hnm
    clear ha hb hn hm hl hl2 hnm hf
    go_enter Try.func13, Try.ntmps13
    go_wp2_with fail
    go_ret
    exact ⟨rfl, keeps_refl _⟩

set_option maxHeartbeats 4000000 in
theorem has16_any (A : Option Addr) (n c : Nat) (l : List Nat) (v : Nat) (w : World) (hB : At w w.heap.size A (celU l)) (hn : n = l.length) (hm : n ≤ 1000000) :
    Calls Try.prog 17 #[.slice A n c, .int .u32 (v : Int)] w fun e w' => e = .returned (.bool (decide (v ∈ l))) ∧ Keeps w w' := by
  have HN := Lib.hid hn
  have HM := Lib.hid hm
  have HB := Lib.hid hB
  clear hn hm hB
  obtain ⟨r, hr⟩ : ∃ r, decide (v ∈ l) = r := ⟨_, rfl⟩
  have HR := Lib.hid hr
  rw [hr]
  clear hr
  go_enter Try.func17, Try.ntmps17
  go_wp2_with fail
  go_loopw [5] (fun i wr => ∃ k : Nat, k ≤ l.length ∧ i = .int .i64 (k : Int) ∧ v ∉ l.take k ∧ Keeps w wr) (fun i _ => l.length - (intOf i).toNat)
  case atStart => exact ⟨0, by omega, rfl, by simp, keeps_refl _⟩
  case round =>
    obtain ⟨k, hk, rfl, hnot, hks⟩ := hrel
    have KS := Lib.hid hks
    have HNOT := Lib.hid hnot
    clear hks hnot
    by_cases hkl : k < l.length
    · obtain ⟨y, hy⟩ : ∃ y, l[k]? = some y := ⟨_, List.getElem?_eq_getElem hkl⟩
      obtain ⟨ad, hA, -, hc⟩ := celU_at HB.out hy
      subst hA
      have c1 := KS.out.cellOf hc
      have hkn : (k : Int) < (n : Int) := by have := HN.out; omega
      have hk0 : (0 : Int) ≤ (k : Int) := by omega
      have hkm : (n : Int) ≤ 1000000 := by have := HM.out; omega
      have HK := Lib.hid hkl
      have HG := Lib.hid hy
      clear hy hc hk hkl
      by_cases hv : y = v
      · subst hv
        have HRT := Lib.hid (show r = true by rw [← HR.out, decide_eq_true_eq]; exact List.mem_of_getElem? HG.out)
        go_wp2_with fail
        go_ret
        exact ⟨by rw [HRT.out]; rfl, KS.out⟩
      · have HV := Lib.hid hv
        have h4 : ((y : Int) == (v : Int)) = false := by simp only [beq_eq_false_iff_ne, ne_eq, Int.natCast_inj]; exact hv
        clear hv
        go_wp2_with fail
        go_roundw
        case rel =>
          refine ⟨k + 1, by have := HK.out; omega, by go_num, ?_, KS.out⟩
          rw [List.take_add_one, HG.out]
          simp only [Option.toList_some, List.mem_append, List.mem_singleton, not_or]
          exact ⟨HNOT.out, fun e => HV.out e.symm⟩
        case measure => have := HK.out; simp [intOf]; omega
    · have hkn : ¬ ((k : Int) < (n : Int)) := by have := HN.out; omega
      have HRF := Lib.hid (show r = false by
        rw [← HR.out, decide_eq_false_iff_not]
        have h := HNOT.out
        rwa [show k = l.length by omega, List.take_length] at h)
      clear hk hkl
      go_wp2_with fail
      go_ret
      exact ⟨by rw [HRF.out]; rfl, KS.out⟩

set_option maxHeartbeats 4000000 in
theorem near16_any (x : Cd) (v : Nat) (w : World) (hx : CdOk w x) (hm : x.near.length ≤ 1000000) :
    Calls Try.prog 23 #[cdV x, .int .u32 (v : Int)] w fun e w' => e = .returned (.bool (decide (v ∈ x.near))) ∧ Keeps w w' := by
  have HM := Lib.hid hm
  have HB := Lib.hid hx.at_
  have BX := Lib.hid (cdBox w 33 x)
  have K0 := Lib.hid (keeps_alloc w (.cells #[.int .u32 (x.v : Int), .int .u64 (x.key : Int), .slice x.A x.near.length x.c] 33))
  obtain ⟨xv, key, A, c, l⟩ := x
  unfold cdV
  simp only at *
  obtain ⟨n, hn⟩ : ∃ n, l.length = n := ⟨_, rfl⟩
  rw [hn] at BX HM K0 ⊢
  have HN := Lib.hid hn
  obtain ⟨b0, b1, b2⟩ := BX.out
  simp only [hn] at b0 b1 b2
  clear hm hx hn
  obtain ⟨r, hr⟩ : ∃ r, decide (v ∈ l) = r := ⟨_, rfl⟩
  have HR := Lib.hid hr
  rw [hr]
  clear hr
  go_enter Try.func23, Try.ntmps23
  go_wp2_with fail
  generalize w.alloc (.cells #[.int .u32 (xv : Int), .int .u64 (key : Int), .slice A n c] 33) = W0 at *
  go_loopw [5] (fun i wr => ∃ k : Nat, k ≤ n ∧ i = .int .i64 (k : Int) ∧ v ∉ l.take k ∧ Keeps W0 wr) (fun i _ => n - (intOf i).toNat)
  case atStart => exact ⟨0, by omega, rfl, by simp, keeps_refl _⟩
  case round =>
    obtain ⟨k, hk, rfl, hnot, hks⟩ := hrel
    have KS := Lib.hid hks
    have HNOT := Lib.hid hnot
    have d2 := hks.cellOf b2
    clear hks hnot
    by_cases hkl : k < n
    · obtain ⟨y, hy⟩ : ∃ y, l[k]? = some y := ⟨_, List.getElem?_eq_getElem (by have := HN.out; omega)⟩
      obtain ⟨ad, hA, -, hc⟩ := celU_at HB.out hy
      subst hA
      have c1 := (keeps_trans K0.out KS.out).cellOf hc
      have hkn : (k : Int) < (n : Int) := by omega
      have hk0 : (0 : Int) ≤ (k : Int) := by omega
      have hkm : (n : Int) ≤ 1000000 := by have := HM.out; omega
      have HK := Lib.hid hkl
      have HG := Lib.hid hy
      clear hy hc hk hkl
      by_cases hv : y = v
      · subst hv
        have HRT := Lib.hid (show r = true by rw [← HR.out, decide_eq_true_eq]; exact List.mem_of_getElem? HG.out)
        go_wp2_with fail
        go_ret
        exact ⟨by rw [HRT.out]; rfl, keeps_trans K0.out KS.out⟩
      · have HV := Lib.hid hv
        have h4 : ((y : Int) == (v : Int)) = false := by simp only [beq_eq_false_iff_ne, ne_eq, Int.natCast_inj]; exact hv
        clear hv
        go_wp2_with fail
        go_roundw
        case rel =>
          refine ⟨k + 1, by have := HK.out; omega, by go_num, ?_, KS.out⟩
          rw [List.take_add_one, HG.out]
          simp only [Option.toList_some, List.mem_append, List.mem_singleton, not_or]
          exact ⟨HNOT.out, fun e => HV.out e.symm⟩
        case measure => have := HK.out; simp [intOf]; omega
    · have hkn : ¬ ((k : Int) < (n : Int)) := by omega
      have HRF := Lib.hid (show r = false by
        rw [← HR.out, decide_eq_false_iff_not]
        have h := HNOT.out
        rwa [show k = l.length by have := HN.out; omega, List.take_length] at h)
      clear hk hkl
      go_wp2_with fail
      go_ret
      exact ⟨by rw [HRF.out]; rfl, keeps_trans K0.out KS.out⟩
end Go.Proofs.Ytdfaogagadoooaa
