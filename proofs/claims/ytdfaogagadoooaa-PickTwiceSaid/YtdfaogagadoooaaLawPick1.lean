/- Layer 16's statements: PickPicks. -/
import Derived.Test.YtdfaogagadoooaaPickD
import Derived.Test.YtdfaogagadoooaaPickF
namespace Go.Proofs.Ytdfaogagadoooaa
open Go.RowKit
set_option linter.unusedSimpArgs false
set_option linter.unusedVariables false
set_option maxRecDepth 100000

theorem IsPick.eq {l : List Cn} {out : List Nat} (h : IsPick l out) : out = pickS (onceC l) (onceC l) := h.unique (pickS_is l)
theorem IsPick.len {l : List Cn} {out : List Nat} (h : IsPick l out) : out.length ≤ l.length := by
  rw [h.eq]
  have h1 := pickS_len (onceC l) (onceC l)
  have h2 := onceC_len l
  omega
theorem n_near {l l' : List Cd} (h : l'.map Cd.n = l.map Cd.n) {y : Cd} (hy : y ∈ l') : ∃ x ∈ l, y.near = x.near := by
  have h1 : y.n ∈ l.map Cd.n := by rw [← h]; exact List.mem_map_of_mem hy
  obtain ⟨x, hx, e⟩ := List.mem_map.1 h1
  exact ⟨x, hx, by rw [← show y.n.near = y.near from rfl, ← e]; rfl⟩

set_option maxHeartbeats 16000000 in
theorem picks16_walk (K : PickOk) (A : Option Addr) (n c : Nat) (l : List Cd) (w : World) (hl : CdsAt w A l) (hn : n = l.length) (hc : n ≤ c) (hm : c ≤ maxLen) :
    Calls Try.prog 3 #[.slice A n c] w (Yes w) := by
  obtain ⟨j0, hj, hy0, hy1, hy2⟩ := info_partsU info_u32P
  have LG := Lib.hid (large16_any A n c l w hl hn)
  have WW := Lib.hid (works16 K)
  have HL := Lib.hid hl
  have HN := Lib.hid hn
  have PK := Lib.hid K
  clear hl hn hm hc K
  go_enter Try.func3, Try.ntmps3
  go_wp2_with fail
  refine LG.out.mono ?_
  rintro e w1 ⟨b, rfl, k1, hf⟩
  cases b with
  | true =>
    clear hf
    go_wp2_with fail
    refine (WW.out _).mono ?_
    rintro e w9 ⟨rfl, k9⟩
    go_wp2_with fail
    go_ret
    exact ⟨rfl, keeps_trans k1 k9⟩
  | false =>
    obtain ⟨f1, f2⟩ := hf rfl
    have K1 := Lib.hid k1
    have HN2 := Lib.hid (show n ≤ 100 by have := HN.out; omega)
    have F2 := Lib.hid f2
    have CP := Lib.hid (copied16_any A n c l w1 (HL.out.keep k1) HN.out (by have := HN2.out; omega) (fun x hx => by have := f2 x hx; omega))
    have RP := Lib.hid (fun (W : World) (kW : Keeps w W) => refPick_any A n c l W (HL.out.keep kW) HN.out (by have := HN2.out; omega) (fun x hx => by have := F2.out x hx; omega))
    clear f1 f2 k1 hf LG
    go_wp2_with fail
    refine CP.out.mono ?_
    rintro e w2 ⟨v2, l2, rfl, m2, o2, a2, k2⟩
    obtain ⟨A2, c2, rfl, hc2, hm2, -, -⟩ := o2.form
    have N2 : l2.length = n := by
      have := congrArg List.length m2
      rw [List.length_map, List.length_map] at this
      have := HN.out
      omega
    have C2 := Lib.hid (CdsAt.mk o2.at_ (fun x hx => (a2 x hx).cd))
    have K2 := Lib.hid (keeps_trans K1.out k2)
    have M2 := Lib.hid m2
    have F3 := Lib.hid (show ∀ x ∈ l2, x.near.length ≤ 100000 from fun x hx => by
      obtain ⟨y, hy, e⟩ := n_near m2 hx
      rw [e]
      have := F2.out y hy
      omega)
    have PP := Lib.hid (PK.out.pick A2 l2.length c2 l2 w2 C2.out rfl (by have := HN2.out; omega) hc2 hm2 F3.out)
    have SM := Lib.hid (fun (W : World) (kW : Keeps w2 W) => same16_yes A2 A l2.length c2 n c l2 l W (C2.out.keep kW) (HL.out.keep (keeps_trans K2.out kW)) rfl HN.out (by have := HN2.out; omega) F3.out M2.out.symm)
    rw [N2] at PP SM ⊢
    clear m2 o2 a2 k2 CP hc2 hm2
    go_wp2_with fail
    refine PP.out.mono ?_
    rintro e w3 ⟨v3, out, rfl, hp, o3, k3⟩
    rw [M2.out] at hp
    have HOL := Lib.hid (show out.length ≤ 100 by have h1 := hp.len; rw [List.length_map] at h1; have := HN2.out; have := HN.out; omega)
    have HOE := Lib.hid hp.eq
    obtain ⟨A3, c3, rfl, -, -, -, -⟩ := o3.form
    have O3 := Lib.hid o3
    have K3 := Lib.hid k3
    clear hp o3 k3 PP
    go_wp2_with fail
    refine (RP.out w3 (keeps_trans K2.out K3.out)).mono ?_
    rintro e w4 ⟨v4, rfl, o4, k4⟩
    rw [← HOE.out] at o4
    obtain ⟨A4, c4, rfl, -, -, -, -⟩ := o4.form
    have EQ := Lib.hid (by
      have h := eq16_any A3 A4 out.length c3 out.length c4 out out w4 (O3.out.keep k4).at_ o4.at_ rfl rfl (by have := HOL.out; omega) (by have := HOL.out; omega)
      rw [decide_eq_true (rfl : out = out)] at h
      exact h)
    have O4 := Lib.hid (O3.out.keep k4)
    have K4 := Lib.hid (keeps_trans K3.out k4)
    obtain ⟨m, hml⟩ : ∃ m, out.length = m := ⟨_, rfl⟩
    rw [hml] at EQ O4 ⊢
    have HOLm := Lib.hid (show m ≤ 100 by rw [← hml]; exact HOL.out)
    clear o4 k4 RP O3 hml
    go_wp2_with fail
    refine EQ.out.mono ?_
    rintro e w5 ⟨rfl, k5⟩
    have K5 := Lib.hid (keeps_trans K4.out k5)
    have O5 := Lib.hid (O4.out.keep k5)
    clear k5 O4
    go_wp2_with fail
    refine (SM.out _ K5.out).mono ?_
    rintro e w6 ⟨rfl, k6⟩
    have K6 := Lib.hid (keeps_trans K5.out k6)
    have O6 := Lib.hid (O5.out.keep k6)
    clear k6 O5
    have AT := Lib.hid (show ∀ W : World, At (W.alloc (.cells #[.int .u32 7] 30)) (W.alloc (.cells #[.int .u32 7] 30)).heap.size (some ⟨W.heap.size, 0, none⟩) (celU [7]) from fun W => At.new _ _ _ _ (by simp))
    go_wp2_with (at_builtin; refine wpList_app _ rfl _ _ 26 rfl w2.heap.size 30 j0 (.int .u32 0) 1 4 Try.underlying26 hj hy0 hy1 hy2 rfl (by decide) _ m (celU out) rfl (O6.out.keep (keeps_alloc _ _)) _ _ 1 1 (celU [7]) rfl rfl (AT.out _) (celU_one _) (by have := HOLm.out; unfold maxLen; omega) (by have := HOLm.out; omega) (keeps_trans K6.out (keeps_alloc _ _)).size ?_)
    intro v8 w8 o8 g8 b8
    have kA := keeps_trans K6.out (keeps_alloc w6 (.cells #[.int .u32 7] 30))
    have k8 : Keeps w2 w8 := Below.grown kA g8 kA.size (fun g hg => (O6.out.lt g hg).1)
    obtain ⟨A8, c8, rfl, -, -, -, -⟩ := o8.form
    have O8 := Lib.hid o8
    have K8 := Lib.hid k8
    clear o8 g8 b8 kA k8 AT O6
    go_wp2_with fail
    go_loopw [5] (fun i wr => ∃ (k : Nat) (xs : List Value), k ≤ m + 1 ∧ i = .int .i64 k ∧ xs.length = m + 1 ∧ Own wr w2.heap.size 30 1 (.slice A8 (m + 1) c8) (m + 1) xs ∧ Keeps w2 wr) (fun i _ => m + 1 - (intOf i).toNat)
    case atStart => exact ⟨0, _, Nat.zero_le _, rfl, by have := O8.out.1; simpa using this, O8.out, K8.out⟩
    case round =>
      obtain ⟨k, xs, hk, rfl, hxs, hO, hkp⟩ := hrel
      have OR := Lib.hid hO
      have KP := Lib.hid hkp
      have XL := Lib.hid hxs
      clear hO hkp
      by_cases hlt : k < m + 1
      · obtain ⟨g, rfl, q1, q2, hbg⟩ := OR.out.cell (j := k) (by omega)
        rw [List.getElem?_eq_getElem (show k < xs.length by omega)] at q1
        have O9 := Lib.hid (OR.out.store (j := k) (by omega) (.int .u32 9))
        have K9 := Lib.hid (KP.out.setCell (p := ⟨g, k, none⟩) hbg (.int .u32 9))
        have hkn : (k : Int) < (m : Int) + 1 := by omega
        have hk0 : (0 : Int) ≤ (k : Int) := by omega
        have hmi : (m : Int) ≤ 100 := by have := HOLm.out; omega
        have HI := Lib.hid hlt
        obtain ⟨u, hu⟩ : ∃ u, xs[k]'(by omega) = u := ⟨_, rfl⟩
        rw [hu] at q1
        clear hu hk hxs hlt
        go_wp2_with fail
        go_roundw
        case rel => exact ⟨k + 1, xs.set k (.int .u32 9), by have := HI.out; omega, by go_num, by rw [List.length_set]; exact XL.out, O9.out, K9.out⟩
        case measure => have := HI.out; simp [intOf]; omega
      · have hkn : ¬ ((k : Int) < (m : Int) + 1) := by omega
        clear hlt hk hxs
        go_wp2_with fail
        refine (SM.out _ KP.out).mono ?_
        rintro e w10 ⟨rfl, k10⟩
        go_wp2_with fail
        refine (WW.out _).mono ?_
        rintro e w11 ⟨rfl, k11⟩
        go_wp2_with fail
        go_ret
        exact ⟨rfl, keeps_trans K2.out (keeps_trans KP.out (keeps_trans k10 k11))⟩
end Go.Proofs.Ytdfaogagadoooaa
