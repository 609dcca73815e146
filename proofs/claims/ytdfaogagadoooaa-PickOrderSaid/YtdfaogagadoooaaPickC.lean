/- Chapter 16: the reference's rising and Pick. -/
import Derived.Test.YtdfaogagadoooaaPickB
namespace Go.Proofs.Ytdfaogagadoooaa
open Go.RowKit
set_option linter.unusedSimpArgs false
set_option linter.unusedVariables false
set_option maxRecDepth 100000

theorem putU_at {v : Nat} : ∀ {L : List Nat} {k : Nat}, L.Pairwise (· < ·) → (∀ y ∈ L.drop k, v < y) → (k = 0 ∨ ∃ y, L[k - 1]? = some y ∧ ¬ v < y) → L.take k ++ v :: L.drop k = putU v L := by
  intro L
  induction L with
  | nil => intro k _ _ _; simp [putU]
  | cons x L ih =>
    intro k hp hd hk
    rw [List.pairwise_cons] at hp
    rcases k with _ | k
    · have : v < x := hd x (by simp)
      simp [putU, this]
    · obtain ⟨y, hy, hny⟩ : ∃ y, (x :: L)[k]? = some y ∧ ¬ v < y := by
        rcases hk with h | ⟨y, h, h'⟩
        · omega
        · exact ⟨y, h, h'⟩
      have hx : ¬ x > v := by
        rcases k with _ | k
        · simp only [List.getElem?_cons_zero, Option.some.injEq] at hy
          omega
        · simp only [List.getElem?_cons_succ] at hy
          have := hp.1 y (List.mem_of_getElem? hy)
          omega
      simp only [List.take_succ_cons, List.drop_succ_cons, List.cons_append, putU, if_neg hx]
      rw [ih hp.2 (by simpa using hd)]
      rcases k with _ | k
      · exact .inl rfl
      · exact .inr ⟨y, by simpa using hy, hny⟩
theorem swap_down {L : List Nat} {k v x : Nat} (hx : L[k]? = some x) : (((celU (L.take (k + 1) ++ v :: L.drop (k + 1))).set (k + 1) (u32V x)).set k (u32V v)) = celU (L.take k ++ v :: L.drop k) := by
  have hk : k < L.length := (List.getElem?_eq_some_iff.1 hx).1
  have e1 : L.take (k + 1) = L.take k ++ [x] := by rw [List.take_add_one, hx]; rfl
  have e2 : L.drop k = x :: L.drop (k + 1) := by
    rw [← (List.getElem?_eq_some_iff.1 hx).2]
    exact List.drop_eq_getElem_cons hk
  rw [e1, e2]
  have hl : (celU (L.take k)).length = k := by rw [celU_len, List.length_take]; omega
  simp only [celU, List.map_append, List.map_cons, List.map_nil, List.append_assoc, List.cons_append, List.nil_append] at hl ⊢
  rw [List.set_append_right _ _ (by omega), hl, show k + 1 - k = 1 by omega]
  rw [List.set_append_right _ _ (by omega), hl, Nat.sub_self]
  rfl

set_option maxHeartbeats 16000000 in
theorem rising16_any (v0 : Value) (L : List Nat) (v : Nat) (w0 w : World) (h0 : Keeps w0 w) (hO : Own w w0.heap.size 30 1 v0 L.length (celU L)) (hm : L.length ≤ 1000) (hs : L.Pairwise (· < ·)) :
    Calls Try.prog 25 #[v0, .int .u32 (v : Int)] w fun e w' => ∃ v', e = .returned v' ∧ Own w' w0.heap.size 30 1 v' (L.length + 1) (celU (putU v L)) ∧ Keeps w0 w' := by
  obtain ⟨i0, hi, hz0, hz1, hz2⟩ := info_partsU info_u32P
  have HO := Lib.hid hO
  have HK := Lib.hid h0
  have HS := Lib.hid hs
  obtain ⟨Ao, co, rfl, hco, -, -, -⟩ := hO.form
  obtain ⟨n, hn⟩ : ∃ n, L.length = n := ⟨_, rfl⟩
  rw [hn] at HO hco hm ⊢
  have HN := Lib.hid hn
  have AT := Lib.hid (show ∀ W : World, At (W.alloc (.cells #[.int .u32 (v : Int)] 30)) (W.alloc (.cells #[.int .u32 (v : Int)] 30)).heap.size (some ⟨W.heap.size, 0, none⟩) (celU [v]) from fun W => At.new _ _ _ _ (by simp))
  clear hO h0 hs hn
  go_enter Try.func25, Try.ntmps25
  go_wp2_with (at_builtin; refine wpList_app _ rfl _ _ 26 rfl w0.heap.size 30 i0 (.int .u32 0) 1 4 Try.underlying26 hi hz0 hz1 hz2 rfl (by decide) _ n (celU L) rfl ((HO.out).keep (keeps_alloc _ _)) _ _ 1 1 (celU [v]) rfl rfl (AT.out _) (celU_one _) (by unfold maxLen; omega) (by omega) (keeps_trans HK.out (keeps_alloc _ _)).size ?_)
  intro v8 w8 o8 g8 b8
  have kA := keeps_trans HK.out (keeps_alloc w (.cells #[.int .u32 (v : Int)] 30))
  have k8 : Keeps w0 w8 := Below.grown kA g8 kA.size (fun g hg => (HO.out.lt g hg).1)
  obtain ⟨A8, c8, rfl, hc8, -, -, -⟩ := o8.form
  have O8 := Lib.hid (show Own w8 w0.heap.size 30 1 (.slice A8 (n + 1) c8) (n + 1) (celU (L.take n ++ v :: L.drop n)) by
    rw [List.take_of_length_le (by have := HN.out; omega), List.drop_eq_nil_of_le (by have := HN.out; omega)]
    simpa [celU] using o8)
  have K8 := Lib.hid k8
  clear o8 g8 b8 kA k8 HO HK AT
  go_wp2_with fail
  go_loopw [5] (fun i wr => ∃ k : Nat, k ≤ n ∧ i = .int .i64 k ∧ Own wr w0.heap.size 30 1 (.slice A8 (n + 1) c8) (n + 1) (celU (L.take k ++ v :: L.drop k)) ∧ (∀ y ∈ L.drop k, v < y) ∧ Keeps w0 wr) (fun i _ => (intOf i).toNat)
  case atStart => exact ⟨n, Nat.le_refl _, rfl, O8.out, by rw [List.drop_eq_nil_of_le (by have := HN.out; omega)]; simp, K8.out⟩
  case round =>
    obtain ⟨k, hk, rfl, hOr, hdr, hkp⟩ := hrel
    have OR := Lib.hid hOr
    have DR := Lib.hid hdr
    have KP := Lib.hid hkp
    clear hOr hdr hkp
    rcases k with _ | k
    · have RES := Lib.hid (putU_at HS.out DR.out (.inl rfl))
      go_wp2_with fail
      go_returns
      exact ⟨_, rfl, by rw [← RES.out]; exact OR.out, KP.out⟩
    · obtain ⟨x, hx⟩ : ∃ x, L[k]? = some x := ⟨_, List.getElem?_eq_getElem (by have := HN.out; omega)⟩
      obtain ⟨g, rfl, c1, f1, hbg⟩ := OR.out.cell (j := k) (by rw [celU_len]; simp; have := HN.out; omega)
      obtain ⟨g', e', c2, f2, -⟩ := OR.out.cell (j := k + 1) (by rw [celU_len]; simp; have := HN.out; omega)
      obtain rfl : g = g' := by injection e' with e'; injection e'
      have e1 : (celU (L.take (k + 1) ++ v :: L.drop (k + 1)))[k]? = some (.int .u32 (x : Int)) := by
        refine celU_get _ ?_
        rw [List.getElem?_append_left (by rw [List.length_take]; have := HN.out; omega), List.getElem?_take, if_pos (by omega), hx]
      have e2 : (celU (L.take (k + 1) ++ v :: L.drop (k + 1)))[k + 1]? = some (.int .u32 (v : Int)) := by
        refine celU_get _ ?_
        rw [List.getElem?_append_right (by rw [List.length_take]; omega), List.length_take, show k + 1 - min (k + 1) L.length = 0 by have := HN.out; omega]
        rfl
      rw [e1] at c1
      rw [e2] at c2
      have E1 := Lib.hid e1
      have HX := Lib.hid hx
      have hk1 : ((k + 1 : Nat) : Int) ≤ (n : Int) := by omega
      have hn1 : (n : Int) ≤ 1000 := by omega
      have ek : ((k + 1 : Nat) : Int) - 1 = (k : Int) := by omega
      have HKn := Lib.hid hk
      clear e1 e2 hx e' hk
      by_cases hv : v < x
      · have t1 : decide (v < x) = true := decide_eq_true hv
        have t2 : decide ((v : Int) < (x : Int)) = true := decide_eq_true (by omega)
        have HV := Lib.hid hv
        have O2 := Lib.hid (OR.out.store (j := k + 1) (by rw [celU_len]; simp; have := HN.out; omega) (u32V x))
        have O3 := Lib.hid (O2.out.store (j := k) (by rw [List.length_set, celU_len]; simp; have := HN.out; omega) (u32V v))
        obtain ⟨g3, e3, c3, f3, -⟩ := O2.out.cell (j := k) (by rw [List.length_set, celU_len]; simp; have := HN.out; omega)
        obtain rfl : g = g3 := by injection e3 with e3; injection e3
        rw [List.getElem?_set_ne (by omega), E1.out] at c3
        clear e3
        have K2 := Lib.hid ((KP.out.setCell (p := ⟨g, k + 1, none⟩) hbg (u32V x)).setCell (p := ⟨g, k, none⟩) hbg (u32V v))
        have SW := Lib.hid (swap_down (v := v) HX.out)
        have DN := Lib.hid (show ∀ y ∈ L.drop k, v < y from fun y hy => by
          rw [List.drop_eq_getElem_cons (by have := HN.out; omega)] at hy
          rcases List.mem_cons.1 hy with rfl | hy
          · rw [(List.getElem?_eq_some_iff.1 HX.out).2]; exact HV.out
          · exact DR.out y hy)
        unfold u32V at O2 O3 K2 f3 c3 SW
        clear hv
        go_wp2_with fail
        go_roundw
        case rel => exact ⟨k, by have := HKn.out; omega, by go_num, by rw [← SW.out]; exact O3.out, DN.out, K2.out⟩
        case measure => simp [intOf]
      · have t1 : decide (v < x) = false := decide_eq_false hv
        have t2 : decide ((v : Int) < (x : Int)) = false := decide_eq_false (by omega)
        have RES := Lib.hid (putU_at HS.out DR.out (.inr ⟨x, HX.out, hv⟩))
        clear hv
        go_wp2_with fail
        go_returns
        exact ⟨_, rfl, by rw [← RES.out]; exact OR.out, KP.out⟩
end Go.Proofs.Ytdfaogagadoooaa
