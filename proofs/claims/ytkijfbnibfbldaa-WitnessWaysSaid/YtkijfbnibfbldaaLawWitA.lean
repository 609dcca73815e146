/- Layer 14's statements, WitnessWays: the vertices that edges name, and their places. -/
import Derived.Test.YtkijfbnibfbldaaLawWit2
import Derived.Test.YtkijfbnibfbldaaRefWeight
import Derived.Test.YtkijfbnibfbldaaNums
namespace Go.Proofs.Ytkijfbnibfbldaa
open Go.RowKit
set_option linter.unusedSimpArgs false
set_option linter.unusedVariables false
set_option maxRecDepth 100000

theorem idx_atW {v : Nat} : ∀ {l : List Nat} {k : Nat}, l[k]? = some v → v ∉ l.take k → l.idxOf v = k := by
  intro l
  induction l with
  | nil => intro k h; simp at h
  | cons a l ih =>
    intro k h hn
    cases k with
    | zero => simp only [List.getElem?_cons_zero, Option.some.injEq] at h; subst h; simp
    | succ k =>
      simp only [List.getElem?_cons_succ] at h
      simp only [List.take_succ_cons, List.mem_cons, not_or] at hn
      have hb : (a == v) = false := by simp only [beq_eq_false_iff_ne, ne_eq]; exact fun e => hn.1 e.symm
      rw [List.idxOf_cons, hb, ih h hn.2]
      rfl
set_option maxHeartbeats 4000000 in
theorem place_any (A : Option Addr) (n c : Nat) (l : List Nat) (v : Nat) (w : World) (hB : At w w.heap.size A (celU l)) (hn : n = l.length) (hm : n ≤ 1000) :
    Calls Try.prog 20 #[.slice A n c, .int .u32 (v : Int)] w fun e w' => e = .returned (.int .i64 (if v ∈ l then (l.idxOf v : Int) else -1)) ∧ Keeps w w' := by
  have HN := Lib.hid hn
  have HM := Lib.hid hm
  have HB := Lib.hid hB
  obtain ⟨pl, hpl⟩ : ∃ pl, (if v ∈ l then (l.idxOf v : Int) else -1) = pl := ⟨_, rfl⟩
  rw [hpl]
  have HPL := Lib.hid hpl
  clear hn hm hB hpl
  go_enter Try.func20, Try.ntmps20
  go_wp2_with fail
  go_loopw [5] (fun i wr => ∃ k : Nat, k ≤ l.length ∧ i = .int .i64 (k : Int) ∧ v ∉ l.take k ∧ Keeps w wr) (fun i _ => l.length - (intOf i).toNat)
  case atStart => exact ⟨0, by omega, rfl, by simp, keeps_refl _⟩
  case round =>
    obtain ⟨k, hk, rfl, hnot, hks⟩ := hrel
    have KS := Lib.hid hks
    have HB2 := Lib.hid ((HB.out.keep hks).more hks.size)
    clear hks
    by_cases hkl : k < l.length
    · obtain ⟨ad, hA, -, hc⟩ := At.get HB2.out (k := k) (by rw [celU_len]; exact hkl)
      subst hA
      obtain ⟨y, hy⟩ : ∃ y, l[k]? = some y := ⟨_, List.getElem?_eq_getElem hkl⟩
      have hx := celU_get l hy
      rw [hx] at hc
      have hkn : (k : Int) < (n : Int) := by have := HN.out; omega
      have hk0 : (0 : Int) ≤ (k : Int) := by omega
      have hkm : (k : Int) < 1001 := by have := HM.out; omega
      have HK := Lib.hid hkl
      have HNOT := Lib.hid hnot
      have HG := Lib.hid hy
      clear hx hy
      by_cases hv : v = y
      · subst hv
        have HIX := Lib.hid (show (if v ∈ l then (l.idxOf v : Int) else -1) = (k : Int) from by
          rw [if_pos (List.mem_of_getElem? HG.out), idx_atW HG.out hnot])
        rw [HPL.out] at HIX
        clear hkl hk hnot hkm HM
        go_wp2_with fail
        go_ret
        exact ⟨by rw [HIX.out]; rfl, KS.out⟩
      · have HV := Lib.hid hv
        have h4 : ((y : Int) == (v : Int)) = false := by simp only [beq_eq_false_iff_ne, ne_eq, Int.natCast_inj]; exact fun e => hv e.symm
        clear hkl hk hnot hv
        go_wp2_with fail
        go_roundw
        case rel =>
          refine ⟨k + 1, by have := HK.out; omega, by go_num, ?_, KS.out⟩
          rw [List.take_add_one, HG.out]
          simp only [Option.toList_some, List.mem_append, List.mem_singleton, not_or]
          exact ⟨HNOT.out, HV.out⟩
        case measure => have := HK.out; simp [intOf]; omega
    · have hkn : ¬ ((k : Int) < (n : Int)) := by have := HN.out; omega
      have HK := Lib.hid (show k = l.length by omega)
      have HNOT := Lib.hid hnot
      clear hk hkl hnot
      go_wp2_with fail
      go_ret
      refine ⟨?_, KS.out⟩
      have h := HNOT.out
      rw [HK.out, List.take_length] at h
      rw [← HPL.out, if_neg h]
      rfl
theorem own_newV (w : World) (e : TypeId) (xs : List Value) (hn : xs.length ≤ 1000 := by decide) : Own (w.alloc (.cells xs.toArray e)) w.heap.size e 1 (.slice (some ⟨w.heap.size, 0, none⟩) xs.length xs.length) xs.length xs :=
  ⟨by simp, .inr ⟨w.heap.size, xs.length, xs.toArray, (0, 0), rfl, Nat.le_refl _, heap_alloc_new w _, .inl rfl, Nat.le_refl _, by unfold maxLen; omega, by simp, by simp⟩⟩
/-- the i-th vertex that edges name -/
def vtAt (l : List Ed) (i : Nat) : Nat := match l[i / 2]? with
  | some e => if i % 2 = 1 then e.h else e.t
  | none => 0
structure VertsV (l : List Ed) (fr : Nat) (i : Nat) (all : List Nat) : Prop where
  fr : fr ∈ all
  mem : ∀ j, j < i → vtAt l j ∈ all
  len : all.length ≤ i + 1
  ok : ∀ v ∈ all, v < 4294967296
theorem VertsV.ends {l : List Ed} {fr : Nat} {all : List Nat} (h : VertsV l fr (2 * l.length) all) : ∀ e ∈ l, e.t ∈ all ∧ e.h ∈ all := by
  intro e he
  obtain ⟨k, hk⟩ := List.getElem?_of_mem he
  have hl := (List.getElem?_eq_some_iff.1 hk).1
  have h1 := h.mem (2 * k) (by omega)
  have h2 := h.mem (2 * k + 1) (by omega)
  unfold vtAt at h1 h2
  rw [show 2 * k / 2 = k by omega, hk] at h1
  rw [show (2 * k + 1) / 2 = k by omega, hk] at h2
  simp only at h1 h2
  rw [if_neg (by omega)] at h1
  rw [if_pos (by omega)] at h2
  exact ⟨h1, h2⟩
set_option maxHeartbeats 16000000 in
theorem vertices_any (A : Option Addr) (n c : Nat) (l : List Ed) (fr : Nat) (hfr : fr < 4294967296) (w : World) (hA : At w w.heap.size A (edsC l)) (hn : n = l.length) (hm : n ≤ 100) (hok : ∀ e ∈ l, EdOk e) :
    Calls Try.prog 18 #[.slice A n c, .int .u32 (fr : Int)] w fun e w' => ∃ sv all, e = .returned sv ∧ Own w' w.heap.size 26 1 sv all.length (celU all) ∧ VertsV l fr (2 * l.length) all ∧ Keeps w w' := by
  obtain ⟨i0, hi, hz0, hz1, hz2⟩ := info_parts info_u32w
  have HN := Lib.hid hn
  have HA := Lib.hid hA
  have HOK := Lib.hid hok
  have hni : (n : Int) ≤ 100 := by omega
  have O0 := Lib.hid (own_newV w 26 [.int .u32 (fr : Int)] (by simp))
  have K0 := Lib.hid (keeps_alloc w (.cells #[.int .u32 (fr : Int)] 26))
  have V0 := Lib.hid (show VertsV l fr 0 [fr] from ⟨by simp, fun j hj => by omega, by simp, by simp [hfr]⟩)
  clear hn hA hok hfr
  go_enter Try.func18, Try.ntmps18
  go_wp2_with fail
  go_loopw [5, 6] (fun u t wr => ∃ (i : Nat) (all : List Nat), i ≤ 2 * n ∧ t = .int .i64 (i : Int) ∧ Own wr w.heap.size 26 1 u all.length (celU all) ∧ VertsV l fr i all ∧ Keeps w wr) (fun _ t _ => 2 * n - (intOf t).toNat)
  case atStart => exact ⟨0, [fr], Nat.zero_le _, rfl, O0.out, V0.out, K0.out⟩
  case round =>
    obtain ⟨i, all, hil, rfl, hO, hV, hks⟩ := hrel
    have HO := Lib.hid hO
    have HV := Lib.hid hV
    have KS := Lib.hid hks
    obtain ⟨Au, cu, rfl, -, -, -, -⟩ := hO.form
    clear hO hV hks
    by_cases hlt : i < 2 * n
    · obtain ⟨q, hq⟩ : ∃ q, i / 2 = q := ⟨_, rfl⟩
      have hqd : (i : Int).tdiv 2 = (q : Int) := by rw [Int.tdiv_eq_ediv_of_nonneg (by omega)]; omega
      obtain ⟨e, he⟩ : ∃ e, l[q]? = some e := ⟨_, List.getElem?_eq_getElem (by have := HN.out; omega)⟩
      obtain ⟨ad, hAd, -, hE⟩ := eds_at HA.out he
      subst hAd
      obtain ⟨a0, a1, -, -⟩ := hE.keep KS.out
      have okx := HOK.out e (List.mem_of_getElem? he)
      have i1 : (i : Int) < 2 * (n : Int) := by omega
      have i2 : (i : Int) < 200 := by omega
      have q1 : (q : Int) < (n : Int) := by omega
      have q0 : (0 : Int) ≤ (q : Int) := by omega
      obtain ⟨vv, hvv⟩ : ∃ vv, vtAt l i = vv := ⟨_, rfl⟩
      have HVV := Lib.hid hvv
      have hvo : vv < 4294967296 := by
        rw [← hvv]
        unfold vtAt
        rw [hq, he]
        simp only
        split
        · exact okx.h
        · exact okx.t
      have HVO := Lib.hid hvo
      have HLT := Lib.hid hlt
      by_cases hpar : i % 2 = 1
      · have p1 : (i : Int).tmod 2 = 1 := by rw [Int.tmod_eq_emod_of_nonneg (by omega)]; omega
        have hve : e.h = vv := by rw [← hvv]; unfold vtAt; rw [hq, he]; simp only; rw [if_pos hpar]
        rw [hve] at a1
        clear hq he hE okx hvv hvo hpar hil hlt hve
        go_wp2_with fail
        go_loopw [8, 9] (fun th t wx => ∃ k : Nat, k ≤ all.length ∧ t = .int .i64 (k : Int) ∧ th = .bool (decide (vv ∈ all.take k)) ∧ Keeps wr wx) (fun _ t _ => all.length - (intOf t).toNat)
        case atStart => exact ⟨0, Nat.zero_le _, rfl, by simp, keeps_refl _⟩
        case round =>
          obtain ⟨k, hk, rfl, rfl, hks⟩ := hrel
          have KX := Lib.hid hks
          have al2 : (all.length : Int) ≤ 201 := by have := HV.out.len; omega
          by_cases hkl : k < all.length
          · obtain ⟨g', hg', q0', -⟩ := (HO.out.keep hks).cell (j := k) (by rw [celU_len]; exact hkl)
            obtain ⟨y, hy⟩ : ∃ y, all[k]? = some y := ⟨_, List.getElem?_eq_getElem hkl⟩
            rw [celU_get all hy] at q0'
            subst hg'
            have k1 : (k : Int) < (all.length : Int) := by omega
            have HKL := Lib.hid hkl
            have NXT := Lib.hid (show decide (vv ∈ all.take (k + 1)) = (decide (vv ∈ all.take k) || decide (y = vv)) from by
              rw [List.take_add_one, hy, Option.toList_some]
              simp only [List.mem_append, List.mem_singleton, Bool.decide_or]
              congr 1
              by_cases h : vv = y <;> simp [h]
              exact fun e => h e.symm)
            obtain ⟨tb, htb⟩ : ∃ tb, decide (vv ∈ all.take k) = tb := ⟨_, rfl⟩
            rw [htb] at NXT ⊢
            clear hk hkl hks hy htb
            cases tb with
            | true =>
              go_wp2_with fail
              go_roundw
              case rel => exact ⟨k + 1, by have := HKL.out; omega, by go_num, by rw [NXT.out]; rfl, KX.out⟩
              case measure => have := HKL.out; simp [intOf]; omega
            | false =>
              by_cases hyv : y = vv
              · subst hyv
                rw [decide_eq_true rfl] at NXT
                go_wp2_with fail
                go_roundw
                case rel => exact ⟨k + 1, by have := HKL.out; omega, by go_num, by rw [NXT.out]; simp, KX.out⟩
                case measure => have := HKL.out; simp [intOf]; omega
              · rw [decide_eq_false hyv] at NXT
                have n1 : ((y : Int) == (vv : Int)) = false := by simp only [beq_eq_false_iff_ne, ne_eq, Int.natCast_inj]; exact hyv
                clear hyv
                go_wp2_with fail
                go_roundw
                case rel => exact ⟨k + 1, by have := HKL.out; omega, by go_num, by rw [NXT.out]; simp, KX.out⟩
                case measure => have := HKL.out; simp [intOf]; omega
          · have hkn : ¬ (k : Int) < (all.length : Int) := by omega
            have HKE := Lib.hid (show all.take k = all by rw [show k = all.length by omega, List.take_length])
            rw [HKE.out]
            clear hk hkl hks
            by_cases hin : vv ∈ all
            · have HIN := Lib.hid (show VertsV l fr (i + 1) all from ⟨HV.out.fr, fun j hj => by
                by_cases e : j = i
                · rw [e, HVV.out]; exact hin
                · exact HV.out.mem j (by omega), by have := HV.out.len; omega, HV.out.ok⟩)
              rw [decide_eq_true hin]
              clear hin
              go_wp2_with fail
              go_roundw
              case rel => exact ⟨i + 1, all, by have := HLT.out; omega, by go_num, HO.out.keep KX.out, HIN.out, keeps_trans KS.out KX.out⟩
              case measure => have := HLT.out; simp [intOf]; omega
            · have HIN := Lib.hid (show VertsV l fr (i + 1) (all ++ [vv]) from ⟨by simp [HV.out.fr], fun j hj => by
                by_cases e : j = i
                · rw [e, HVV.out]; simp
                · simp [HV.out.mem j (by omega)], by have := HV.out.len; simp; omega, fun x hx => by
                rcases List.mem_append.1 hx with hx | hx
                · exact HV.out.ok x hx
                · rw [List.mem_singleton] at hx; rw [hx]; exact HVO.out⟩)
              rw [decide_eq_false hin]
              have HOX := Lib.hid (HO.out.keep KX.out)
              have AL := Lib.hid (show all.length ≤ 201 by have := HV.out.len; have := HLT.out; omega)
              clear hin
              go_wp2_with (at_builtin; refine wpList_app _ rfl _ _ 23 rfl w.heap.size 26 i0 (.int .u32 0) 1 4 Try.underlying23 hi hz0 hz1 hz2 rfl (by decide) _ all.length (celU all) rfl (HOX.out.keep (keeps_alloc _ _)) _ _ 1 1 [.int .u32 (vv : Int)] rfl rfl (At.new _ _ _ _ (Nat.lt_succ_self _)) (by intro u hu; simp at hu; subst hu; rfl) (by have := AL.out; unfold maxLen; omega) (by have := AL.out; omega) (keeps_trans (keeps_trans KS.out KX.out) (keeps_alloc _ _)).size ?_)
              intro v8 w8 o8 g8 b8
              have kA := keeps_trans (keeps_trans KS.out KX.out) (keeps_alloc wr (.cells #[.int .u32 (vv : Int)] 26))
              have k8 : Keeps w w8 := Below.grown kA g8 kA.size (fun g hg => (HO.out.lt g hg).1)
              have O8 := Lib.hid (show Own w8 w.heap.size 26 1 v8 (all ++ [vv]).length (celU (all ++ [vv])) by
                have : celU (all ++ [vv]) = celU all ++ [.int .u32 (vv : Int)] := by simp [celU, u32V]
                rw [this, List.length_append, List.length_singleton]
                exact o8)
              clear o8 g8 b8
              go_wp2_with fail
              go_roundw
              case rel => exact ⟨i + 1, all ++ [vv], by have := HLT.out; omega, by go_num, O8.out, HIN.out, k8⟩
              case measure => have := HLT.out; simp [intOf]; omega
      · have p1 : (i : Int).tmod 2 = 0 := by rw [Int.tmod_eq_emod_of_nonneg (by omega)]; omega
        have hve : e.t = vv := by rw [← hvv]; unfold vtAt; rw [hq, he]; simp only; rw [if_neg hpar]
        rw [hve] at a0
        clear hq he hE okx hvv hvo hpar hil hlt hve
        go_wp2_with fail
        go_loopw [8, 9] (fun th t wx => ∃ k : Nat, k ≤ all.length ∧ t = .int .i64 (k : Int) ∧ th = .bool (decide (vv ∈ all.take k)) ∧ Keeps wr wx) (fun _ t _ => all.length - (intOf t).toNat)
        case atStart => exact ⟨0, Nat.zero_le _, rfl, by simp, keeps_refl _⟩
        case round =>
          obtain ⟨k, hk, rfl, rfl, hks⟩ := hrel
          have KX := Lib.hid hks
          have al2 : (all.length : Int) ≤ 201 := by have := HV.out.len; omega
          by_cases hkl : k < all.length
          · obtain ⟨g', hg', q0', -⟩ := (HO.out.keep hks).cell (j := k) (by rw [celU_len]; exact hkl)
            obtain ⟨y, hy⟩ : ∃ y, all[k]? = some y := ⟨_, List.getElem?_eq_getElem hkl⟩
            rw [celU_get all hy] at q0'
            subst hg'
            have k1 : (k : Int) < (all.length : Int) := by omega
            have HKL := Lib.hid hkl
            have NXT := Lib.hid (show decide (vv ∈ all.take (k + 1)) = (decide (vv ∈ all.take k) || decide (y = vv)) from by
              rw [List.take_add_one, hy, Option.toList_some]
              simp only [List.mem_append, List.mem_singleton, Bool.decide_or]
              congr 1
              by_cases h : vv = y <;> simp [h]
              exact fun e => h e.symm)
            obtain ⟨tb, htb⟩ : ∃ tb, decide (vv ∈ all.take k) = tb := ⟨_, rfl⟩
            rw [htb] at NXT ⊢
            clear hk hkl hks hy htb
            cases tb with
            | true =>
              go_wp2_with fail
              go_roundw
              case rel => exact ⟨k + 1, by have := HKL.out; omega, by go_num, by rw [NXT.out]; rfl, KX.out⟩
              case measure => have := HKL.out; simp [intOf]; omega
            | false =>
              by_cases hyv : y = vv
              · subst hyv
                rw [decide_eq_true rfl] at NXT
                go_wp2_with fail
                go_roundw
                case rel => exact ⟨k + 1, by have := HKL.out; omega, by go_num, by rw [NXT.out]; simp, KX.out⟩
                case measure => have := HKL.out; simp [intOf]; omega
              · rw [decide_eq_false hyv] at NXT
                have n1 : ((y : Int) == (vv : Int)) = false := by simp only [beq_eq_false_iff_ne, ne_eq, Int.natCast_inj]; exact hyv
                clear hyv
                go_wp2_with fail
                go_roundw
                case rel => exact ⟨k + 1, by have := HKL.out; omega, by go_num, by rw [NXT.out]; simp, KX.out⟩
                case measure => have := HKL.out; simp [intOf]; omega
          · have hkn : ¬ (k : Int) < (all.length : Int) := by omega
            have HKE := Lib.hid (show all.take k = all by rw [show k = all.length by omega, List.take_length])
            rw [HKE.out]
            clear hk hkl hks
            by_cases hin : vv ∈ all
            · have HIN := Lib.hid (show VertsV l fr (i + 1) all from ⟨HV.out.fr, fun j hj => by
                by_cases e : j = i
                · rw [e, HVV.out]; exact hin
                · exact HV.out.mem j (by omega), by have := HV.out.len; omega, HV.out.ok⟩)
              rw [decide_eq_true hin]
              clear hin
              go_wp2_with fail
              go_roundw
              case rel => exact ⟨i + 1, all, by have := HLT.out; omega, by go_num, HO.out.keep KX.out, HIN.out, keeps_trans KS.out KX.out⟩
              case measure => have := HLT.out; simp [intOf]; omega
            · have HIN := Lib.hid (show VertsV l fr (i + 1) (all ++ [vv]) from ⟨by simp [HV.out.fr], fun j hj => by
                by_cases e : j = i
                · rw [e, HVV.out]; simp
                · simp [HV.out.mem j (by omega)], by have := HV.out.len; simp; omega, fun x hx => by
                rcases List.mem_append.1 hx with hx | hx
                · exact HV.out.ok x hx
                · rw [List.mem_singleton] at hx; rw [hx]; exact HVO.out⟩)
              rw [decide_eq_false hin]
              have HOX := Lib.hid (HO.out.keep KX.out)
              have AL := Lib.hid (show all.length ≤ 201 by have := HV.out.len; have := HLT.out; omega)
              clear hin
              go_wp2_with (at_builtin; refine wpList_app _ rfl _ _ 23 rfl w.heap.size 26 i0 (.int .u32 0) 1 4 Try.underlying23 hi hz0 hz1 hz2 rfl (by decide) _ all.length (celU all) rfl (HOX.out.keep (keeps_alloc _ _)) _ _ 1 1 [.int .u32 (vv : Int)] rfl rfl (At.new _ _ _ _ (Nat.lt_succ_self _)) (by intro u hu; simp at hu; subst hu; rfl) (by have := AL.out; unfold maxLen; omega) (by have := AL.out; omega) (keeps_trans (keeps_trans KS.out KX.out) (keeps_alloc _ _)).size ?_)
              intro v8 w8 o8 g8 b8
              have kA := keeps_trans (keeps_trans KS.out KX.out) (keeps_alloc wr (.cells #[.int .u32 (vv : Int)] 26))
              have k8 : Keeps w w8 := Below.grown kA g8 kA.size (fun g hg => (HO.out.lt g hg).1)
              have O8 := Lib.hid (show Own w8 w.heap.size 26 1 v8 (all ++ [vv]).length (celU (all ++ [vv])) by
                have : celU (all ++ [vv]) = celU all ++ [.int .u32 (vv : Int)] := by simp [celU, u32V]
                rw [this, List.length_append, List.length_singleton]
                exact o8)
              clear o8 g8 b8
              go_wp2_with fail
              go_roundw
              case rel => exact ⟨i + 1, all ++ [vv], by have := HLT.out; omega, by go_num, O8.out, HIN.out, k8⟩
              case measure => have := HLT.out; simp [intOf]; omega
    · obtain rfl : i = 2 * n := by omega
      have i1 : ¬ ((2 * n : Nat) : Int) < 2 * (n : Int) := by omega
      clear hil hlt
      go_wp2_with fail
      go_ret
      exact ⟨_, rfl, all, HO.out, by rw [← HN.out]; exact HV.out, KS.out⟩
end Go.Proofs.Ytkijfbnibfbldaa
