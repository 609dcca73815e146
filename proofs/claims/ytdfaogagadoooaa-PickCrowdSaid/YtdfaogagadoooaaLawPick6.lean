/- Layer 16's statements: PickCrowd. -/
import Derived.Test.YtdfaogagadoooaaLawPick5
namespace Go.Proofs.Ytdfaogagadoooaa
open Go.RowKit
set_option linter.unusedSimpArgs false
set_option linter.unusedVariables false
set_option maxRecDepth 100000

def crowdN (n : Nat) (told : Bool) (i k : Nat) : List Nat := (List.range k).filter fun j => told == decide (j < i)
def crowdX (ks : List Nat) (n : Nat) (told : Bool) (i : Nat) : Cn := ⟨i, ks.getD i 0, crowdN n told i n⟩
def crowdC (ks : List Nat) (n : Nat) (told : Bool) (k : Nat) : List Cn := (List.range k).map (crowdX ks n told)
theorem crowdC_next (ks : List Nat) (n : Nat) (told : Bool) (k : Nat) : crowdC ks n told (k + 1) = crowdC ks n told k ++ [crowdX ks n told k] := by simp [crowdC, List.range_succ]
theorem crowdN_next (n : Nat) (told : Bool) (i k : Nat) : crowdN n told i (k + 1) = if (told == decide (k < i)) = true then crowdN n told i k ++ [k] else crowdN n told i k := by
  simp only [crowdN, List.range_succ, List.filter_append]
  by_cases h : (told == decide (k < i)) = true
  · rw [if_pos h]; simp [h]
  · rw [if_neg h]; simp [h]
theorem crowdN_len (n : Nat) (told : Bool) (i k : Nat) : (crowdN n told i k).length ≤ k := by
  have := List.length_filter_le (fun j => told == decide (j < i)) (List.range k)
  rw [List.length_range] at this
  exact this
theorem crowdN_mem {n : Nat} {told : Bool} {i k j : Nat} : j ∈ crowdN n told i k ↔ j < k ∧ (told == decide (j < i)) = true := by simp [crowdN]
/-- the best of the first ones -/
def BestC (ks : List Nat) (b k : Nat) : Prop := ∀ j, j < k → ks.getD b 0 < ks.getD j 0 ∨ (ks.getD b 0 = ks.getD j 0 ∧ b ≤ j)
theorem crowd_near {ks : List Nat} {n : Nat} {told : Bool} {i j : Nat} (hi : i < n) (hj : j < n) (h : i ≠ j) : nearC (crowdX ks n told i) (crowdX ks n told j) = true := by
  simp only [nearC, crowdX, Bool.or_eq_true, decide_eq_true_eq, crowdN_mem]
  cases told
  · rcases Nat.lt_or_gt_of_ne h with h | h
    · left; exact ⟨hj, by simp; omega⟩
    · right; exact ⟨hi, by simp; omega⟩
  · rcases Nat.lt_or_gt_of_ne h with h | h
    · right; exact ⟨hi, by simp [h]⟩
    · left; exact ⟨hj, by simp [h]⟩
theorem crowd_pick {ks : List Nat} {n : Nat} {told : Bool} {b : Nat} (hb : b < n) (h : BestC ks b n) : IsPick (crowdC ks n told n) [b] := by
  have ho : onceC (crowdC ks n told n) = crowdC ks n told n := by
    refine onceC_self ?_
    rw [crowdC, List.map_map, List.Nodup, List.pairwise_map]
    exact List.pairwise_lt_range.imp fun {a c} hac => by simp only [Function.comp_apply, crowdX]; omega
  refine ⟨by simp, fun v => ?_⟩
  rw [ho, List.mem_singleton]
  constructor
  · rintro rfl
    have hm : crowdX ks n told v ∈ crowdC ks n told n := List.mem_map_of_mem (List.mem_range.2 hb)
    refine ⟨_, hm, rfl, firstC_iff.2 fun y hy hv _ => ?_⟩
    obtain ⟨j, hj, rfl⟩ := List.mem_map.1 hy
    have := h j (List.mem_range.1 hj)
    rw [aheadC_iff]
    simp only [crowdX] at hv ⊢
    omega
  · rintro ⟨x, hx, rfl, hf⟩
    obtain ⟨i, hi, rfl⟩ := List.mem_map.1 hx
    rw [List.mem_range] at hi
    rw [firstC_iff] at hf
    by_cases he : i = b
    · exact he
    · exfalso
      have h1 := hf (crowdX ks n told b) (List.mem_map_of_mem (List.mem_range.2 hb)) (by simp only [crowdX]; omega) (crowd_near hi hb he)
      have h2 := h i hi
      rw [aheadC_iff] at h1
      simp only [crowdX] at h1
      omega
theorem best_next {ks : List Nat} {b k : Nat} (h : BestC ks b k) (hbk : b ≤ k) : (ks.getD k 0 < ks.getD b 0 → BestC ks k (k + 1)) ∧ (¬ ks.getD k 0 < ks.getD b 0 → BestC ks b (k + 1)) := by
  constructor
  · intro hlt j hj
    rcases Nat.lt_or_ge j k with h' | h'
    · have := h j h'
      omega
    · obtain rfl : j = k := by omega
      exact .inr ⟨rfl, Nat.le_refl _⟩
  · intro hlt j hj
    rcases Nat.lt_or_ge j k with h' | h'
    · exact h j h'
    · obtain rfl : j = k := by omega
      omega

set_option maxHeartbeats 16000000 in
theorem crowd16_walk (K : PickOk) (A : Option Addr) (n c : Nat) (ks : List Nat) (told : Bool) (w : World) (hk : At w w.heap.size A (u64s ks)) (hn : n = ks.length) (hok : ∀ x ∈ ks, x < 18446744073709551616) :
    Calls Try.prog 7 #[.slice A n c, .bool told] w (Yes w) := by
  obtain ⟨i0, hi, hz0, hz1, hz2⟩ := info_partsU info_cand
  obtain ⟨j0, hj, hy0, hy1, hy2⟩ := info_partsU info_u32P
  have WW := Lib.hid (works16 K)
  have HK := Lib.hid hk
  have HN := Lib.hid hn
  have HOK := Lib.hid hok
  have PK := Lib.hid K
  clear hk hn hok K
  by_cases h40 : 40 < n
  · have t1 : decide ((40 : Int) < (n : Int)) = true := decide_eq_true (by omega)
    clear h40
    go_enter Try.func7, Try.ntmps7
    go_wp2_with fail
    refine (WW.out _).mono ?_
    rintro e w9 ⟨rfl, k9⟩
    go_wp2_with fail
    go_ret
    exact ⟨rfl, k9⟩
  · have t1 : decide ((40 : Int) < (n : Int)) = false := decide_eq_false (by omega)
    have HNM := Lib.hid (show n ≤ 40 by omega)
    clear h40
    by_cases hz : n = 0
    · subst hz
      go_enter Try.func7, Try.ntmps7
      go_wp2_with fail
      refine (WW.out _).mono ?_
      rintro e w9 ⟨rfl, k9⟩
      go_wp2_with fail
      go_ret
      exact ⟨rfl, k9⟩
    · have hnm : (n : Int) ≤ 40 := by have := HNM.out; omega
      have t2 : ((n : Int) == 0) = false := by simp; omega
      have HP0 := Lib.hid (show 0 < n by omega)
      clear hz
      go_enter Try.func7, Try.ntmps7
      go_wp2_with fail
      go_loopw [5, 6, 7] (fun u bv q wr => ∃ (i b : Nat) (l' : List Cd), i ≤ n ∧ q = .int .i64 i ∧ bv = .int .i64 b ∧ b < n ∧ b ≤ i ∧ BestC ks b i ∧ l'.map Cd.n = crowdC ks n told i ∧ Own wr w.heap.size 33 3 u l'.length (cdsC l') ∧ (∀ x ∈ l', CdOwn wr w.heap.size x) ∧ Keeps w wr) (fun _ _ q _ => n - (intOf q).toNat)
      case atStart => exact ⟨0, 0, [], Nat.zero_le _, rfl, rfl, HP0.out, Nat.le_refl _, fun j hj => by omega, rfl, Own.nil _ _ _ _, by simp, keeps_refl _⟩
      case round =>
        obtain ⟨i, b, l', hi2, rfl, rfl, hbn, hbi, hbest, hmap, hO, hall, hkp⟩ := hrel
        have HO := Lib.hid hO
        have HKP := Lib.hid hkp
        have HP := Lib.hid hmap
        have HA := Lib.hid hall
        have BE := Lib.hid hbest
        have BI := Lib.hid hbi
        have BN := Lib.hid hbn
        have LL := Lib.hid (show l'.length = i by
          have h1 := congrArg List.length hmap
          rw [List.length_map, crowdC, List.length_map, List.length_range] at h1
          exact h1)
        obtain ⟨Ao, co, rfl, hco, hcm, -, -⟩ := hO.form
        clear hO hkp hmap hall hbest
        by_cases hlt : i < n
        · obtain ⟨ad, hA, c1⟩ := u64s_at HK.out (k := i) (by have := HN.out; omega)
          obtain ⟨ad', hA', c2⟩ := u64s_at HK.out (k := b) (by have := HN.out; omega)
          subst hA
          obtain rfl := Option.some.inj hA'
          have CK1 := Lib.hid c1
          have CK2 := Lib.hid c2
          replace c1 := HKP.out.cellOf c1
          have BNX := Lib.hid (best_next BE.out BI.out)
          have LX := Lib.hid (show crowdX ks n told i = ⟨i, ks.getD i 0, crowdN n told i n⟩ from rfl)
          obtain ⟨key, hkey⟩ : ∃ key, ks.getD i 0 = key := ⟨_, rfl⟩
          obtain ⟨kb, hkb⟩ : ∃ kb, ks.getD b 0 = kb := ⟨_, rfl⟩
          rw [hkey] at c1 CK1 BNX LX
          rw [hkb] at CK2 BNX
          have KB := Lib.hid (show key < 18446744073709551616 by
            rw [← hkey]
            refine HOK.out _ ?_
            have : i < ks.length := by have := HN.out; omega
            simp [List.getD, this])
          have hkn : (i : Int) < (n : Int) := by omega
          have hk0 : (0 : Int) ≤ (i : Int) := by omega
          have hb0 : (0 : Int) ≤ (b : Int) := by omega
          have hbm : (b : Int) < (n : Int) := by omega
          have HI := Lib.hid hlt
          obtain ⟨m, hml⟩ : ∃ m, l'.length = m := ⟨_, rfl⟩
          rw [hml] at HO LL hco ⊢
          have HML := Lib.hid hml
          have BX := Lib.hid (Box.new wr 33 #[.int .u32 (i : Int), .int .u64 (key : Int), .slice none 0 0])
          have kB := keeps_alloc wr (.cells #[.int .u32 (i : Int), .int .u64 (key : Int), .slice none 0 0] 33)
          have KB0 := Lib.hid kB
          clear hkey hkb hlt hi2 hml hA' c2 kB hbn hbi
          go_wp2_with fail
          generalize wr.alloc (.cells #[.int .u32 (i : Int), .int .u64 (key : Int), .slice none 0 0] 33) = W0 at *
          obtain ⟨wb, hwb⟩ : ∃ wb, wb = wr := ⟨_, rfl⟩
          subst hwb
          go_loopw [9] (fun q wx => ∃ (k : Nat) (A6 : Option Addr) (q6 c6 : Nat), k ≤ n ∧ q = .int .i64 k ∧ q6 = (crowdN n told i k).length ∧ Own wx wb.heap.size 30 1 (.slice A6 q6 c6) q6 (celU (crowdN n told i k)) ∧ Value.ownBlock (.slice A6 q6 c6) ≠ some wb.heap.size ∧ Box wx wb.heap.size 33 #[.int .u32 (i : Int), .int .u64 (key : Int), .slice A6 q6 c6] ∧ Keeps wb wx) (fun q _ => n - (intOf q).toNat)
          case atStart => exact ⟨0, none, 0, 0, Nat.zero_le _, rfl, rfl, Own.nil _ _ _ _, by simp [Value.ownBlock], BX.out, KB0.out⟩
          case round =>
            obtain ⟨k, A6, q6, c6, hkn2, rfl, hq6, hO6, hne6, hB6, hK6⟩ := hrel
            have O6 := Lib.hid hO6
            have NE6 := Lib.hid hne6
            have B6 := Lib.hid hB6
            have K6 := Lib.hid hK6
            have Q6 := Lib.hid hq6
            have QL := Lib.hid (show q6 ≤ 40 by rw [hq6]; have := crowdN_len n told i k; have := HNM.out; omega)
            have x0 : wr.cell? ⟨wb.heap.size, 0, none⟩ = some (.int .u32 (i : Int)) := hB6.cell 0 rfl
            have x1 : wr.cell? ⟨wb.heap.size, 1, none⟩ = some (.int .u64 (key : Int)) := hB6.cell 1 rfl
            have x2 : wr.cell? ⟨wb.heap.size, 2, none⟩ = some (.slice A6 q6 c6) := hB6.cell 2 rfl
            clear hO6 hne6 hB6 hK6 hq6
            by_cases hkl : k < n
            · have hk1 : (k : Int) < (n : Int) := by omega
              have hk2 : (0 : Int) ≤ (k : Int) := by omega
              have CN := Lib.hid (crowdN_next n told i k)
              have KL := Lib.hid hkl
              have d1 : decide ((k : Int) < (i : Int)) = decide (k < i) := by rw [decide_eq_decide]; omega
              obtain ⟨dk, hdk⟩ : ∃ dk, decide (k < i) = dk := ⟨_, rfl⟩
              rw [hdk] at CN d1
              have d2 := hdk
              clear hkl hkn2 hdk
              cases ht : (told == dk) with
              | false =>
                have CN2 := Lib.hid (show crowdN n told i (k + 1) = crowdN n told i k by rw [CN.out]; exact if_neg (by rw [ht]; simp))
                go_wp2_with fail
                go_roundw
                case rel => exact ⟨k + 1, A6, q6, c6, by have := KL.out; omega, by go_num, by rw [CN2.out]; exact Q6.out, by rw [CN2.out]; exact O6.out, NE6.out, B6.out, K6.out⟩
                case measure => have := KL.out; simp [intOf]; omega
              | true =>
                have CN2 := Lib.hid (show crowdN n told i (k + 1) = crowdN n told i k ++ [k] by rw [CN.out]; exact if_pos ht)
                have kC := keeps_alloc wr (.cells #[.int .u32 (k : Int)] 30)
                have AT := Lib.hid (show At (wr.alloc (.cells #[.int .u32 (k : Int)] 30)) (wr.alloc (.cells #[.int .u32 (k : Int)] 30)).heap.size (some ⟨wr.heap.size, 0, none⟩) (celU [k]) from At.new _ _ _ _ (by simp))
                have KC := Lib.hid kC
                clear kC
                go_wp2_with (at_builtin; refine wpList_app _ rfl _ _ 26 rfl wb.heap.size 30 j0 (.int .u32 0) 1 4 Try.underlying26 hj hy0 hy1 hy2 rfl (by decide) _ q6 (celU (crowdN n told i k)) rfl (O6.out.keep KC.out) _ _ 1 1 (celU [k]) rfl rfl AT.out (celU_one _) (by have := QL.out; unfold maxLen; omega) (by have := QL.out; omega) (keeps_trans K6.out KC.out).size ?_)
                intro v7 w7 o7 g7 b7
                have k7 : Keeps wb w7 := Below.grown (keeps_trans K6.out KC.out) g7 (keeps_trans K6.out KC.out).size (fun g hg => (O6.out.lt g hg).1)
                have B7 : Box w7 wb.heap.size 33 #[.int .u32 (i : Int), .int .u64 (key : Int), .slice A6 q6 c6] := (g7.block _ (B6.out.keep KC.out).lt (fun e => NE6.out e.symm)).trans (B6.out.keep KC.out)
                have lwb : wb.heap.size < wr.heap.size := B6.out.lt
                have NE7 : v7.ownBlock ≠ some wb.heap.size := fun e => by
                  rcases b7 with b7 | b7
                  · rw [b7] at e
                    exact NE6.out e
                  · rw [b7] at e
                    have := Option.some.inj e
                    try simp only [World.size_alloc] at this
                    omega
                obtain ⟨A7, c7, rfl, -, -, -, -⟩ := o7.form
                have N2 : w7.cell? ⟨wb.heap.size, 2, none⟩ = some (.slice A6 q6 c6) := B7.cell 2 rfl
                have F2_ := B7.frozen 2
                have B8 : Box (w7.setCell ⟨wb.heap.size, 2, none⟩ (.slice A7 (q6 + 1) c7)) wb.heap.size 33 #[.int .u32 (i : Int), .int .u64 (key : Int), .slice A7 (q6 + 1) c7] := B7.set 2 _
                have B8h := Lib.hid B8
                have O8 := Lib.hid (show Own (w7.setCell ⟨wb.heap.size, 2, none⟩ (.slice A7 (q6 + 1) c7)) wb.heap.size 30 1 (.slice A7 (q6 + 1) c7) (q6 + 1) (celU (crowdN n told i (k + 1))) by
                  rw [CN2.out, show celU (crowdN n told i k ++ [k]) = celU (crowdN n told i k) ++ celU [k] by simp [celU]]
                  exact o7.away (p := ⟨wb.heap.size, 2, none⟩) (fun k' hk' e => NE7 (by rw [hk', e])) _)
                have K8 := Lib.hid (show Keeps wb (w7.setCell ⟨wb.heap.size, 2, none⟩ (.slice A7 (q6 + 1) c7)) from k7.setCell (p := ⟨wb.heap.size, 2, none⟩) (Nat.le_refl _) _)
                have NE8 := Lib.hid NE7
                clear o7 g7 b7 k7 B7 B8 lwb NE7 x0 x1 x2
                go_wp2_with fail
                go_roundw
                case rel => exact ⟨k + 1, A7, q6 + 1, c7, by have := KL.out; omega, by go_num, by rw [CN2.out, List.length_append, ← Q6.out]; rfl, O8.out, NE8.out, B8h.out, K8.out⟩
                case measure => have := KL.out; simp [intOf]; omega
            · have hk1 : ¬ ((k : Int) < (n : Int)) := by omega
              have CN := Lib.hid (show crowdN n told i k = crowdN n told i n by rw [show k = n by omega])
              rw [CN.out] at O6 Q6
              have NEW := Lib.hid (show CdOwn wr w.heap.size ⟨i, key, A6, c6, crowdN n told i n⟩ from ⟨by have := HI.out; have := HNM.out; simp only; omega, KB.out, fun y hy => (by have h9 : y < n := (crowdN_mem.1 (show y ∈ crowdN n told i n from hy)).1; have := HNM.out; omega), by
                have h := O6.out.base_le HKP.out.size
                simp only [← Q6.out]
                exact h⟩)
              have HO7 := Lib.hid (HO.out.keep K6.out)
              have HA7 := Lib.hid (fun y hy => (HA.out y hy).keep K6.out)
              have KW7 := Lib.hid (keeps_trans HKP.out K6.out)
              have AT := Lib.hid (show At (wr.alloc (.cells #[.int .u32 (i : Int), .int .u64 (key : Int), .slice A6 q6 c6] 33)) (wr.alloc (.cells #[.int .u32 (i : Int), .int .u64 (key : Int), .slice A6 q6 c6] 33)).heap.size (some ⟨wr.heap.size, 0, none⟩) (cdC ⟨i, key, A6, c6, crowdN n told i n⟩) by
                have h := At.new wr [.int .u32 (i : Int), .int .u64 (key : Int), .slice A6 q6 c6] 33 ((wr.alloc (.cells #[.int .u32 (i : Int), .int .u64 (key : Int), .slice A6 q6 c6] 33)).heap.size) (by simp)
                unfold cdC
                simp only [← Q6.out]
                exact h)
              clear hkl hkn2
              go_wp2_with (at_builtin; refine wpList_app _ rfl _ _ 22 rfl w.heap.size 33 i0 (.agg #[.int .u32 0, .int .u64 0, .slice none 0 0]) 3 40 Try.underlying22 hi hz0 hz1 hz2 rfl (by decide) _ m (cdsC l') rfl (HO7.out.keep (keeps_alloc _ _)) _ _ 1 1 (cdC ⟨i, key, A6, c6, crowdN n told i n⟩) rfl rfl AT.out (cdC_ones _) (by have := LL.out; have := HI.out; have := HNM.out; unfold maxLen; omega) (by have := LL.out; have := HI.out; have := HNM.out; omega) (keeps_trans KW7.out (keeps_alloc _ _)).size ?_)
              intro v8 w8 o8 g8 b8
              have kB := keeps_alloc wr (.cells #[.int .u32 (i : Int), .int .u64 (key : Int), .slice A6 q6 c6] 33)
              have k8 : Keeps w w8 := Below.grown (keeps_trans KW7.out kB) g8 (keeps_trans KW7.out kB).size (fun g hg => (HO7.out.lt g hg).1)
              have O8 := Lib.hid (show Own w8 w.heap.size 33 3 v8 (l' ++ [(⟨i, key, A6, c6, crowdN n told i n⟩ : Cd)]).length (cdsC (l' ++ [(⟨i, key, A6, c6, crowdN n told i n⟩ : Cd)])) by
                rw [cdsC_put, List.length_append, HML.out]
                exact o8)
              have A8 := Lib.hid (show ∀ y ∈ l' ++ [(⟨i, key, A6, c6, crowdN n told i n⟩ : Cd)], CdOwn w8 w.heap.size y from fun y hy => by
                rcases List.mem_append.1 hy with hy | hy
                · exact ((HA7.out y hy).keep kB).grown (HO7.out.keep kB) g8
                · rw [List.mem_singleton] at hy
                  subst hy
                  exact (NEW.out.keep kB).grown (HO7.out.keep kB) g8)
              have MP := Lib.hid (show (l' ++ [(⟨i, key, A6, c6, crowdN n told i n⟩ : Cd)]).map Cd.n = crowdC ks n told (i + 1) by
                rw [crowdC_next, List.map_append, HP.out, LX.out]
                rfl)
              have K8 := Lib.hid k8
              have e1 := k8.cellOf CK1.out
              have e2 := k8.cellOf CK2.out
              clear o8 g8 b8 kB k8 x0 x1 x2
              by_cases hkk : key < kb
              · have t3 : decide (key < kb) = true := decide_eq_true hkk
                have t4 : decide ((key : Int) < (kb : Int)) = true := decide_eq_true (by omega)
                have BE2 := Lib.hid (BNX.out.1 hkk)
                clear hkk
                go_wp2_with fail
                go_quiet (fail)
                go_wp2_with fail
                go_roundw
                case rel => exact ⟨i + 1, i, _, by have := HI.out; omega, by go_num, rfl, HI.out, by omega, BE2.out, MP.out, O8.out.keep (by first | exact keeps_drewN _ _ | exact keeps_drew _), fun y hy => (A8.out y hy).keep (by first | exact keeps_drewN _ _ | exact keeps_drew _), keeps_trans K8.out (by first | exact keeps_drewN _ _ | exact keeps_drew _)⟩
                case measure => have := HI.out; simp [intOf]; omega
              · have t3 : decide (key < kb) = false := decide_eq_false hkk
                have t4 : decide ((key : Int) < (kb : Int)) = false := decide_eq_false (by omega)
                have BE2 := Lib.hid (BNX.out.2 hkk)
                clear hkk
                go_wp2_with fail
                go_quiet (fail)
                go_wp2_with fail
                go_roundw
                case rel => exact ⟨i + 1, b, _, by have := HI.out; omega, by go_num, rfl, BN.out, by have := BI.out; omega, BE2.out, MP.out, O8.out.keep (by first | exact keeps_drewN _ _ | exact keeps_drew _), fun y hy => (A8.out y hy).keep (by first | exact keeps_drewN _ _ | exact keeps_drew _), keeps_trans K8.out (by first | exact keeps_drewN _ _ | exact keeps_drew _)⟩
                case measure => have := HI.out; simp [intOf]; omega
        · obtain rfl : i = n := by omega
          have F3 := Lib.hid (show ∀ x ∈ l', x.near.length ≤ 100000 from fun x hx => by
            have h1 : x.n ∈ crowdC ks i told i := by rw [← HP.out]; exact List.mem_map_of_mem hx
            obtain ⟨j, -, e⟩ := List.mem_map.1 h1
            have e2 : x.near = crowdN i told j i := (congrArg Cn.near e).symm
            rw [e2]
            have := crowdN_len i told j i
            have := HNM.out
            omega)
          have PP := Lib.hid (PK.out.pick Ao l'.length co l' wr (CdsAt.mk HO.out.at_ (fun x hx => (HA.out x hx).cd)) rfl (by have := LL.out; have := HNM.out; omega) hco hcm F3.out)
          rw [LL.out] at PP hco HO ⊢
          have hb40 : (b : Int) < 40 := by have := BN.out; have := HNM.out; omega
          have hb0 : (0 : Int) ≤ (b : Int) := by omega
          clear hlt hi2 hbn hbi
          go_wp2_with fail
          refine PP.out.mono ?_
          rintro e w3 ⟨v3, out, rfl, hp, o3, k3⟩
          rw [HP.out] at hp
          obtain rfl : out = [b] := hp.unique (crowd_pick BN.out BE.out)
          obtain ⟨A3, c3, rfl, -, -, -, -⟩ := o3.form
          obtain ⟨g, rfl, d0, -, -⟩ := o3.cell (j := 0) (by simp [celU])
          have d0' : w3.cell? ⟨g, 0, none⟩ = some (.int .u32 (b : Int)) := d0
          have K3 := Lib.hid (keeps_trans HKP.out k3)
          clear o3 k3 hp PP d0
          go_wp2_with fail
          refine (WW.out _).mono ?_
          rintro e w11 ⟨rfl, k11⟩
          go_wp2_with fail
          go_ret
          exact ⟨rfl, keeps_trans K3.out k11⟩
end Go.Proofs.Ytdfaogagadoooaa
