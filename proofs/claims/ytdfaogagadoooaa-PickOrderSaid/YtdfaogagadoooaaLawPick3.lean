/- Layer 16's statements: PickLone. -/
import Derived.Test.YtdfaogagadoooaaLawPick1
import Derived.Test.YtdfaogagadoooaaNums
namespace Go.Proofs.Ytdfaogagadoooaa
open Go.RowKit
set_option linter.unusedSimpArgs false
set_option linter.unusedVariables false
set_option maxRecDepth 100000

/-- a block that was laid just now, as a row of the call's own -/
theorem Own.lit (w : World) (e : TypeId) (size n : Nat) (cs : List Value) (hl : cs.length = n * size) (hn : n ≤ maxLen) : Own (w.alloc (.cells cs.toArray e)) w.heap.size e size (.slice (some ⟨w.heap.size, 0, none⟩) n n) n cs :=
  ⟨hl, .inr ⟨w.heap.size, n, cs.toArray, (0, 0), rfl, Nat.le_refl _, heap_alloc_new w _, .inl rfl, Nat.le_refl _, hn, by simp [hl], by rw [← hl]; simp⟩⟩

/-! ### nobody is near to anybody -/
def loneX (ks : List Nat) (n i : Nat) : Cn := ⟨7 * (n - i), ks.getD i 0, [1, 7 * (n - i)]⟩
def loneC (ks : List Nat) (n k : Nat) : List Cn := (List.range k).map (loneX ks n)
theorem loneC_next (ks : List Nat) (n k : Nat) : loneC ks n (k + 1) = loneC ks n k ++ [loneX ks n k] := by simp [loneC, List.range_succ]
def loneO (n : Nat) : List Nat := (List.range n).map fun i => 7 * (i + 1)
theorem lone_pick (ks : List Nat) (n : Nat) : IsPick (loneC ks n n) (loneO n) := by
  have ho : onceC (loneC ks n n) = loneC ks n n := by
    refine onceC_self ?_
    rw [loneC, List.map_map, List.Nodup, List.pairwise_map]
    refine List.pairwise_lt_range.imp_of_mem fun {a b} ha hb hab => ?_
    rw [List.mem_range] at ha hb
    simp only [Function.comp_apply, loneX]
    omega
  have hf : ∀ x ∈ loneC ks n n, firstC (loneC ks n n) x = true := fun x hx => firstC_iff.2 fun y hy hv hn => by
    exfalso
    obtain ⟨i, hi, rfl⟩ := List.mem_map.1 hx
    obtain ⟨j, hj, rfl⟩ := List.mem_map.1 hy
    simp only [nearC, loneX, Bool.or_eq_true, decide_eq_true_eq, List.mem_cons, List.mem_nil_iff, or_false] at hn
    simp only [loneX] at hv
    omega
  refine ⟨?_, fun v => ?_⟩
  · rw [loneO, List.pairwise_map]
    exact List.pairwise_lt_range.imp fun {a b} h => by omega
  · rw [ho]
    simp only [loneO, List.mem_map, List.mem_range]
    constructor
    · rintro ⟨i, hi, rfl⟩
      have hm : loneX ks n (n - 1 - i) ∈ loneC ks n n := List.mem_map_of_mem (List.mem_range.2 (by omega))
      exact ⟨_, hm, by simp only [loneX]; omega, hf _ hm⟩
    · rintro ⟨x, hx, rfl, -⟩
      obtain ⟨i, hi, rfl⟩ := List.mem_map.1 hx
      rw [List.mem_range] at hi
      exact ⟨n - 1 - i, by omega, by simp only [loneX]; omega⟩

set_option maxHeartbeats 16000000 in
theorem lone16_walk (K : PickOk) (A : Option Addr) (n c : Nat) (ks : List Nat) (w : World) (hk : At w w.heap.size A (u64s ks)) (hn : n = ks.length) (hok : ∀ x ∈ ks, x < 18446744073709551616) :
    Calls Try.prog 6 #[.slice A n c] w (Yes w) := by
  obtain ⟨i0, hi, hz0, hz1, hz2⟩ := info_partsU info_cand
  have WW := Lib.hid (works16 K)
  have HK := Lib.hid hk
  have HN := Lib.hid hn
  have HOK := Lib.hid hok
  have PK := Lib.hid K
  clear hk hn hok K
  by_cases h100 : 100 < n
  · have t1 : decide ((100 : Int) < (n : Int)) = true := decide_eq_true (by omega)
    clear h100
    go_enter Try.func6, Try.ntmps6
    go_wp2_with fail
    refine (WW.out _).mono ?_
    rintro e w9 ⟨rfl, k9⟩
    go_wp2_with fail
    go_ret
    exact ⟨rfl, k9⟩
  · have t1 : decide ((100 : Int) < (n : Int)) = false := decide_eq_false (by omega)
    have hnm : (n : Int) ≤ 100 := by omega
    have HNM := Lib.hid (show n ≤ 100 by omega)
    clear h100
    go_enter Try.func6, Try.ntmps6
    go_wp2_with fail
    go_loopw [3, 4] (fun u q wr => ∃ (k : Nat) (l' : List Cd), k ≤ n ∧ q = .int .i64 k ∧ l'.map Cd.n = loneC ks n k ∧ Own wr w.heap.size 33 3 u l'.length (cdsC l') ∧ (∀ x ∈ l', CdOwn wr w.heap.size x) ∧ Keeps w wr) (fun _ q _ => n - (intOf q).toNat)
    case atStart => exact ⟨0, [], Nat.zero_le _, rfl, rfl, Own.nil _ _ _ _, by simp, keeps_refl _⟩
    case round =>
      obtain ⟨k, l', hk, rfl, hmap, hO, hall, hkp⟩ := hrel
      have HO := Lib.hid hO
      have HKP := Lib.hid hkp
      have HP := Lib.hid hmap
      have HA := Lib.hid hall
      have LL := Lib.hid (show l'.length = k by
        have h1 := congrArg List.length hmap
        rw [List.length_map, loneC, List.length_map, List.length_range] at h1
        exact h1)
      obtain ⟨Ao, co, rfl, hco, hcm, -, -⟩ := hO.form
      clear hO hkp hmap hall
      by_cases hlt : k < n
      · obtain ⟨ad, hA, c1⟩ := u64s_at HK.out (k := k) (by have := HN.out; omega)
        subst hA
        replace c1 := HKP.out.cellOf c1
        obtain ⟨key, hkey⟩ : ∃ key, ks.getD k 0 = key := ⟨_, rfl⟩
        rw [hkey] at c1
        have KB := Lib.hid (show key < 18446744073709551616 by
          rw [← hkey]
          refine HOK.out _ ?_
          have : k < ks.length := by have := HN.out; omega
          simp [List.getD, this])
        have HKEY := Lib.hid hkey
        have hkn : (k : Int) < (n : Int) := by omega
        have hk0 : (0 : Int) ≤ (k : Int) := by omega
        have HI := Lib.hid hlt
        obtain ⟨m, hml⟩ : ∃ m, l'.length = m := ⟨_, rfl⟩
        rw [hml] at HO LL hco ⊢
        clear hkey hlt hk
        obtain ⟨q, hq⟩ : ∃ q, 7 * (n - k) = q := ⟨_, rfl⟩
        have E7 := Lib.hid (show (7 : Int) * ((n : Int) - (k : Int)) = (q : Int) by rw [← hq]; have := HI.out; omega)
        have LX := Lib.hid (show loneX ks n k = ⟨q, key, [1, q]⟩ by unfold loneX; rw [hq, HKEY.out])
        have QB := Lib.hid (show q < 4294967296 by have := HNM.out; omega)
        have kA := keeps_alloc wr (.cells #[.int .u32 1, .int .u32 (q : Int)] 30)
        have NO := Lib.hid (show CdOwn (wr.alloc (.cells #[.int .u32 1, .int .u32 (q : Int)] 30)) w.heap.size ⟨q, key, some ⟨wr.heap.size, 0, none⟩, 2, [1, q]⟩ from
          ⟨QB.out, KB.out, fun y hy => by
            simp only [List.mem_cons, List.mem_nil_iff, or_false] at hy
            rcases hy with rfl | rfl
            · decide
            · exact QB.out, (Own.lit wr 30 1 2 (celU [1, q]) rfl (by simp [maxLen])).base_le HKP.out.size⟩)
        have HO1 := Lib.hid (HO.out.keep kA)
        have HA1 := Lib.hid (fun y hy => (HA.out y hy).keep kA)
        have K1 := Lib.hid (keeps_trans HKP.out kA)
        have AT := Lib.hid (show At ((wr.alloc (.cells #[.int .u32 1, .int .u32 (q : Int)] 30)).alloc (.cells #[.int .u32 (q : Int), .int .u64 (key : Int), .slice (some ⟨wr.heap.size, 0, none⟩) 2 2] 33)) ((wr.alloc (.cells #[.int .u32 1, .int .u32 (q : Int)] 30)).alloc (.cells #[.int .u32 (q : Int), .int .u64 (key : Int), .slice (some ⟨wr.heap.size, 0, none⟩) 2 2] 33)).heap.size (some ⟨wr.heap.size + 1, 0, none⟩) (cdC ⟨q, key, some ⟨wr.heap.size, 0, none⟩, 2, [1, q]⟩) from by
          have h := At.new (wr.alloc (.cells #[.int .u32 1, .int .u32 (q : Int)] 30)) (cdC ⟨q, key, some ⟨wr.heap.size, 0, none⟩, 2, [1, q]⟩) 33 ((wr.alloc (.cells #[.int .u32 1, .int .u32 (q : Int)] 30)).alloc (.cells #[.int .u32 (q : Int), .int .u64 (key : Int), .slice (some ⟨wr.heap.size, 0, none⟩) 2 2] 33)).heap.size (by simp)
          rw [show (wr.alloc (.cells #[.int .u32 1, .int .u32 (q : Int)] 30)).heap.size = wr.heap.size + 1 from World.size_alloc _ _] at h
          exact h)
        clear kA hq
        go_wp2_with (at_builtin; rw [E7.out]; generalize wr.alloc (.cells #[.int .u32 1, .int .u32 (q : Int)] 30) = W1 at *; refine wpList_app _ rfl _ _ 22 rfl w.heap.size 33 i0 (.agg #[.int .u32 0, .int .u64 0, .slice none 0 0]) 3 40 Try.underlying22 hi hz0 hz1 hz2 rfl (by decide) _ m (cdsC l') rfl (HO1.out.keep (keeps_alloc _ _)) _ _ 1 1 (cdC ⟨q, key, some ⟨wr.heap.size, 0, none⟩, 2, [1, q]⟩) rfl rfl AT.out (cdC_ones _) (by have := LL.out; have := HI.out; have := HNM.out; unfold maxLen; omega) (by have := LL.out; have := HI.out; have := HNM.out; omega) (keeps_trans K1.out (keeps_alloc _ _)).size ?_)
        intro v8 w8 o8 g8 b8
        have kB := keeps_alloc W1 (.cells #[.int .u32 (q : Int), .int .u64 (key : Int), .slice (some ⟨wr.heap.size, 0, none⟩) 2 2] 33)
        have k8 : Keeps w w8 := Below.grown (keeps_trans K1.out kB) g8 (keeps_trans K1.out kB).size (fun g hg => (HO1.out.lt g hg).1)
        have O8 := Lib.hid (show Own w8 w.heap.size 33 3 v8 (l' ++ [(⟨q, key, some ⟨wr.heap.size, 0, none⟩, 2, [1, q]⟩ : Cd)]).length (cdsC (l' ++ [(⟨q, key, some ⟨wr.heap.size, 0, none⟩, 2, [1, q]⟩ : Cd)])) by
          rw [cdsC_put, List.length_append, hml]
          exact o8)
        have A8 := Lib.hid (show ∀ y ∈ l' ++ [(⟨q, key, some ⟨wr.heap.size, 0, none⟩, 2, [1, q]⟩ : Cd)], CdOwn w8 w.heap.size y from fun y hy => by
          rcases List.mem_append.1 hy with hy | hy
          · exact ((HA1.out y hy).keep kB).grown (HO1.out.keep kB) g8
          · rw [List.mem_singleton] at hy
            subst hy
            exact (NO.out.keep kB).grown (HO1.out.keep kB) g8)
        have MP := Lib.hid (show (l' ++ [(⟨q, key, some ⟨wr.heap.size, 0, none⟩, 2, [1, q]⟩ : Cd)]).map Cd.n = loneC ks n (k + 1) by
          rw [loneC_next, List.map_append, HP.out, LX.out]
          rfl)
        have K8 := Lib.hid k8
        clear o8 g8 b8 kB k8 hml
        go_wp2_with fail
        go_roundw
        case rel => exact ⟨k + 1, l' ++ [(⟨q, key, some ⟨wr.heap.size, 0, none⟩, 2, [1, q]⟩ : Cd)], by have := HI.out; omega, by go_num, MP.out, O8.out, A8.out, K8.out⟩
        case measure => have := HI.out; simp [intOf]; omega
      · obtain rfl : k = n := by omega
        have F3 := Lib.hid (show ∀ x ∈ l', x.near.length ≤ 100000 from fun x hx => by
          have h1 : x.n ∈ loneC ks k k := by rw [← HP.out]; exact List.mem_map_of_mem hx
          obtain ⟨i, -, e⟩ := List.mem_map.1 h1
          have e2 : x.near = [1, 7 * (k - i)] := (congrArg Cn.near e).symm
          rw [e2]
          simp)
        have PP := Lib.hid (PK.out.pick Ao l'.length co l' wr (CdsAt.mk HO.out.at_ (fun x hx => (HA.out x hx).cd)) rfl (by have := LL.out; have := HNM.out; omega) hco hcm F3.out)
        rw [LL.out] at PP hco HO ⊢
        clear hlt hk
        go_wp2_with fail
        refine PP.out.mono ?_
        rintro e w3 ⟨v3, out, rfl, hp, o3, k3⟩
        rw [HP.out] at hp
        obtain rfl : out = loneO k := hp.unique (lone_pick ks k)
        have OLl : (loneO k).length = k := by simp [loneO]
        rw [OLl] at o3
        obtain ⟨A3, c3, rfl, -, -, -, -⟩ := o3.form
        have O3 := Lib.hid o3.at_
        have K3 := Lib.hid (keeps_trans HKP.out k3)
        clear o3 k3 hp PP OLl
        go_wp2_with fail
        go_loopw [6] (fun q wr => ∃ j : Nat, j ≤ k ∧ q = .int .i64 j ∧ Keeps w3 wr) (fun q _ => k - (intOf q).toNat)
        case atStart => exact ⟨0, Nat.zero_le _, rfl, keeps_refl _⟩
        case round =>
          obtain ⟨j, hj, rfl, hjp⟩ := hrel
          have JP := Lib.hid hjp
          clear hjp
          by_cases hjk : j < k
          · obtain ⟨ad, hA, -, c1⟩ := celU_at O3.out (k := j) (x := 7 * (j + 1)) (by simp [loneO, hjk])
            subst hA
            replace c1 := JP.out.cellOf c1
            obtain ⟨q, hq⟩ : ∃ q, 7 * (j + 1) = q := ⟨_, rfl⟩
            rw [hq] at c1
            have hq1 : (7 : Int) * ((j : Int) + 1) = (q : Int) := by omega
            have hjn : (j : Int) < (k : Int) := by omega
            have hj0 : (0 : Int) ≤ (j : Int) := by omega
            have hq2 : (q : Int) < 1000 := by have := HNM.out; omega
            have HJ := Lib.hid hjk
            clear hq hj hjk
            go_wp2_with fail
            refine ⟨⟨j + 1, by have := HJ.out; omega, by go_num, JP.out⟩, ?_⟩
            have := HJ.out
            simp [intOf]
            omega
          · have hjn : ¬ ((j : Int) < (k : Int)) := by omega
            clear hj hjk
            go_wp2_with fail
            refine (WW.out _).mono ?_
            rintro e w11 ⟨rfl, k11⟩
            go_wp2_with fail
            go_ret
            exact ⟨rfl, keeps_trans K3.out (keeps_trans JP.out k11)⟩
end Go.Proofs.Ytdfaogagadoooaa
