/- JournalLasts. (Written by mklast9.py.) -/
import Derived.Test.YtiohijkelagloaaDoorQLawJr
import Derived.Test.YtiohijkelagloaaDoorQJrU
import Derived.Test.YtiohijkelagloaaDoorQOpenRec
import Derived.Test.YtiohijkelagloaaDoorQJrSure
namespace Go.Proofs.YtiohijkelagloaaDoor
open Go.RowKit
set_option linter.unusedSimpArgs false
set_option linter.unusedVariables false
set_option maxRecDepth 100000

theorem infoI9 : (Tryd.prog.info? 3).map (fun i => (i.zero, i.size, i.bytes)) = some (some (.int .i64 0), 1, 8) := by kernel_rfl
set_option maxHeartbeats 4000000 in
theorem begins_any (A : Option Addr) (n c : Nat) (l : List RecS) (B : Option Addr) (m d : Nat) (k : List RecS) (w : World) (hA : At w w.heap.size A (rowsC l)) (hn : n = l.length) (hc : n ≤ c) (hB : At w w.heap.size B (rowsC k)) (hm : m = k.length) (hmn : m ≤ n) (hb : l.take m = k) (hmax : n ≤ 1000000) :
    Calls Tryd.prog 24 #[.slice A n c, .slice B m d] w fun e w' => e = .returned (.bool true) ∧ Keeps w w' := by
  have SM := Lib.hid (same9_any A m c (l.take m) B m d k w (hA.ofRecs m) (by rw [hb]; exact hm) hB hm (by omega))
  rw [decide_eq_true hb] at SM
  have h1 : (m : Int) ≤ (n : Int) := by omega
  have h2 : (m : Int) ≤ (c : Int) := by omega
  clear hA hB hn hm hmn hb
  go_enter Tryd.func24, Tryd.ntmps24
  go_wp2_with fail
  refine SM.out.mono ?_
  rintro e w1 ⟨rfl, k1⟩
  go_wp2_with fail
  go_ret
  exact ⟨rfl, k1⟩
/-- the record that was under way, in a slice of one -/
structure UndAt (w0 w : World) (F : Nat → Prop) (g : Nat) (r : RecS) : Prop where
  box : Box w g 43 #[.int .u32 (r.kind : Int), .int .u32 (r.a : Int), .int .u32 (r.b : Int)]
  out : ¬ F g
section
variable {w0 w w' : World} {F F' : Nat → Prop} {g : Nat} {r : RecS}
theorem UndAt.turn (h : UndAt w0 w F g r) (t : Turns w w' F F') : UndAt w0 w' F' g r := ⟨h.box.turned t h.out, t.notIn h.box.lt h.out⟩
theorem UndAt.keep (h : UndAt w0 w F g r) (k : Keeps w w') : UndAt w0 w' F g r := ⟨h.box.keep k, h.out⟩
theorem UndAt.grown {row : Option Nat} (h : UndAt w0 w F g r) (k : w.grownBy w' row) (hr : row ≠ some g) : UndAt w0 w' F g r := ⟨(k.block g h.box.lt (fun e => hr e.symm)).trans h.box, h.out⟩
end
/-- how far the power may go, of a number -/
theorem fall_ok (x : Int) (h1 : -9223372036854775808 ≤ x) (h2 : x ≤ 9223372036854775807) : ∃ a : Nat, 1 ≤ a ∧ a ≤ 30 ∧ ∃ y r : Nat, max x 0 = (y : Int) ∧ (y : Int) ≤ 9223372036854775807 ∧ (y : Int).tmod 30 = (r : Int) ∧ (r : Int) ≤ 29 ∧ (1 : Int) + (r : Int) = (a : Int) := by
  obtain ⟨y, hy⟩ : ∃ y : Nat, max x 0 = (y : Int) := ⟨(max x 0).toNat, by omega⟩
  refine ⟨1 + y % 30, by omega, by omega, y, y % 30, hy, by omega, ?_, by omega, by omega⟩
  rw [Int.tmod_eq_emod_of_nonneg (by omega)]
  omega

set_option maxHeartbeats 64000000 in
theorem lasts9_walk (K : DiskOk) (A : Option Addr) (n c : Nat) (l : List RecS) (B : Option Addr) (nf cf : Nat) (fs : List Int) (C : Option Addr) (nk ck : Nat) (ks : List KwS) (w : World) (hZ : K.Z w) (hS : Sizes w) (h : RecsAt w A l) (hn : n = l.length) (hnx : n ≤ maxLen)
    (hB : At w w.heap.size B (intC fs)) (hfb : ∀ x ∈ fs, -9223372036854775808 ≤ x ∧ x ≤ 9223372036854775807) (hnf : nf = fs.length) (hfx : nf ≤ maxLen) (hC : KeepsAt w C ks) (hnk : nk = ks.length) (hkx : nk ≤ maxLen) :
    Calls Tryd.prog 5 #[.slice A n c, .slice B nf cf, .slice C nk ck] w (Yes9 w) := by
  have WK := Lib.hid (fun (W : World) (q : Keeps w W) => works9 K W (K.keep hZ q) (hS.keep q))
  have HZ := Lib.hid hZ
  have HS := Lib.hid hS
  have H := Lib.hid h
  have HN := Lib.hid hn
  have HFS := Lib.hid hB
  have HNF := Lib.hid hnf
  have HFB := Lib.hid hfb
  have HKS := Lib.hid hC
  have HNK := Lib.hid hnk
  have ND := Lib.hid (fun (W : World) (q : Keeps w W) => newJ_ K W (K.keep hZ q))
  unfold maxLen at hnx hfx hkx
  by_cases big : 40 < n ∨ 20 < nf ∨ 20 < nk
  · have ways : (40 : Int) < (n : Int) ∨ (¬ (40 : Int) < (n : Int) ∧ (20 : Int) < (nf : Int)) ∨ (¬ (40 : Int) < (n : Int) ∧ ¬ (20 : Int) < (nf : Int) ∧ (20 : Int) < (nk : Int)) := by omega
    clear hZ hS h hn hB hfb hnf hC hnk big
    go_enter Tryd.func5, Tryd.ntmps5
    rcases ways with x1 | ⟨x1, x2⟩ | ⟨x1, x2, x3⟩
    all_goals
      go_wp2_with fail
      refine (WK.out _ (keeps_refl _)).mono ?_
      rintro e w9 ⟨rfl, k9⟩
      go_wp2_with fail
      go_ret
      exact ⟨rfl, k9⟩
  · have bi : ¬ (40 : Int) < (n : Int) := by omega
    have bf : ¬ (20 : Int) < (nf : Int) := by omega
    have bk : ¬ (20 : Int) < (nk : Int) := by omega
    have b0 : (n : Int) ≤ 40 := by omega
    have b1 : (nf : Int) ≤ 20 := by omega
    have b2 : (nk : Int) ≤ 20 := by omega
    have HNB := Lib.hid (And.intro (show n ≤ 40 by omega) (And.intro (show nf ≤ 20 by omega) (show nk ≤ 20 by omega)))
    obtain ⟨i0, hi0, hz0, hz1, hz2⟩ := info_parts infoRec
    obtain ⟨i1, hi1, hy0, hy1, hy2⟩ := info_parts infoI9
    clear hZ hS h hn hB hfb hnf hC hnk big
    go_enter Tryd.func5, Tryd.ntmps5
    go_wp2_with fail
    go_loopw [7] (fun i wr => ∃ j : Nat, j ≤ nk ∧ i = .int .i64 j ∧ Hid (w = wr) ∧ Hid (∀ r ∈ ks.take j, r.n ≤ 100)) (fun i _ => nk - (intOf i).toNat)
    case atStart => exact ⟨0, Nat.zero_le _, rfl, Lib.hid rfl, Lib.hid (by simp)⟩
    case round =>
      obtain ⟨j, hj, rfl, HW, HK⟩ := hrel
      have eW := HW.out
      subst eW
      by_cases hlt : j < nk
      · have hji : (j : Int) < (nk : Int) := by omega
        obtain ⟨kr, hkr⟩ : ∃ kr, ks[j]? = some kr := ⟨_, List.getElem?_eq_getElem (by have := HNK.out; omega)⟩
        obtain ⟨kd, rfl, kc, kg⟩ := HKS.out.get hkr
        by_cases hb : 100 < kr.n
        · have hbi : (100 : Int) < (kr.n : Int) := by omega
          clear hb kg hkr hlt
          go_wp2_with fail
          refine (WK.out _ (keeps_refl _)).mono ?_
          rintro e w9 ⟨rfl, k9⟩
          go_wp2_with fail
          go_ret
          exact ⟨rfl, k9⟩
        · have hbi : ¬ (100 : Int) < (kr.n : Int) := by omega
          have HK2 := Lib.hid (show ∀ r ∈ ks.take (j + 1), r.n ≤ 100 by
            intro r hr
            rw [List.take_add_one, hkr] at hr
            rcases List.mem_append.1 hr with h | h
            · exact HK.out r h
            · simp at h; subst h; omega)
          clear hb kg hkr hlt
          go_wp2_with fail
          go_roundw
          case rel => exact ⟨j + 1, by omega, by go_num, Lib.hid (by first | trivial | exact HW.out), HK2⟩
          case measure => simp [intOf] <;> omega
      · obtain rfl : nk = j := by omega
        have HK100 := Lib.hid (show ∀ r ∈ ks, r.n ≤ 100 by have := HK.out; rwa [List.take_of_length_le (by have := HNK.out; omega)] at this)
        have NW := Lib.hid (ND.out w (keeps_refl _))
        clear hlt hj HK
        go_wp2_with fail
        refine NW.out.mono ?_
        rintro e w1 ⟨b, F1, rfl, h1⟩
        have H1 := Lib.hid h1
        clear h1
        go_wp2_with fail
        go_loopw [12, 11, 10] (fun i a v wr => ∃ (t q : Nat) (A10 : Option Addr) (N10 c10 : Nat) (L10 : List RecS) (F : Nat → Prop) (s : Ds), t ≤ nf + 1 ∧ q ≤ n ∧ i = .int .i64 t ∧ a = .int .i64 q ∧ v = .slice A10 N10 c10 ∧ Hid (L10.length ≤ q) ∧ Hid (Fine L10) ∧ Hid (OnJ s L10) ∧ Hid (Have K w wr b F s) ∧ Hid (SureAt w wr F A10 N10 c10 L10)) (fun i _ _ _ => nf + 1 - (intOf i).toNat)
        case atStart => exact ⟨0, 0, none, 0, 0, [], F1, _, by omega, by omega, rfl, rfl, rfl, Lib.hid (Nat.le_refl _), Lib.hid Fine.nil, Lib.hid (OnJ.nil 0), H1, Lib.hid ⟨Own.nil _ _ _ _, rfl, fun k hk => by cases hk⟩⟩
        case round =>
          obtain ⟨t, q, A10, N10, c10, L10, F, s, ht, hq, rfl, rfl, rfl, HLQ, HFI, HON, HV0, HSU⟩ := hrel
          by_cases hlt : t ≤ nf
          · have hle : (t : Int) ≤ (nf : Int) := by omega
            by_cases hlt2 : t < nf
            · have hlti : (t : Int) < (nf : Int) := by omega
              obtain ⟨x, hx⟩ : ∃ x, fs[t]? = some x := ⟨_, List.getElem?_eq_getElem (by have := HNF.out; omega)⟩
              obtain ⟨fd, rfl, -, hc0⟩ := At.get (HFS.out.keep HV0.out.kp) (k := t) (by rw [intC_length]; have := HNF.out; omega)
              have hc1 : (intC fs)[t]? = some (.int .i64 x) := by simp only [intC, List.getElem?_map, hx, Option.map_some]
              rw [hc1] at hc0
              obtain ⟨hx1, hx2⟩ := HFB.out x (List.mem_of_getElem? hx)
              obtain ⟨ar, ha1, ha2, yy, rr, hmax, hyb, hrem, hrb, hsum⟩ := fall_ok x hx1 hx2
              have hmx : ∀ (ts : Array TypeId) (t : TypeId) (w : World), (Builtin.max_ ts t #[.int .i64 x, .int .i64 0]).run Tryd.prog w = .ok (.int .i64 (yy : Int)) w := by
                intro ts t w
                rw [run_max_int2]
                congr 2
                split <;> omega
              obtain ⟨s2, hs2, hon2⟩ := HON.out.arm ar
              have AR := Lib.hid (HV0.out.armU_ HZ.out (ar : Int) ⟨by omega, by omega⟩ hs2)
              have HON2 := Lib.hid hon2
              clear hlt hlt2 hx hc1 hmax hs2 hon2
              go_wp2_with fail
              refine AR.out.mono ?_
              rintro e w2 ⟨rfl, F2, h2, t2⟩
              have SU2 := Lib.hid (HSU.out.turn t2)
              have H2 := Lib.hid h2
              have HLB := Lib.hid (show L10.length ≤ 40 by have := HLQ.out; have := HNB.out.1; omega)
              clear h2 t2
              have e1 : ((0 : Int) != 0) = false := rfl
              have e2 : ((0 : Int) == 0) = true := rfl
              rcases HON2.out.open HFI.out (by have := HLB.out; omega) with ⟨s3, qq, ho, hoff⟩ | ⟨f3, a3, ho, hcl⟩
              · have OP := Lib.hid (jrOpen_any H2.out HZ.out HS.out ho)
                have OF := Lib.hid hoff
                clear ho hoff
                go_wp2_with fail
                refine OP.out.mono ?_
                rintro e wy ⟨FZ, h3, t3, ⟨hbad, -⟩ | ⟨-, rfl⟩⟩
                · exact absurd hbad (by decide)
                have SU3 := Lib.hid (SU2.out.turn t3)
                have H3 := Lib.hid h3
                have DE := K.dead (h3.z HZ.out) h3.D
                rw [OF.out.1] at DE
                have DD := Lib.hid DE
                unfold dpt at DD
                clear h3 t3 DE
                go_wp2_with fail
                refine DD.out.mono ?_
                rintro e wz ⟨rfl, kz⟩
                have HV := Lib.hid (H3.out.keep kz)
                have SU := Lib.hid (SU3.out.keep kz)
                have QZ := Lib.hid (show L10.length ≤ q ∧ q ≤ n ∧ n ≤ 40 from ⟨HLQ.out, hq, HNB.out.1⟩)
                clear kz
                as_aux_lemma =>
                  by_cases hkt : t < nk
                  · have hkti : (t : Int) < (nk : Int) := by omega
                    obtain ⟨kr, hkr⟩ : ∃ kr, ks[t]? = some kr := ⟨_, List.getElem?_eq_getElem (by have := HNK.out; omega)⟩
                    obtain ⟨kd, rfl, kc, kg⟩ := (HKS.out.keep HV.out.kp).get hkr
                    have hkl : kr.n ≤ 100 := HK100.out kr (List.mem_of_getElem? hkr)
                    have KG := Lib.hid kg
                    have hklb : (kr.n : Int) ≤ 100 := by omega
                    have HKL := Lib.hid hkl
                    clear hkr kg
                    obtain ⟨son, hon, g9, L9, ho9, hc9, hf9, hw9⟩ := OF.out.2 kr.l
                    have HON := Lib.hid hon
                    have HO9 := Lib.hid ho9
                    have HC9 := Lib.hid hc9
                    have HF9 := Lib.hid hf9
                    have HW9 := Lib.hid hw9
                    have O0 := Lib.hid (own_emptyJ wz 3 1)
                    have kE := keeps_alloc wz (.cells #[] 3)
                    have S0 := Lib.hid (SU.out.keep kE)
                    have HV0 := Lib.hid (HV.out.keep kE)
                    have KAT := Lib.hid ((KG.out.b.keep kE).more kE.size)
                    clear hon ho9 hc9 hf9 hw9 kE
                    go_wp2_with (at_builtin; refine wpList_app _ rfl _ _ 47 rfl wz.heap.size 3 i1 (.int .i64 0) 1 8 Tryd.underlying47 hi1 hy0 hy1 hy2 rfl (by decide) _ 0 [] rfl O0.out _ kr.A kr.n kr.c (intC kr.l) rfl (by rw [intC_length, ← KG.out.len, Nat.mul_one]) KAT.out (fun u hu => by simp only [intC, List.mem_map] at hu; obtain ⟨x, -, rfl⟩ := hu; rfl) (by unfold maxLen; omega) (by omega) (by simp) ?_; intro v20 w20 hown20 hgrow20 hblk20)
                    have hgk : ∀ k, (Value.slice (some ⟨wz.heap.size, 0, none⟩) 0 0).ownBlock = some k → w.heap.size ≤ k ∧ ¬ FZ k := fun k hk => by
                      have := (O0.out.lt k hk).1
                      exact ⟨Nat.le_trans HV.out.kp.size this, fun hf => by have := K.lt HV.out.D k hf; omega⟩
                    have HV20 := Lib.hid (HV0.out.grown_ hgrow20 hgk)
                    have S20 := Lib.hid (show SureAt w w20 FZ A10 N10 c10 L10 from ⟨S0.out.own.same (fun k hk => hgrow20.block k (S0.out.own.lt k hk).2 (fun e => by
                      have h1 := (SU.out.own.lt k hk).2
                      have e2 := Option.some.inj (show some k = some wz.heap.size from e)
                      omega)), S0.out.len, S0.out.out⟩)
                    have O20 := Lib.hid (show Own w20 wz.heap.size 3 1 v20 kr.n (intC kr.l) by simpa [intC] using hown20)
                    clear hown20 hgrow20 hblk20 hgk
                    obtain ⟨A20, c20, rfl, -⟩ := O20.out.form
                    have ON := Lib.hid (HV20.out.onU_ HZ.out A20 kr.n c20 kr.l O20.out.at_ (fun ad ha hf => by
                      subst ha
                      have h1 := (O20.out.lt ad.block rfl).1
                      have h2 := K.lt HV.out.D _ hf
                      omega) KG.out.len O20.out.capj.1 (by have := HKL.out; omega) HON.out)
                    go_wp2_with fail
                    refine ON.out.mono ?_
                    rintro e w21 ⟨rfl, F21, h21, t21⟩
                    have S21 := Lib.hid (S20.out.turn t21)
                    have OP := Lib.hid (jrOpen_any h21 HZ.out HS.out HO9.out)
                    clear h21 t21
                    go_wp2_with fail
                    refine OP.out.mono ?_
                    rintro e w22 ⟨F22, h22, t22, ⟨-, j22, G22, rfl, hj22, -⟩ | ⟨hbad, -⟩⟩
                    rotate_left
                    · exact absurd rfl hbad
                    have S22 := Lib.hid (S21.out.turn t22)
                    have H22 := Lib.hid h22
                    have RC := Lib.hid (jrRecs_any hj22)
                    clear h22 t22 hj22
                    have hw : L9 = L10 := by
                      rcases HW9.out with h | ⟨x, h, -⟩
                      · exact h
                      · cases h
                    obtain rfl := hw
                    have hlenL : L9.length = N10 := SU.out.len.symm
                    rw [hlenL] at RC
                    clear hlenL
                    go_wp2_with fail
                    refine RC.out.mono ?_
                    rintro e w23 ⟨A23, c23, rfl, o23, k23⟩
                    have S23 := Lib.hid (S22.out.keep k23)
                    have H23 := Lib.hid (H22.out.keep k23)
                    have BG := Lib.hid (begins_any A23 N10 c23 L9 A10 N10 c10 L9 w23 o23.at_ SU.out.len o23.capj.1 S23.out.own.at_ SU.out.len (Nat.le_refl _) (by rw [SU.out.len, List.take_length]) (by have := QZ.out; have := SU.out.len; omega))
                    clear o23 k23
                    go_wp2_with fail
                    refine BG.out.mono ?_
                    rintro e w24 ⟨rfl, k24⟩
                    have S24 := Lib.hid (S23.out.keep k24)
                    have H24 := Lib.hid (H23.out.keep k24)
                    have ON24 := Lib.hid (OnJ.clean HC9.out 0)
                    have LQ := Lib.hid (show L9.length ≤ q by have := QZ.out; have := SU.out.len; omega)
                    have hgt1 : ¬ (N10 : Int) + 1 < (N10 : Int) := by omega
                    have hgt2 : ¬ (N10 : Int) < (N10 : Int) := by omega
                    have hNb : (N10 : Int) ≤ 40 := by have := QZ.out; have := SU.out.len; omega
                    clear k24
                    go_wp2_with fail
                    go_roundw
                    case rel => exact ⟨t + 1, q, A10, N10, c10, L9, F22, _, by omega, by omega, by go_num, rfl, rfl, LQ, HF9, ON24, H24, S24⟩
                    case measure => simp [intOf] <;> omega
                  · have hkti : ¬ (t : Int) < (nk : Int) := by omega
                    obtain ⟨son, hon, g9, L9, ho9, hc9, hf9, hw9⟩ := OF.out.2 []
                    have HON := Lib.hid hon
                    have HO9 := Lib.hid ho9
                    have HC9 := Lib.hid hc9
                    have HF9 := Lib.hid hf9
                    have HW9 := Lib.hid hw9
                    have O0 := Lib.hid (own_emptyJ wz 3 1)
                    have kE := keeps_alloc wz (.cells #[] 3)
                    have S0 := Lib.hid (SU.out.keep kE)
                    have HV0 := Lib.hid (HV.out.keep kE)
                    clear hon ho9 hc9 hf9 hw9 kE
                    go_wp2_with (at_builtin; refine wpList_app _ rfl _ _ 47 rfl wz.heap.size 3 i1 (.int .i64 0) 1 8 Tryd.underlying47 hi1 hy0 hy1 hy2 rfl (by decide) _ 0 [] rfl O0.out _ none 0 0 (intC []) rfl rfl (At.nil _ (wz.alloc (.cells #[] 3)).heap.size _) (fun u hu => by simp only [intC, List.mem_map] at hu; obtain ⟨x, -, rfl⟩ := hu; rfl) (by unfold maxLen; omega) (by omega) (by simp) ?_; intro v20 w20 hown20 hgrow20 hblk20)
                    have hgk : ∀ k, (Value.slice (some ⟨wz.heap.size, 0, none⟩) 0 0).ownBlock = some k → w.heap.size ≤ k ∧ ¬ FZ k := fun k hk => by
                      have := (O0.out.lt k hk).1
                      exact ⟨Nat.le_trans HV.out.kp.size this, fun hf => by have := K.lt HV.out.D k hf; omega⟩
                    have HV20 := Lib.hid (HV0.out.grown_ hgrow20 hgk)
                    have S20 := Lib.hid (show SureAt w w20 FZ A10 N10 c10 L10 from ⟨S0.out.own.same (fun k hk => hgrow20.block k (S0.out.own.lt k hk).2 (fun e => by
                      have h1 := (SU.out.own.lt k hk).2
                      have e2 := Option.some.inj (show some k = some wz.heap.size from e)
                      omega)), S0.out.len, S0.out.out⟩)
                    have O20 := Lib.hid (show Own w20 wz.heap.size 3 1 v20 0 (intC []) by simpa [intC] using hown20)
                    clear hown20 hgrow20 hblk20 hgk
                    obtain ⟨A20, c20, rfl, -⟩ := O20.out.form
                    have ON := Lib.hid (HV20.out.onU_ HZ.out A20 0 c20 [] O20.out.at_ (fun ad ha hf => by
                      subst ha
                      have h1 := (O20.out.lt ad.block rfl).1
                      have h2 := K.lt HV.out.D _ hf
                      omega) rfl O20.out.capj.1 (by decide) HON.out)
                    go_wp2_with fail
                    refine ON.out.mono ?_
                    rintro e w21 ⟨rfl, F21, h21, t21⟩
                    have S21 := Lib.hid (S20.out.turn t21)
                    have OP := Lib.hid (jrOpen_any h21 HZ.out HS.out HO9.out)
                    clear h21 t21
                    go_wp2_with fail
                    refine OP.out.mono ?_
                    rintro e w22 ⟨F22, h22, t22, ⟨-, j22, G22, rfl, hj22, -⟩ | ⟨hbad, -⟩⟩
                    rotate_left
                    · exact absurd rfl hbad
                    have S22 := Lib.hid (S21.out.turn t22)
                    have H22 := Lib.hid h22
                    have RC := Lib.hid (jrRecs_any hj22)
                    clear h22 t22 hj22
                    have hw : L9 = L10 := by
                      rcases HW9.out with h | ⟨x, h, -⟩
                      · exact h
                      · cases h
                    obtain rfl := hw
                    have hlenL : L9.length = N10 := SU.out.len.symm
                    rw [hlenL] at RC
                    clear hlenL
                    go_wp2_with fail
                    refine RC.out.mono ?_
                    rintro e w23 ⟨A23, c23, rfl, o23, k23⟩
                    have S23 := Lib.hid (S22.out.keep k23)
                    have H23 := Lib.hid (H22.out.keep k23)
                    have BG := Lib.hid (begins_any A23 N10 c23 L9 A10 N10 c10 L9 w23 o23.at_ SU.out.len o23.capj.1 S23.out.own.at_ SU.out.len (Nat.le_refl _) (by rw [SU.out.len, List.take_length]) (by have := QZ.out; have := SU.out.len; omega))
                    clear o23 k23
                    go_wp2_with fail
                    refine BG.out.mono ?_
                    rintro e w24 ⟨rfl, k24⟩
                    have S24 := Lib.hid (S23.out.keep k24)
                    have H24 := Lib.hid (H23.out.keep k24)
                    have ON24 := Lib.hid (OnJ.clean HC9.out 0)
                    have LQ := Lib.hid (show L9.length ≤ q by have := QZ.out; have := SU.out.len; omega)
                    have hgt1 : ¬ (N10 : Int) + 1 < (N10 : Int) := by omega
                    have hgt2 : ¬ (N10 : Int) < (N10 : Int) := by omega
                    have hNb : (N10 : Int) ≤ 40 := by have := QZ.out; have := SU.out.len; omega
                    clear k24
                    go_wp2_with fail
                    go_roundw
                    case rel => exact ⟨t + 1, q, A10, N10, c10, L9, F22, _, by omega, by omega, by go_num, rfl, rfl, LQ, HF9, ON24, H24, S24⟩
                    case measure => simp [intOf] <;> omega
              · have OP := Lib.hid (jrOpen_any H2.out HZ.out HS.out ho)
                have CL := Lib.hid hcl
                clear ho hcl
                go_wp2_with fail
                refine OP.out.mono ?_
                rintro e w3 ⟨F3, h3, t3, ⟨-, jb, G3, rfl, hj3, hd3⟩ | ⟨hbad, -⟩⟩
                rotate_left
                · exact absurd rfl hbad
                have G3N := Lib.hid (show ∀ i, G3 i → w2.heap.size ≤ i from hj3.ge)
                have SU3 := Lib.hid ((SU2.out.turn t3).more (G := G3) (W := w2) (fun k hk => (SU2.out.own.lt k hk).2) G3N.out)
                have H3 := Lib.hid h3
                have J3 := Lib.hid (hj3.base_le H2.out.kp.size)
                have D3 := Lib.hid hd3
                have RC := Lib.hid (jrRecs_any hj3)
                have hlenL : L10.length = N10 := HSU.out.len.symm
                rw [hlenL] at RC
                clear h3 t3 hj3 hd3 hlenL
                go_wp2_with fail
                refine RC.out.mono ?_
                rintro e w4 ⟨A4, c4, rfl, o4, k4⟩
                have BG := Lib.hid (begins_any A4 N10 c4 L10 A10 N10 c10 L10 w4 o4.at_ HSU.out.len o4.capj.1 (SU3.out.keep k4).own.at_ HSU.out.len (Nat.le_refl _) (by rw [HSU.out.len, List.take_length]) (by have := HLB.out; have := HSU.out.len; omega))
                have K4 := Lib.hid k4
                clear o4 k4
                go_wp2_with fail
                refine BG.out.mono ?_
                rintro e w5 ⟨rfl, k5⟩
                have K5 := Lib.hid (keeps_trans K4.out k5)
                have hgt0 : ¬ (N10 : Int) < (N10 : Int) := by omega
                clear k5
                go_wp2_with fail
                go_loopw [11, 10, 13] (fun a v u wr => ∃ (q : Nat) (A10 : Option Addr) (N10 c10 : Nat) (L10 : List RecS) (F G : Nat → Prop) (f : Fl) (ar : Nat), q ≤ n ∧ a = .int .i64 q ∧ v = .slice A10 N10 c10 ∧ u = .slice none 0 0 ∧ Hid (L10.length ≤ q) ∧ Hid (Fine L10) ∧ Hid (Clean f L10) ∧ Hid (Have K w wr b F (DJ 1024 f ar false)) ∧ Hid (JrAt wr w.heap.size jb b G L10) ∧ Hid (∀ i, G i → ¬ F i) ∧ Hid (SureAt w wr (fun i => F i ∨ G i) A10 N10 c10 L10)) (fun a _ _ _ => n - (intOf a).toNat)
                case atStart => exact ⟨q, A10, N10, c10, L10, F3, G3, f3, a3, hq, rfl, rfl, rfl, HLQ, HFI, CL, Lib.hid (H3.out.keep K5.out), Lib.hid (J3.out.keep K5.out), D3, Lib.hid (SU3.out.keep K5.out)⟩
                case round =>
                  clear SU3 H3 J3 D3 CL HSU HLQ HFI HLB hq hgt0 RC BG OP SU2 H2 HON2 HON HV0 AR
                  obtain ⟨q, A10, N10, c10, L10, F, G, f, ar, hq, rfl, rfl, rfl, HLQ, HFI, CL, HV, HJ, HD, HSU⟩ := hrel
                  have HLB := Lib.hid (show L10.length ≤ 40 by have := HLQ.out; have := HNB.out.1; omega)
                  have HNL := Lib.hid HSU.out.len
                  by_cases hqn : q < n
                  · have hqi : (q : Int) < (n : Int) := by omega
                    obtain ⟨q1, hq1⟩ : ∃ q1, q + 1 = q1 := ⟨_, rfl⟩
                    have hqs : (q : Int) + 1 = (q1 : Int) := by omega
                    have HQ1 := Lib.hid hq1
                    have hqb : (q1 : Int) ≤ 41 := by omega
                    have HQN := Lib.hid (show q1 ≤ n by omega)
                    obtain ⟨r, hr⟩ : ∃ r, l[q]? = some r := ⟨_, List.getElem?_eq_getElem (by have := HN.out; omega)⟩
                    have hro := H.out.ok r (List.mem_of_getElem? hr)
                    have HRO := Lib.hid hro
                    obtain ⟨ad, rfl, a0, a1, a2⟩ := rec_cells (H.out.keep HV.out.kp).cells hr
                    have k0 := keeps_alloc wr (.cells #[.int .u32 (r.kind : Int), .int .u32 (r.a : Int), .int .u32 (r.b : Int)] 43)
                    have BX := Lib.hid (Box.new wr 43 #[.int .u32 (r.kind : Int), .int .u32 (r.a : Int), .int .u32 (r.b : Int)])
                    have NBX := Lib.hid (show ¬ (F wr.heap.size ∨ G wr.heap.size) from fun e => by
                      rcases e with e | e
                      · have := K.lt HV.out.D _ e; omega
                      · have := HJ.out.lt _ e; omega)
                    have SU0 := Lib.hid (HSU.out.keep k0)
                    have x0 := BX.out.cell 0 rfl
                    have x1 := BX.out.cell 1 rfl
                    have x2 := BX.out.cell 2 rfl
                    by_cases hk : r.kind = 0
                    · have hkk : ((r.kind : Int) == 0) = true := by rw [beq_iff_eq]; omega
                      have AD := Lib.hid (jrAdd_any (HV.out.keep k0) HZ.out HS.out (HJ.out.keep k0) HD.out (Nat.le_refl _) r hro (addJ_none (s := DJ 1024 f ar false) (l := L10) hk))
                      rw [if_neg (by decide)] at AD
                      unfold recC at AD
                      clear hr hro k0 hk hqn hq1
                      go_wp2_with fail
                      refine AD.out.mono ?_
                      rintro e w6 ⟨rfl, F6, G6, h6, j6, d6, t6⟩
                      have B6 := BX.out.turned t6 NBX.out
                      have y0 := B6.cell 0 rfl
                      have S6 := Lib.hid (SU0.out.turn t6)
                      have H6 := Lib.hid (And.intro h6 (And.intro j6 d6))
                      clear h6 j6 d6 t6 B6 a0 a1 a2 x0 x1 x2
                      go_wp2_with fail
                      go_roundw
                      case rel => exact ⟨q1, A10, N10, c10, L10, F6, G6, f, ar, HQN.out, rfl, rfl, rfl, Lib.hid (by have := HLQ.out; have := HQ1.out; omega), HFI, CL, Lib.hid H6.out.1, Lib.hid H6.out.2.1, Lib.hid H6.out.2.2, S6⟩
                      case measure => simp [intOf]; have := HQ1.out; omega
                    · have hkk : ((r.kind : Int) == 0) = false := by rw [beq_eq_false_iff_ne]; omega
                      rcases add_off CL.out HFI.out (by have := HLB.out; omega) hro hk ar with ⟨s6, hadd, hoff⟩ | ⟨f6, a6, hadd, hcl⟩
                      · have AD := Lib.hid (jrAdd_any (HV.out.keep k0) HZ.out HS.out (HJ.out.keep k0) HD.out (Nat.le_refl _) r hro hadd)
                        rw [if_neg (by decide)] at AD
                        have OF := Lib.hid hoff
                        unfold recC at AD
                        clear hr hro k0 hk hqn hq1 hadd hoff
                        go_wp2_with fail
                        refine AD.out.mono ?_
                        rintro e w6 ⟨rfl, FZ, G6, h6, j6, d6, t6⟩
                        have B6 := BX.out.turned t6 NBX.out
                        have y0 := B6.cell 0 rfl
                        have y1 := B6.cell 1 rfl
                        have y2 := B6.cell 2 rfl
                        have kB := keeps_alloc w6 (.cells #[.int .u32 (r.kind : Int), .int .u32 (r.a : Int), .int .u32 (r.b : Int)] 43)
                        have S6 := Lib.hid (((SU0.out.turn t6).weak (F' := FZ) (fun i hi => .inl hi)).keep kB)
                        have H6 := Lib.hid (h6.keep kB)
                        have U6 := Lib.hid (show UndAt w (w6.alloc (.cells #[.int .u32 (r.kind : Int), .int .u32 (r.a : Int), .int .u32 (r.b : Int)] 43)) FZ w6.heap.size r from ⟨Box.new _ _ _, fun hf => by have := K.lt h6.D _ hf; omega⟩)
                        have DE := K.dead (H6.out.z HZ.out) H6.out.D
                        rw [OF.out.1] at DE
                        have DD := Lib.hid DE
                        unfold dpt at DD
                        clear h6 j6 d6 t6 B6 kB DE a0 a1 a2 x0 x1 x2
                        go_wp2_with fail
                        refine DD.out.mono ?_
                        rintro e wz ⟨rfl, kz⟩
                        have HVZ := Lib.hid (H6.out.keep kz)
                        have SU := Lib.hid (S6.out.keep kz)
                        have UD := Lib.hid (U6.out.keep kz)
                        have QZ := Lib.hid (show L10.length + 1 ≤ q1 ∧ q1 ≤ n ∧ n ≤ 40 from ⟨by have := HLQ.out; have := HQ1.out; omega, HQN.out, HNB.out.1⟩)
                        clear kz HV
                        have HV := HVZ
                        as_aux_lemma =>
                          by_cases hkt : t < nk
                          · have hkti : (t : Int) < (nk : Int) := by omega
                            obtain ⟨kr, hkr⟩ : ∃ kr, ks[t]? = some kr := ⟨_, List.getElem?_eq_getElem (by have := HNK.out; omega)⟩
                            obtain ⟨kd, rfl, kc, kg⟩ := (HKS.out.keep HV.out.kp).get hkr
                            have hkl : kr.n ≤ 100 := HK100.out kr (List.mem_of_getElem? hkr)
                            have KG := Lib.hid kg
                            have hklb : (kr.n : Int) ≤ 100 := by omega
                            have HKL := Lib.hid hkl
                            clear hkr kg
                            obtain ⟨son, hon, g9, L9, ho9, hc9, hf9, hw9⟩ := OF.out.2 kr.l
                            have HON := Lib.hid hon
                            have HO9 := Lib.hid ho9
                            have HC9 := Lib.hid hc9
                            have HF9 := Lib.hid hf9
                            have HW9 := Lib.hid hw9
                            have O0 := Lib.hid (own_emptyJ wz 3 1)
                            have kE := keeps_alloc wz (.cells #[] 3)
                            have S0 := Lib.hid (SU.out.keep kE)
                            have HV0 := Lib.hid (HV.out.keep kE)
                            have U0 := Lib.hid (UD.out.keep kE)
                            have KAT := Lib.hid ((KG.out.b.keep kE).more kE.size)
                            clear hon ho9 hc9 hf9 hw9 kE
                            go_wp2_with (at_builtin; refine wpList_app _ rfl _ _ 47 rfl wz.heap.size 3 i1 (.int .i64 0) 1 8 Tryd.underlying47 hi1 hy0 hy1 hy2 rfl (by decide) _ 0 [] rfl O0.out _ kr.A kr.n kr.c (intC kr.l) rfl (by rw [intC_length, ← KG.out.len, Nat.mul_one]) KAT.out (fun u hu => by simp only [intC, List.mem_map] at hu; obtain ⟨x, -, rfl⟩ := hu; rfl) (by unfold maxLen; omega) (by omega) (by simp) ?_; intro v20 w20 hown20 hgrow20 hblk20)
                            have hgk : ∀ k, (Value.slice (some ⟨wz.heap.size, 0, none⟩) 0 0).ownBlock = some k → w.heap.size ≤ k ∧ ¬ FZ k := fun k hk => by
                              have := (O0.out.lt k hk).1
                              exact ⟨Nat.le_trans HV.out.kp.size this, fun hf => by have := K.lt HV.out.D k hf; omega⟩
                            have HV20 := Lib.hid (HV0.out.grown_ hgrow20 hgk)
                            have S20 := Lib.hid (show SureAt w w20 FZ A10 N10 c10 L10 from ⟨S0.out.own.same (fun k hk => hgrow20.block k (S0.out.own.lt k hk).2 (fun e => by
                              have h1 := (SU.out.own.lt k hk).2
                              have e2 := Option.some.inj (show some k = some wz.heap.size from e)
                              omega)), S0.out.len, S0.out.out⟩)
                            have O20 := Lib.hid (show Own w20 wz.heap.size 3 1 v20 kr.n (intC kr.l) by simpa [intC] using hown20)
                            have U20 := Lib.hid (U0.out.grown hgrow20 (fun e => by
                              have h1 := UD.out.box.lt
                              have e2 := Option.some.inj (show some wz.heap.size = some _ from e)
                              omega))
                            clear hown20 hgrow20 hblk20 hgk
                            obtain ⟨A20, c20, rfl, -⟩ := O20.out.form
                            have ON := Lib.hid (HV20.out.onU_ HZ.out A20 kr.n c20 kr.l O20.out.at_ (fun ad ha hf => by
                              subst ha
                              have h1 := (O20.out.lt ad.block rfl).1
                              have h2 := K.lt HV.out.D _ hf
                              omega) KG.out.len O20.out.capj.1 (by have := HKL.out; omega) HON.out)
                            go_wp2_with fail
                            refine ON.out.mono ?_
                            rintro e w21 ⟨rfl, F21, h21, t21⟩
                            have S21 := Lib.hid (S20.out.turn t21)
                            have U21 := Lib.hid (U20.out.turn t21)
                            have OP := Lib.hid (jrOpen_any h21 HZ.out HS.out HO9.out)
                            clear h21 t21
                            go_wp2_with fail
                            refine OP.out.mono ?_
                            rintro e w22 ⟨F22, h22, t22, ⟨-, j22, G22, rfl, hj22, -⟩ | ⟨hbad, -⟩⟩
                            rotate_left
                            · exact absurd rfl hbad
                            have S22 := Lib.hid (S21.out.turn t22)
                            have H22 := Lib.hid h22
                            have RC := Lib.hid (jrRecs_any hj22)
                            have U22 := Lib.hid (U21.out.turn t22)
                            clear h22 t22 hj22
                            rcases HW9.out with hw | ⟨x, hx, hw⟩
                            · obtain rfl := hw
                              have hlenL : L9.length = N10 := SU.out.len.symm
                              rw [hlenL] at RC
                              clear hlenL
                              go_wp2_with fail
                              refine RC.out.mono ?_
                              rintro e w23 ⟨A23, c23, rfl, o23, k23⟩
                              have S23 := Lib.hid (S22.out.keep k23)
                              have H23 := Lib.hid (H22.out.keep k23)
                              have BG := Lib.hid (begins_any A23 N10 c23 L9 A10 N10 c10 L9 w23 o23.at_ SU.out.len o23.capj.1 S23.out.own.at_ SU.out.len (Nat.le_refl _) (by rw [SU.out.len, List.take_length]) (by have := QZ.out; have := SU.out.len; omega))
                              clear o23 k23
                              go_wp2_with fail
                              refine BG.out.mono ?_
                              rintro e w24 ⟨rfl, k24⟩
                              have S24 := Lib.hid (S23.out.keep k24)
                              have H24 := Lib.hid (H23.out.keep k24)
                              have ON24 := Lib.hid (OnJ.clean HC9.out 0)
                              have LQ := Lib.hid (show L9.length ≤ q1 by have := QZ.out; have := SU.out.len; omega)
                              have hgt1 : ¬ (N10 : Int) + 1 < (N10 : Int) := by omega
                              have hgt2 : ¬ (N10 : Int) < (N10 : Int) := by omega
                              have hNb : (N10 : Int) ≤ 40 := by have := QZ.out; have := SU.out.len; omega
                              clear k24
                              go_wp2_with fail
                              go_roundw
                              case rel => exact ⟨t + 1, q1, A10, N10, c10, L9, F22, _, by omega, by omega, by go_num, rfl, rfl, LQ, HF9, ON24, H24, S24⟩
                              case measure => simp [intOf] <;> omega
                            · obtain rfl := Option.some.inj hx
                              have hlenL : L9.length = N10 + 1 := by rw [hw, List.length_append, ← SU.out.len]; rfl
                              have HLL := Lib.hid hlenL
                              have HTK := Lib.hid (show L9.take N10 = L10 by rw [hw, SU.out.len]; exact List.take_left)
                              have HGT := Lib.hid (show L9[N10]? = some r by rw [hw, SU.out.len, List.getElem?_append_right (Nat.le_refl _), Nat.sub_self]; rfl)
                              have HWW := Lib.hid hw
                              rw [hlenL] at RC
                              clear hw hlenL hx
                              go_wp2_with fail
                              refine RC.out.mono ?_
                              rintro e w23 ⟨A23, c23, rfl, o23, k23⟩
                              have S23 := Lib.hid (S22.out.keep k23)
                              have H23 := Lib.hid (H22.out.keep k23)
                              have U23 := Lib.hid (U22.out.keep k23)
                              have O23 := Lib.hid o23
                              have BG := Lib.hid (begins_any A23 (N10 + 1) c23 L9 A10 N10 c10 L10 w23 o23.at_ HLL.out.symm o23.capj.1 S23.out.own.at_ SU.out.len (Nat.le_succ _) HTK.out (by have := QZ.out; have := SU.out.len; omega))
                              clear o23 k23
                              go_wp2_with fail
                              refine BG.out.mono ?_
                              rintro e w24 ⟨rfl, k24⟩
                              have S24 := Lib.hid (S23.out.keep k24)
                              have H24 := Lib.hid (H23.out.keep k24)
                              have U24 := Lib.hid (U23.out.keep k24)
                              obtain ⟨rd, rfl, a0, a1, a2⟩ := rec_cells (O23.out.keep k24).at_ HGT.out
                              have b0 := U24.out.box.cell 0 rfl
                              have b1 := U24.out.box.cell 1 rfl
                              have b2 := U24.out.box.cell 2 rfl
                              have EQ := run_recEq (r.kind : Int) (r.a : Int) (r.b : Int) (r.kind : Int) (r.a : Int) (r.b : Int)
                              rw [rec_beq, decide_eq_true rfl] at EQ
                              have ON24 := Lib.hid (OnJ.clean HC9.out 0)
                              have LQ := Lib.hid (show L9.length ≤ q1 by have := QZ.out; have := SU.out.len; have := HLL.out; omega)
                              have hgt1 : ¬ (N10 : Int) + 1 < (N10 : Int) + 1 := by omega
                              have hgt2 : (N10 : Int) < (N10 : Int) + 1 := by omega
                              have hidx : (N10 : Int) < (N10 : Int) + 1 := by omega
                              have hNb : N10 ≤ 40 := by have := QZ.out; have := SU.out.len; omega
                              clear k24
                              go_wp2_with fail
                              go_quiet (fail)
                              have kq := keeps_drewN w24 nq
                              have S25 := Lib.hid ((S24.out.keep kq).keep (keeps_alloc _ (.cells #[.int .u32 (r.kind : Int), .int .u32 (r.a : Int), .int .u32 (r.b : Int)] 43)))
                              have H25 := Lib.hid ((H24.out.keep kq).keep (keeps_alloc _ (.cells #[.int .u32 (r.kind : Int), .int .u32 (r.a : Int), .int .u32 (r.b : Int)] 43)))
                              have BU := U24.out.box.keep kq
                              have d0 := BU.cell 0 rfl
                              have d1 := BU.cell 1 rfl
                              have d2 := BU.cell 2 rfl
                              clear kq BU a0 a1 a2 b0 b1 b2 EQ
                              generalize w24.drewN nq = wq at *
                              go_wp2_with (at_builtin; refine wpList_app _ rfl _ _ 36 rfl w.heap.size 43 i0 (.agg #[.int .u32 0, .int .u32 0, .int .u32 0]) 3 12 Tryd.underlying36 hi0 hz0 hz1 hz2 rfl (by decide) _ N10 _ rfl S25.out.own _ (some ⟨wq.heap.size, 0, none⟩) 1 1 (recC r) rfl rfl (At.new _ _ _ _ (Nat.lt_succ_self _)) (recC_one r) (by unfold maxLen; omega) (by omega) (by have := H25.out.kp.size; exact this) ?_; intro v26 w26 hown26 hgrow26 hblk26)
                              have H26 := Lib.hid (H25.out.grown_ hgrow26 (fun k hk => ⟨(S25.out.own.lt k hk).1, S25.out.out k hk⟩))
                              obtain ⟨A26, c26, rfl, -⟩ := hown26.form
                              have S26 := Lib.hid (show SureAt w w26 F22 A26 (N10 + 1) c26 L9 from ⟨by rw [HWW.out, rowsC_snoc]; exact hown26, HLL.out.symm, fun k hk => by
                                rcases hblk26 with e | e
                                · rw [e] at hk; exact S25.out.out k hk
                                · rw [e] at hk
                                  injection hk with hk
                                  intro hf
                                  have := K.lt H25.out.D k hf
                                  omega⟩)
                              clear hown26 hgrow26 hblk26
                              go_wp2_with fail
                              go_roundw
                              case rel => exact ⟨t + 1, q1, A26, N10 + 1, c26, L9, F22, _, by omega, by omega, by go_num, rfl, by go_num, LQ, HF9, ON24, H26, S26⟩
                              case measure => simp [intOf] <;> omega
                          · have hkti : ¬ (t : Int) < (nk : Int) := by omega
                            obtain ⟨son, hon, g9, L9, ho9, hc9, hf9, hw9⟩ := OF.out.2 []
                            have HON := Lib.hid hon
                            have HO9 := Lib.hid ho9
                            have HC9 := Lib.hid hc9
                            have HF9 := Lib.hid hf9
                            have HW9 := Lib.hid hw9
                            have O0 := Lib.hid (own_emptyJ wz 3 1)
                            have kE := keeps_alloc wz (.cells #[] 3)
                            have S0 := Lib.hid (SU.out.keep kE)
                            have HV0 := Lib.hid (HV.out.keep kE)
                            have U0 := Lib.hid (UD.out.keep kE)
                            clear hon ho9 hc9 hf9 hw9 kE
                            go_wp2_with (at_builtin; refine wpList_app _ rfl _ _ 47 rfl wz.heap.size 3 i1 (.int .i64 0) 1 8 Tryd.underlying47 hi1 hy0 hy1 hy2 rfl (by decide) _ 0 [] rfl O0.out _ none 0 0 (intC []) rfl rfl (At.nil _ (wz.alloc (.cells #[] 3)).heap.size _) (fun u hu => by simp only [intC, List.mem_map] at hu; obtain ⟨x, -, rfl⟩ := hu; rfl) (by unfold maxLen; omega) (by omega) (by simp) ?_; intro v20 w20 hown20 hgrow20 hblk20)
                            have hgk : ∀ k, (Value.slice (some ⟨wz.heap.size, 0, none⟩) 0 0).ownBlock = some k → w.heap.size ≤ k ∧ ¬ FZ k := fun k hk => by
                              have := (O0.out.lt k hk).1
                              exact ⟨Nat.le_trans HV.out.kp.size this, fun hf => by have := K.lt HV.out.D k hf; omega⟩
                            have HV20 := Lib.hid (HV0.out.grown_ hgrow20 hgk)
                            have S20 := Lib.hid (show SureAt w w20 FZ A10 N10 c10 L10 from ⟨S0.out.own.same (fun k hk => hgrow20.block k (S0.out.own.lt k hk).2 (fun e => by
                              have h1 := (SU.out.own.lt k hk).2
                              have e2 := Option.some.inj (show some k = some wz.heap.size from e)
                              omega)), S0.out.len, S0.out.out⟩)
                            have O20 := Lib.hid (show Own w20 wz.heap.size 3 1 v20 0 (intC []) by simpa [intC] using hown20)
                            have U20 := Lib.hid (U0.out.grown hgrow20 (fun e => by
                              have h1 := UD.out.box.lt
                              have e2 := Option.some.inj (show some wz.heap.size = some _ from e)
                              omega))
                            clear hown20 hgrow20 hblk20 hgk
                            obtain ⟨A20, c20, rfl, -⟩ := O20.out.form
                            have ON := Lib.hid (HV20.out.onU_ HZ.out A20 0 c20 [] O20.out.at_ (fun ad ha hf => by
                              subst ha
                              have h1 := (O20.out.lt ad.block rfl).1
                              have h2 := K.lt HV.out.D _ hf
                              omega) rfl O20.out.capj.1 (by decide) HON.out)
                            go_wp2_with fail
                            refine ON.out.mono ?_
                            rintro e w21 ⟨rfl, F21, h21, t21⟩
                            have S21 := Lib.hid (S20.out.turn t21)
                            have U21 := Lib.hid (U20.out.turn t21)
                            have OP := Lib.hid (jrOpen_any h21 HZ.out HS.out HO9.out)
                            clear h21 t21
                            go_wp2_with fail
                            refine OP.out.mono ?_
                            rintro e w22 ⟨F22, h22, t22, ⟨-, j22, G22, rfl, hj22, -⟩ | ⟨hbad, -⟩⟩
                            rotate_left
                            · exact absurd rfl hbad
                            have S22 := Lib.hid (S21.out.turn t22)
                            have H22 := Lib.hid h22
                            have RC := Lib.hid (jrRecs_any hj22)
                            have U22 := Lib.hid (U21.out.turn t22)
                            clear h22 t22 hj22
                            rcases HW9.out with hw | ⟨x, hx, hw⟩
                            · obtain rfl := hw
                              have hlenL : L9.length = N10 := SU.out.len.symm
                              rw [hlenL] at RC
                              clear hlenL
                              go_wp2_with fail
                              refine RC.out.mono ?_
                              rintro e w23 ⟨A23, c23, rfl, o23, k23⟩
                              have S23 := Lib.hid (S22.out.keep k23)
                              have H23 := Lib.hid (H22.out.keep k23)
                              have BG := Lib.hid (begins_any A23 N10 c23 L9 A10 N10 c10 L9 w23 o23.at_ SU.out.len o23.capj.1 S23.out.own.at_ SU.out.len (Nat.le_refl _) (by rw [SU.out.len, List.take_length]) (by have := QZ.out; have := SU.out.len; omega))
                              clear o23 k23
                              go_wp2_with fail
                              refine BG.out.mono ?_
                              rintro e w24 ⟨rfl, k24⟩
                              have S24 := Lib.hid (S23.out.keep k24)
                              have H24 := Lib.hid (H23.out.keep k24)
                              have ON24 := Lib.hid (OnJ.clean HC9.out 0)
                              have LQ := Lib.hid (show L9.length ≤ q1 by have := QZ.out; have := SU.out.len; omega)
                              have hgt1 : ¬ (N10 : Int) + 1 < (N10 : Int) := by omega
                              have hgt2 : ¬ (N10 : Int) < (N10 : Int) := by omega
                              have hNb : (N10 : Int) ≤ 40 := by have := QZ.out; have := SU.out.len; omega
                              clear k24
                              go_wp2_with fail
                              go_roundw
                              case rel => exact ⟨t + 1, q1, A10, N10, c10, L9, F22, _, by omega, by omega, by go_num, rfl, rfl, LQ, HF9, ON24, H24, S24⟩
                              case measure => simp [intOf] <;> omega
                            · obtain rfl := Option.some.inj hx
                              have hlenL : L9.length = N10 + 1 := by rw [hw, List.length_append, ← SU.out.len]; rfl
                              have HLL := Lib.hid hlenL
                              have HTK := Lib.hid (show L9.take N10 = L10 by rw [hw, SU.out.len]; exact List.take_left)
                              have HGT := Lib.hid (show L9[N10]? = some r by rw [hw, SU.out.len, List.getElem?_append_right (Nat.le_refl _), Nat.sub_self]; rfl)
                              have HWW := Lib.hid hw
                              rw [hlenL] at RC
                              clear hw hlenL hx
                              go_wp2_with fail
                              refine RC.out.mono ?_
                              rintro e w23 ⟨A23, c23, rfl, o23, k23⟩
                              have S23 := Lib.hid (S22.out.keep k23)
                              have H23 := Lib.hid (H22.out.keep k23)
                              have U23 := Lib.hid (U22.out.keep k23)
                              have O23 := Lib.hid o23
                              have BG := Lib.hid (begins_any A23 (N10 + 1) c23 L9 A10 N10 c10 L10 w23 o23.at_ HLL.out.symm o23.capj.1 S23.out.own.at_ SU.out.len (Nat.le_succ _) HTK.out (by have := QZ.out; have := SU.out.len; omega))
                              clear o23 k23
                              go_wp2_with fail
                              refine BG.out.mono ?_
                              rintro e w24 ⟨rfl, k24⟩
                              have S24 := Lib.hid (S23.out.keep k24)
                              have H24 := Lib.hid (H23.out.keep k24)
                              have U24 := Lib.hid (U23.out.keep k24)
                              obtain ⟨rd, rfl, a0, a1, a2⟩ := rec_cells (O23.out.keep k24).at_ HGT.out
                              have b0 := U24.out.box.cell 0 rfl
                              have b1 := U24.out.box.cell 1 rfl
                              have b2 := U24.out.box.cell 2 rfl
                              have EQ := run_recEq (r.kind : Int) (r.a : Int) (r.b : Int) (r.kind : Int) (r.a : Int) (r.b : Int)
                              rw [rec_beq, decide_eq_true rfl] at EQ
                              have ON24 := Lib.hid (OnJ.clean HC9.out 0)
                              have LQ := Lib.hid (show L9.length ≤ q1 by have := QZ.out; have := SU.out.len; have := HLL.out; omega)
                              have hgt1 : ¬ (N10 : Int) + 1 < (N10 : Int) + 1 := by omega
                              have hgt2 : (N10 : Int) < (N10 : Int) + 1 := by omega
                              have hidx : (N10 : Int) < (N10 : Int) + 1 := by omega
                              have hNb : N10 ≤ 40 := by have := QZ.out; have := SU.out.len; omega
                              clear k24
                              go_wp2_with fail
                              go_quiet (fail)
                              have kq := keeps_drewN w24 nq
                              have S25 := Lib.hid ((S24.out.keep kq).keep (keeps_alloc _ (.cells #[.int .u32 (r.kind : Int), .int .u32 (r.a : Int), .int .u32 (r.b : Int)] 43)))
                              have H25 := Lib.hid ((H24.out.keep kq).keep (keeps_alloc _ (.cells #[.int .u32 (r.kind : Int), .int .u32 (r.a : Int), .int .u32 (r.b : Int)] 43)))
                              have BU := U24.out.box.keep kq
                              have d0 := BU.cell 0 rfl
                              have d1 := BU.cell 1 rfl
                              have d2 := BU.cell 2 rfl
                              clear kq BU a0 a1 a2 b0 b1 b2 EQ
                              generalize w24.drewN nq = wq at *
                              go_wp2_with (at_builtin; refine wpList_app _ rfl _ _ 36 rfl w.heap.size 43 i0 (.agg #[.int .u32 0, .int .u32 0, .int .u32 0]) 3 12 Tryd.underlying36 hi0 hz0 hz1 hz2 rfl (by decide) _ N10 _ rfl S25.out.own _ (some ⟨wq.heap.size, 0, none⟩) 1 1 (recC r) rfl rfl (At.new _ _ _ _ (Nat.lt_succ_self _)) (recC_one r) (by unfold maxLen; omega) (by omega) (by have := H25.out.kp.size; exact this) ?_; intro v26 w26 hown26 hgrow26 hblk26)
                              have H26 := Lib.hid (H25.out.grown_ hgrow26 (fun k hk => ⟨(S25.out.own.lt k hk).1, S25.out.out k hk⟩))
                              obtain ⟨A26, c26, rfl, -⟩ := hown26.form
                              have S26 := Lib.hid (show SureAt w w26 F22 A26 (N10 + 1) c26 L9 from ⟨by rw [HWW.out, rowsC_snoc]; exact hown26, HLL.out.symm, fun k hk => by
                                rcases hblk26 with e | e
                                · rw [e] at hk; exact S25.out.out k hk
                                · rw [e] at hk
                                  injection hk with hk
                                  intro hf
                                  have := K.lt H25.out.D k hf
                                  omega⟩)
                              clear hown26 hgrow26 hblk26
                              go_wp2_with fail
                              go_roundw
                              case rel => exact ⟨t + 1, q1, A26, N10 + 1, c26, L9, F22, _, by omega, by omega, by go_num, rfl, by go_num, LQ, HF9, ON24, H26, S26⟩
                              case measure => simp [intOf] <;> omega
                      · have AD := Lib.hid (jrAdd_any (HV.out.keep k0) HZ.out HS.out (HJ.out.keep k0) HD.out (Nat.le_refl _) r hro hadd)
                        rw [if_pos rfl] at AD
                        have CL6 := Lib.hid hcl
                        have FI6 := Lib.hid (HFI.out.snoc hro hk)
                        unfold recC at AD
                        clear hr hro k0 hk hqn hq1 hadd hcl
                        go_wp2_with fail
                        refine AD.out.mono ?_
                        rintro e w6 ⟨rfl, F6, G6, h6, j6, d6, t6⟩
                        have B6 := BX.out.turned t6 NBX.out
                        have y0 := B6.cell 0 rfl
                        have y1 := B6.cell 1 rfl
                        have y2 := B6.cell 2 rfl
                        have kB := keeps_alloc w6 (.cells #[.int .u32 (r.kind : Int), .int .u32 (r.a : Int), .int .u32 (r.b : Int)] 43)
                        have S6 := Lib.hid ((SU0.out.turn t6).keep kB)
                        have H6 := Lib.hid (h6.keep kB)
                        have J6 := Lib.hid (j6.keep kB)
                        have D6 := Lib.hid d6
                        have hNb : N10 ≤ 40 := by have := HLB.out; have := HNL.out; omega
                        clear h6 j6 d6 t6 B6 kB a0 a1 a2 x0 x1 x2
                        go_wp2_with (at_builtin; refine wpList_app _ rfl _ _ 36 rfl w.heap.size 43 i0 (.agg #[.int .u32 0, .int .u32 0, .int .u32 0]) 3 12 Tryd.underlying36 hi0 hz0 hz1 hz2 rfl (by decide) _ N10 _ rfl S6.out.own _ (some ⟨w6.heap.size, 0, none⟩) 1 1 (recC r) rfl rfl (At.new _ _ _ _ (Nat.lt_succ_self _)) (recC_one r) (by unfold maxLen; omega) (by omega) (by have := H6.out.kp.size; exact this) ?_; intro v7 w7 hown7 hgrow7 hblk7)
                        have H7 := Lib.hid (H6.out.grown_ hgrow7 (fun k hk => ⟨(S6.out.own.lt k hk).1, fun hf => S6.out.out k hk (.inl hf)⟩))
                        have J7 := Lib.hid (J6.out.grown_ hgrow7 (fun k hk hg => S6.out.out k hk (.inr hg)))
                        obtain ⟨A7, c7, rfl, -⟩ := hown7.form
                        have S7 := Lib.hid (show SureAt w w7 (fun i => F6 i ∨ G6 i) A7 (N10 + 1) c7 (L10 ++ [r]) from ⟨by rw [rowsC_snoc]; exact hown7, by rw [List.length_append, ← HNL.out]; rfl, fun k hk => by
                          rcases hblk7 with e | e
                          · rw [e] at hk; exact S6.out.out k hk
                          · rw [e] at hk
                            injection hk with hk
                            rintro (hf | hf)
                            · have := K.lt H6.out.D k hf; omega
                            · have := J6.out.lt k hf; omega⟩)
                        clear hown7 hgrow7 hblk7 y0 y1 y2
                        go_wp2_with fail
                        go_roundw
                        case rel => exact ⟨q1, A7, N10 + 1, c7, L10 ++ [r], F6, G6, f6, a6, HQN.out, rfl, by go_num, rfl, Lib.hid (by rw [List.length_append]; have := HLQ.out; have := HQ1.out; simp; omega), FI6, CL6, H7, J7, D6, S7⟩
                        case measure => simp [intOf]; have := HQ1.out; omega
                  · obtain rfl : q = n := by omega
                    obtain ⟨hA1, hA2, hA3⟩ := arm_sync CL.out HFI.out (by have := HLB.out; omega) ar
                    have AM := Lib.hid (fun (V : World) (kk : Keeps wr V) => (HV.out.keep kk).armU_ HZ.out 1 ⟨by decide, by decide⟩ hA1)
                    have DD := Lib.hid (K.dead (HV.out.z HZ.out) HV.out.D)
                    rw [show (DJ 1024 f ar false).off = false from rfl] at DD
                    have OF := Lib.hid hA3
                    have HA2 := Lib.hid hA2
                    have SW := Lib.hid (HSU.out.weak (F' := F) (fun i hi => .inl hi))
                    unfold dpt at DD
                    clear hqn hq hA1 hA2 hA3
                    go_wp2_with fail
                    refine DD.out.mono ?_
                    rintro e w6 ⟨rfl, k6⟩
                    have AM6 := Lib.hid (AM.out _ k6)
                    have S6 := Lib.hid (SW.out.keep k6)
                    clear k6
                    go_wp2_with fail
                    refine AM6.out.mono ?_
                    rintro e w7 ⟨rfl, F7, h7, t7⟩
                    have SY := Lib.hid (h7.syncU_ HZ.out nmJ _ strJ.symm HA2.out)
                    have S7 := Lib.hid (S6.out.turn t7)
                    clear h7 t7
                    go_wp2_with fail
                    refine SY.out.mono ?_
                    rintro e wz ⟨rfl, FZ, hz, tz⟩
                    have HVZ := Lib.hid hz
                    have SU := Lib.hid (S7.out.turn tz)
                    have QZ := Lib.hid (show L10.length ≤ q ∧ q ≤ q ∧ q ≤ 40 from ⟨HLQ.out, Nat.le_refl _, HNB.out.1⟩)
                    have e66 : ((6 : Int) != 6) = false := rfl
                    clear hz tz HV
                    have HV := HVZ
                    as_aux_lemma =>
                      by_cases hkt : t < nk
                      · have hkti : (t : Int) < (nk : Int) := by omega
                        obtain ⟨kr, hkr⟩ : ∃ kr, ks[t]? = some kr := ⟨_, List.getElem?_eq_getElem (by have := HNK.out; omega)⟩
                        obtain ⟨kd, rfl, kc, kg⟩ := (HKS.out.keep HV.out.kp).get hkr
                        have hkl : kr.n ≤ 100 := HK100.out kr (List.mem_of_getElem? hkr)
                        have KG := Lib.hid kg
                        have hklb : (kr.n : Int) ≤ 100 := by omega
                        have HKL := Lib.hid hkl
                        clear hkr kg
                        obtain ⟨son, hon, g9, L9, ho9, hc9, hf9, hw9⟩ := OF.out.2 kr.l
                        have HON := Lib.hid hon
                        have HO9 := Lib.hid ho9
                        have HC9 := Lib.hid hc9
                        have HF9 := Lib.hid hf9
                        have HW9 := Lib.hid hw9
                        have O0 := Lib.hid (own_emptyJ wz 3 1)
                        have kE := keeps_alloc wz (.cells #[] 3)
                        have S0 := Lib.hid (SU.out.keep kE)
                        have HV0 := Lib.hid (HV.out.keep kE)
                        have KAT := Lib.hid ((KG.out.b.keep kE).more kE.size)
                        clear hon ho9 hc9 hf9 hw9 kE
                        go_wp2_with (at_builtin; refine wpList_app _ rfl _ _ 47 rfl wz.heap.size 3 i1 (.int .i64 0) 1 8 Tryd.underlying47 hi1 hy0 hy1 hy2 rfl (by decide) _ 0 [] rfl O0.out _ kr.A kr.n kr.c (intC kr.l) rfl (by rw [intC_length, ← KG.out.len, Nat.mul_one]) KAT.out (fun u hu => by simp only [intC, List.mem_map] at hu; obtain ⟨x, -, rfl⟩ := hu; rfl) (by unfold maxLen; omega) (by omega) (by simp) ?_; intro v20 w20 hown20 hgrow20 hblk20)
                        have hgk : ∀ k, (Value.slice (some ⟨wz.heap.size, 0, none⟩) 0 0).ownBlock = some k → w.heap.size ≤ k ∧ ¬ FZ k := fun k hk => by
                          have := (O0.out.lt k hk).1
                          exact ⟨Nat.le_trans HV.out.kp.size this, fun hf => by have := K.lt HV.out.D k hf; omega⟩
                        have HV20 := Lib.hid (HV0.out.grown_ hgrow20 hgk)
                        have S20 := Lib.hid (show SureAt w w20 FZ A10 N10 c10 L10 from ⟨S0.out.own.same (fun k hk => hgrow20.block k (S0.out.own.lt k hk).2 (fun e => by
                          have h1 := (SU.out.own.lt k hk).2
                          have e2 := Option.some.inj (show some k = some wz.heap.size from e)
                          omega)), S0.out.len, S0.out.out⟩)
                        have O20 := Lib.hid (show Own w20 wz.heap.size 3 1 v20 kr.n (intC kr.l) by simpa [intC] using hown20)
                        clear hown20 hgrow20 hblk20 hgk
                        obtain ⟨A20, c20, rfl, -⟩ := O20.out.form
                        have ON := Lib.hid (HV20.out.onU_ HZ.out A20 kr.n c20 kr.l O20.out.at_ (fun ad ha hf => by
                          subst ha
                          have h1 := (O20.out.lt ad.block rfl).1
                          have h2 := K.lt HV.out.D _ hf
                          omega) KG.out.len O20.out.capj.1 (by have := HKL.out; omega) HON.out)
                        go_wp2_with fail
                        refine ON.out.mono ?_
                        rintro e w21 ⟨rfl, F21, h21, t21⟩
                        have S21 := Lib.hid (S20.out.turn t21)
                        have OP := Lib.hid (jrOpen_any h21 HZ.out HS.out HO9.out)
                        clear h21 t21
                        go_wp2_with fail
                        refine OP.out.mono ?_
                        rintro e w22 ⟨F22, h22, t22, ⟨-, j22, G22, rfl, hj22, -⟩ | ⟨hbad, -⟩⟩
                        rotate_left
                        · exact absurd rfl hbad
                        have S22 := Lib.hid (S21.out.turn t22)
                        have H22 := Lib.hid h22
                        have RC := Lib.hid (jrRecs_any hj22)
                        clear h22 t22 hj22
                        have hw : L9 = L10 := by
                          rcases HW9.out with h | ⟨x, h, -⟩
                          · exact h
                          · cases h
                        obtain rfl := hw
                        have hlenL : L9.length = N10 := SU.out.len.symm
                        rw [hlenL] at RC
                        clear hlenL
                        go_wp2_with fail
                        refine RC.out.mono ?_
                        rintro e w23 ⟨A23, c23, rfl, o23, k23⟩
                        have S23 := Lib.hid (S22.out.keep k23)
                        have H23 := Lib.hid (H22.out.keep k23)
                        have BG := Lib.hid (begins_any A23 N10 c23 L9 A10 N10 c10 L9 w23 o23.at_ SU.out.len o23.capj.1 S23.out.own.at_ SU.out.len (Nat.le_refl _) (by rw [SU.out.len, List.take_length]) (by have := QZ.out; have := SU.out.len; omega))
                        clear o23 k23
                        go_wp2_with fail
                        refine BG.out.mono ?_
                        rintro e w24 ⟨rfl, k24⟩
                        have S24 := Lib.hid (S23.out.keep k24)
                        have H24 := Lib.hid (H23.out.keep k24)
                        have ON24 := Lib.hid (OnJ.clean HC9.out 0)
                        have LQ := Lib.hid (show L9.length ≤ q by have := QZ.out; have := SU.out.len; omega)
                        have hgt1 : ¬ (N10 : Int) + 1 < (N10 : Int) := by omega
                        have hgt2 : ¬ (N10 : Int) < (N10 : Int) := by omega
                        have hNb : (N10 : Int) ≤ 40 := by have := QZ.out; have := SU.out.len; omega
                        clear k24
                        go_wp2_with fail
                        go_roundw
                        case rel => exact ⟨t + 1, q, A10, N10, c10, L9, F22, _, by omega, by omega, by go_num, rfl, rfl, LQ, HF9, ON24, H24, S24⟩
                        case measure => simp [intOf] <;> omega
                      · have hkti : ¬ (t : Int) < (nk : Int) := by omega
                        obtain ⟨son, hon, g9, L9, ho9, hc9, hf9, hw9⟩ := OF.out.2 []
                        have HON := Lib.hid hon
                        have HO9 := Lib.hid ho9
                        have HC9 := Lib.hid hc9
                        have HF9 := Lib.hid hf9
                        have HW9 := Lib.hid hw9
                        have O0 := Lib.hid (own_emptyJ wz 3 1)
                        have kE := keeps_alloc wz (.cells #[] 3)
                        have S0 := Lib.hid (SU.out.keep kE)
                        have HV0 := Lib.hid (HV.out.keep kE)
                        clear hon ho9 hc9 hf9 hw9 kE
                        go_wp2_with (at_builtin; refine wpList_app _ rfl _ _ 47 rfl wz.heap.size 3 i1 (.int .i64 0) 1 8 Tryd.underlying47 hi1 hy0 hy1 hy2 rfl (by decide) _ 0 [] rfl O0.out _ none 0 0 (intC []) rfl rfl (At.nil _ (wz.alloc (.cells #[] 3)).heap.size _) (fun u hu => by simp only [intC, List.mem_map] at hu; obtain ⟨x, -, rfl⟩ := hu; rfl) (by unfold maxLen; omega) (by omega) (by simp) ?_; intro v20 w20 hown20 hgrow20 hblk20)
                        have hgk : ∀ k, (Value.slice (some ⟨wz.heap.size, 0, none⟩) 0 0).ownBlock = some k → w.heap.size ≤ k ∧ ¬ FZ k := fun k hk => by
                          have := (O0.out.lt k hk).1
                          exact ⟨Nat.le_trans HV.out.kp.size this, fun hf => by have := K.lt HV.out.D k hf; omega⟩
                        have HV20 := Lib.hid (HV0.out.grown_ hgrow20 hgk)
                        have S20 := Lib.hid (show SureAt w w20 FZ A10 N10 c10 L10 from ⟨S0.out.own.same (fun k hk => hgrow20.block k (S0.out.own.lt k hk).2 (fun e => by
                          have h1 := (SU.out.own.lt k hk).2
                          have e2 := Option.some.inj (show some k = some wz.heap.size from e)
                          omega)), S0.out.len, S0.out.out⟩)
                        have O20 := Lib.hid (show Own w20 wz.heap.size 3 1 v20 0 (intC []) by simpa [intC] using hown20)
                        clear hown20 hgrow20 hblk20 hgk
                        obtain ⟨A20, c20, rfl, -⟩ := O20.out.form
                        have ON := Lib.hid (HV20.out.onU_ HZ.out A20 0 c20 [] O20.out.at_ (fun ad ha hf => by
                          subst ha
                          have h1 := (O20.out.lt ad.block rfl).1
                          have h2 := K.lt HV.out.D _ hf
                          omega) rfl O20.out.capj.1 (by decide) HON.out)
                        go_wp2_with fail
                        refine ON.out.mono ?_
                        rintro e w21 ⟨rfl, F21, h21, t21⟩
                        have S21 := Lib.hid (S20.out.turn t21)
                        have OP := Lib.hid (jrOpen_any h21 HZ.out HS.out HO9.out)
                        clear h21 t21
                        go_wp2_with fail
                        refine OP.out.mono ?_
                        rintro e w22 ⟨F22, h22, t22, ⟨-, j22, G22, rfl, hj22, -⟩ | ⟨hbad, -⟩⟩
                        rotate_left
                        · exact absurd rfl hbad
                        have S22 := Lib.hid (S21.out.turn t22)
                        have H22 := Lib.hid h22
                        have RC := Lib.hid (jrRecs_any hj22)
                        clear h22 t22 hj22
                        have hw : L9 = L10 := by
                          rcases HW9.out with h | ⟨x, h, -⟩
                          · exact h
                          · cases h
                        obtain rfl := hw
                        have hlenL : L9.length = N10 := SU.out.len.symm
                        rw [hlenL] at RC
                        clear hlenL
                        go_wp2_with fail
                        refine RC.out.mono ?_
                        rintro e w23 ⟨A23, c23, rfl, o23, k23⟩
                        have S23 := Lib.hid (S22.out.keep k23)
                        have H23 := Lib.hid (H22.out.keep k23)
                        have BG := Lib.hid (begins_any A23 N10 c23 L9 A10 N10 c10 L9 w23 o23.at_ SU.out.len o23.capj.1 S23.out.own.at_ SU.out.len (Nat.le_refl _) (by rw [SU.out.len, List.take_length]) (by have := QZ.out; have := SU.out.len; omega))
                        clear o23 k23
                        go_wp2_with fail
                        refine BG.out.mono ?_
                        rintro e w24 ⟨rfl, k24⟩
                        have S24 := Lib.hid (S23.out.keep k24)
                        have H24 := Lib.hid (H23.out.keep k24)
                        have ON24 := Lib.hid (OnJ.clean HC9.out 0)
                        have LQ := Lib.hid (show L9.length ≤ q by have := QZ.out; have := SU.out.len; omega)
                        have hgt1 : ¬ (N10 : Int) + 1 < (N10 : Int) := by omega
                        have hgt2 : ¬ (N10 : Int) < (N10 : Int) := by omega
                        have hNb : (N10 : Int) ≤ 40 := by have := QZ.out; have := SU.out.len; omega
                        clear k24
                        go_wp2_with fail
                        go_roundw
                        case rel => exact ⟨t + 1, q, A10, N10, c10, L9, F22, _, by omega, by omega, by go_num, rfl, rfl, LQ, HF9, ON24, H24, S24⟩
                        case measure => simp [intOf] <;> omega
            · obtain rfl : t = nf := by omega
              have hlti : ¬ (t : Int) < (t : Int) := by omega
              have heq : ((t : Int) == (t : Int)) = true := by simp
              obtain ⟨s2, hs2, hon2⟩ := HON.out.arm 0
              have AR := Lib.hid (HV0.out.armU_ HZ.out ((0 : Nat) : Int) ⟨by omega, by omega⟩ hs2)
              rw [show ((0 : Nat) : Int) = 0 from rfl] at AR
              have HON2 := Lib.hid hon2
              clear hlt hlt2 hs2 hon2
              go_wp2_with fail
              refine AR.out.mono ?_
              rintro e w2 ⟨rfl, F2, h2, t2⟩
              have SU2 := Lib.hid (HSU.out.turn t2)
              have H2 := Lib.hid h2
              have HLB := Lib.hid (show L10.length ≤ 40 by have := HLQ.out; have := HNB.out.1; omega)
              clear h2 t2
              have e1 : ((0 : Int) != 0) = false := rfl
              have e2 : ((0 : Int) == 0) = true := rfl
              rcases HON2.out.open HFI.out (by have := HLB.out; omega) with ⟨s3, qq, ho, hoff⟩ | ⟨f3, a3, ho, hcl⟩
              · have OP := Lib.hid (jrOpen_any H2.out HZ.out HS.out ho)
                have OF := Lib.hid hoff
                clear ho hoff
                go_wp2_with fail
                refine OP.out.mono ?_
                rintro e wy ⟨FZ, h3, t3, ⟨hbad, -⟩ | ⟨-, rfl⟩⟩
                · exact absurd hbad (by decide)
                have SU3 := Lib.hid (SU2.out.turn t3)
                have H3 := Lib.hid h3
                have DE := K.dead (h3.z HZ.out) h3.D
                rw [OF.out.1] at DE
                have DD := Lib.hid DE
                unfold dpt at DD
                clear h3 t3 DE
                go_wp2_with fail
                refine DD.out.mono ?_
                rintro e wz ⟨rfl, kz⟩
                have HV := Lib.hid (H3.out.keep kz)
                have SU := Lib.hid (SU3.out.keep kz)
                have QZ := Lib.hid (show L10.length ≤ q ∧ q ≤ n ∧ n ≤ 40 from ⟨HLQ.out, hq, HNB.out.1⟩)
                clear kz
                as_aux_lemma =>
                  by_cases hkt : t < nk
                  · have hkti : (t : Int) < (nk : Int) := by omega
                    obtain ⟨kr, hkr⟩ : ∃ kr, ks[t]? = some kr := ⟨_, List.getElem?_eq_getElem (by have := HNK.out; omega)⟩
                    obtain ⟨kd, rfl, kc, kg⟩ := (HKS.out.keep HV.out.kp).get hkr
                    have hkl : kr.n ≤ 100 := HK100.out kr (List.mem_of_getElem? hkr)
                    have KG := Lib.hid kg
                    have hklb : (kr.n : Int) ≤ 100 := by omega
                    have HKL := Lib.hid hkl
                    clear hkr kg
                    obtain ⟨son, hon, g9, L9, ho9, hc9, hf9, hw9⟩ := OF.out.2 kr.l
                    have HON := Lib.hid hon
                    have HO9 := Lib.hid ho9
                    have HC9 := Lib.hid hc9
                    have HF9 := Lib.hid hf9
                    have HW9 := Lib.hid hw9
                    have O0 := Lib.hid (own_emptyJ wz 3 1)
                    have kE := keeps_alloc wz (.cells #[] 3)
                    have S0 := Lib.hid (SU.out.keep kE)
                    have HV0 := Lib.hid (HV.out.keep kE)
                    have KAT := Lib.hid ((KG.out.b.keep kE).more kE.size)
                    clear hon ho9 hc9 hf9 hw9 kE
                    go_wp2_with (at_builtin; refine wpList_app _ rfl _ _ 47 rfl wz.heap.size 3 i1 (.int .i64 0) 1 8 Tryd.underlying47 hi1 hy0 hy1 hy2 rfl (by decide) _ 0 [] rfl O0.out _ kr.A kr.n kr.c (intC kr.l) rfl (by rw [intC_length, ← KG.out.len, Nat.mul_one]) KAT.out (fun u hu => by simp only [intC, List.mem_map] at hu; obtain ⟨x, -, rfl⟩ := hu; rfl) (by unfold maxLen; omega) (by omega) (by simp) ?_; intro v20 w20 hown20 hgrow20 hblk20)
                    have hgk : ∀ k, (Value.slice (some ⟨wz.heap.size, 0, none⟩) 0 0).ownBlock = some k → w.heap.size ≤ k ∧ ¬ FZ k := fun k hk => by
                      have := (O0.out.lt k hk).1
                      exact ⟨Nat.le_trans HV.out.kp.size this, fun hf => by have := K.lt HV.out.D k hf; omega⟩
                    have HV20 := Lib.hid (HV0.out.grown_ hgrow20 hgk)
                    have S20 := Lib.hid (show SureAt w w20 FZ A10 N10 c10 L10 from ⟨S0.out.own.same (fun k hk => hgrow20.block k (S0.out.own.lt k hk).2 (fun e => by
                      have h1 := (SU.out.own.lt k hk).2
                      have e2 := Option.some.inj (show some k = some wz.heap.size from e)
                      omega)), S0.out.len, S0.out.out⟩)
                    have O20 := Lib.hid (show Own w20 wz.heap.size 3 1 v20 kr.n (intC kr.l) by simpa [intC] using hown20)
                    clear hown20 hgrow20 hblk20 hgk
                    obtain ⟨A20, c20, rfl, -⟩ := O20.out.form
                    have ON := Lib.hid (HV20.out.onU_ HZ.out A20 kr.n c20 kr.l O20.out.at_ (fun ad ha hf => by
                      subst ha
                      have h1 := (O20.out.lt ad.block rfl).1
                      have h2 := K.lt HV.out.D _ hf
                      omega) KG.out.len O20.out.capj.1 (by have := HKL.out; omega) HON.out)
                    go_wp2_with fail
                    refine ON.out.mono ?_
                    rintro e w21 ⟨rfl, F21, h21, t21⟩
                    have S21 := Lib.hid (S20.out.turn t21)
                    have OP := Lib.hid (jrOpen_any h21 HZ.out HS.out HO9.out)
                    clear h21 t21
                    go_wp2_with fail
                    refine OP.out.mono ?_
                    rintro e w22 ⟨F22, h22, t22, ⟨-, j22, G22, rfl, hj22, -⟩ | ⟨hbad, -⟩⟩
                    rotate_left
                    · exact absurd rfl hbad
                    have S22 := Lib.hid (S21.out.turn t22)
                    have H22 := Lib.hid h22
                    have RC := Lib.hid (jrRecs_any hj22)
                    clear h22 t22 hj22
                    have hw : L9 = L10 := by
                      rcases HW9.out with h | ⟨x, h, -⟩
                      · exact h
                      · cases h
                    obtain rfl := hw
                    have hlenL : L9.length = N10 := SU.out.len.symm
                    rw [hlenL] at RC
                    clear hlenL
                    go_wp2_with fail
                    refine RC.out.mono ?_
                    rintro e w23 ⟨A23, c23, rfl, o23, k23⟩
                    have S23 := Lib.hid (S22.out.keep k23)
                    have H23 := Lib.hid (H22.out.keep k23)
                    have BG := Lib.hid (begins_any A23 N10 c23 L9 A10 N10 c10 L9 w23 o23.at_ SU.out.len o23.capj.1 S23.out.own.at_ SU.out.len (Nat.le_refl _) (by rw [SU.out.len, List.take_length]) (by have := QZ.out; have := SU.out.len; omega))
                    clear o23 k23
                    go_wp2_with fail
                    refine BG.out.mono ?_
                    rintro e w24 ⟨rfl, k24⟩
                    have S24 := Lib.hid (S23.out.keep k24)
                    have H24 := Lib.hid (H23.out.keep k24)
                    have ON24 := Lib.hid (OnJ.clean HC9.out 0)
                    have LQ := Lib.hid (show L9.length ≤ q by have := QZ.out; have := SU.out.len; omega)
                    have hgt1 : ¬ (N10 : Int) + 1 < (N10 : Int) := by omega
                    have hgt2 : ¬ (N10 : Int) < (N10 : Int) := by omega
                    have hNb : (N10 : Int) ≤ 40 := by have := QZ.out; have := SU.out.len; omega
                    clear k24
                    go_wp2_with fail
                    go_roundw
                    case rel => exact ⟨t + 1, q, A10, N10, c10, L9, F22, _, by omega, by omega, by go_num, rfl, rfl, LQ, HF9, ON24, H24, S24⟩
                    case measure => simp [intOf] <;> omega
                  · have hkti : ¬ (t : Int) < (nk : Int) := by omega
                    obtain ⟨son, hon, g9, L9, ho9, hc9, hf9, hw9⟩ := OF.out.2 []
                    have HON := Lib.hid hon
                    have HO9 := Lib.hid ho9
                    have HC9 := Lib.hid hc9
                    have HF9 := Lib.hid hf9
                    have HW9 := Lib.hid hw9
                    have O0 := Lib.hid (own_emptyJ wz 3 1)
                    have kE := keeps_alloc wz (.cells #[] 3)
                    have S0 := Lib.hid (SU.out.keep kE)
                    have HV0 := Lib.hid (HV.out.keep kE)
                    clear hon ho9 hc9 hf9 hw9 kE
                    go_wp2_with (at_builtin; refine wpList_app _ rfl _ _ 47 rfl wz.heap.size 3 i1 (.int .i64 0) 1 8 Tryd.underlying47 hi1 hy0 hy1 hy2 rfl (by decide) _ 0 [] rfl O0.out _ none 0 0 (intC []) rfl rfl (At.nil _ (wz.alloc (.cells #[] 3)).heap.size _) (fun u hu => by simp only [intC, List.mem_map] at hu; obtain ⟨x, -, rfl⟩ := hu; rfl) (by unfold maxLen; omega) (by omega) (by simp) ?_; intro v20 w20 hown20 hgrow20 hblk20)
                    have hgk : ∀ k, (Value.slice (some ⟨wz.heap.size, 0, none⟩) 0 0).ownBlock = some k → w.heap.size ≤ k ∧ ¬ FZ k := fun k hk => by
                      have := (O0.out.lt k hk).1
                      exact ⟨Nat.le_trans HV.out.kp.size this, fun hf => by have := K.lt HV.out.D k hf; omega⟩
                    have HV20 := Lib.hid (HV0.out.grown_ hgrow20 hgk)
                    have S20 := Lib.hid (show SureAt w w20 FZ A10 N10 c10 L10 from ⟨S0.out.own.same (fun k hk => hgrow20.block k (S0.out.own.lt k hk).2 (fun e => by
                      have h1 := (SU.out.own.lt k hk).2
                      have e2 := Option.some.inj (show some k = some wz.heap.size from e)
                      omega)), S0.out.len, S0.out.out⟩)
                    have O20 := Lib.hid (show Own w20 wz.heap.size 3 1 v20 0 (intC []) by simpa [intC] using hown20)
                    clear hown20 hgrow20 hblk20 hgk
                    obtain ⟨A20, c20, rfl, -⟩ := O20.out.form
                    have ON := Lib.hid (HV20.out.onU_ HZ.out A20 0 c20 [] O20.out.at_ (fun ad ha hf => by
                      subst ha
                      have h1 := (O20.out.lt ad.block rfl).1
                      have h2 := K.lt HV.out.D _ hf
                      omega) rfl O20.out.capj.1 (by decide) HON.out)
                    go_wp2_with fail
                    refine ON.out.mono ?_
                    rintro e w21 ⟨rfl, F21, h21, t21⟩
                    have S21 := Lib.hid (S20.out.turn t21)
                    have OP := Lib.hid (jrOpen_any h21 HZ.out HS.out HO9.out)
                    clear h21 t21
                    go_wp2_with fail
                    refine OP.out.mono ?_
                    rintro e w22 ⟨F22, h22, t22, ⟨-, j22, G22, rfl, hj22, -⟩ | ⟨hbad, -⟩⟩
                    rotate_left
                    · exact absurd rfl hbad
                    have S22 := Lib.hid (S21.out.turn t22)
                    have H22 := Lib.hid h22
                    have RC := Lib.hid (jrRecs_any hj22)
                    clear h22 t22 hj22
                    have hw : L9 = L10 := by
                      rcases HW9.out with h | ⟨x, h, -⟩
                      · exact h
                      · cases h
                    obtain rfl := hw
                    have hlenL : L9.length = N10 := SU.out.len.symm
                    rw [hlenL] at RC
                    clear hlenL
                    go_wp2_with fail
                    refine RC.out.mono ?_
                    rintro e w23 ⟨A23, c23, rfl, o23, k23⟩
                    have S23 := Lib.hid (S22.out.keep k23)
                    have H23 := Lib.hid (H22.out.keep k23)
                    have BG := Lib.hid (begins_any A23 N10 c23 L9 A10 N10 c10 L9 w23 o23.at_ SU.out.len o23.capj.1 S23.out.own.at_ SU.out.len (Nat.le_refl _) (by rw [SU.out.len, List.take_length]) (by have := QZ.out; have := SU.out.len; omega))
                    clear o23 k23
                    go_wp2_with fail
                    refine BG.out.mono ?_
                    rintro e w24 ⟨rfl, k24⟩
                    have S24 := Lib.hid (S23.out.keep k24)
                    have H24 := Lib.hid (H23.out.keep k24)
                    have ON24 := Lib.hid (OnJ.clean HC9.out 0)
                    have LQ := Lib.hid (show L9.length ≤ q by have := QZ.out; have := SU.out.len; omega)
                    have hgt1 : ¬ (N10 : Int) + 1 < (N10 : Int) := by omega
                    have hgt2 : ¬ (N10 : Int) < (N10 : Int) := by omega
                    have hNb : (N10 : Int) ≤ 40 := by have := QZ.out; have := SU.out.len; omega
                    clear k24
                    go_wp2_with fail
                    go_roundw
                    case rel => exact ⟨t + 1, q, A10, N10, c10, L9, F22, _, by omega, by omega, by go_num, rfl, rfl, LQ, HF9, ON24, H24, S24⟩
                    case measure => simp [intOf] <;> omega
              · have OP := Lib.hid (jrOpen_any H2.out HZ.out HS.out ho)
                have CL := Lib.hid hcl
                clear ho hcl
                go_wp2_with fail
                refine OP.out.mono ?_
                rintro e w3 ⟨F3, h3, t3, ⟨-, jb, G3, rfl, hj3, hd3⟩ | ⟨hbad, -⟩⟩
                rotate_left
                · exact absurd rfl hbad
                have G3N := Lib.hid (show ∀ i, G3 i → w2.heap.size ≤ i from hj3.ge)
                have SU3 := Lib.hid ((SU2.out.turn t3).more (G := G3) (W := w2) (fun k hk => (SU2.out.own.lt k hk).2) G3N.out)
                have H3 := Lib.hid h3
                have J3 := Lib.hid (hj3.base_le H2.out.kp.size)
                have D3 := Lib.hid hd3
                have RC := Lib.hid (jrRecs_any hj3)
                have hlenL : L10.length = N10 := HSU.out.len.symm
                rw [hlenL] at RC
                clear h3 t3 hj3 hd3 hlenL
                go_wp2_with fail
                refine RC.out.mono ?_
                rintro e w4 ⟨A4, c4, rfl, o4, k4⟩
                have BG := Lib.hid (begins_any A4 N10 c4 L10 A10 N10 c10 L10 w4 o4.at_ HSU.out.len o4.capj.1 (SU3.out.keep k4).own.at_ HSU.out.len (Nat.le_refl _) (by rw [HSU.out.len, List.take_length]) (by have := HLB.out; have := HSU.out.len; omega))
                have K4 := Lib.hid k4
                clear o4 k4
                go_wp2_with fail
                refine BG.out.mono ?_
                rintro e w5 ⟨rfl, k5⟩
                have K5 := Lib.hid (keeps_trans K4.out k5)
                have hgt0 : ¬ (N10 : Int) < (N10 : Int) := by omega
                clear k5
                go_wp2_with fail
                go_loopw [11, 10, 13] (fun a v u wr => ∃ (q : Nat) (A10 : Option Addr) (N10 c10 : Nat) (L10 : List RecS) (F G : Nat → Prop) (f : Fl) (ar : Nat), q ≤ n ∧ a = .int .i64 q ∧ v = .slice A10 N10 c10 ∧ u = .slice none 0 0 ∧ Hid (L10.length ≤ q) ∧ Hid (Fine L10) ∧ Hid (Clean f L10) ∧ Hid (Have K w wr b F (DJ 1024 f ar false)) ∧ Hid (JrAt wr w.heap.size jb b G L10) ∧ Hid (∀ i, G i → ¬ F i) ∧ Hid (SureAt w wr (fun i => F i ∨ G i) A10 N10 c10 L10)) (fun a _ _ _ => n - (intOf a).toNat)
                case atStart => exact ⟨q, A10, N10, c10, L10, F3, G3, f3, a3, hq, rfl, rfl, rfl, HLQ, HFI, CL, Lib.hid (H3.out.keep K5.out), Lib.hid (J3.out.keep K5.out), D3, Lib.hid (SU3.out.keep K5.out)⟩
                case round =>
                  clear SU3 H3 J3 D3 CL HSU HLQ HFI HLB hq hgt0 RC BG OP SU2 H2 HON2 HON HV0 AR
                  obtain ⟨q, A10, N10, c10, L10, F, G, f, ar, hq, rfl, rfl, rfl, HLQ, HFI, CL, HV, HJ, HD, HSU⟩ := hrel
                  have HLB := Lib.hid (show L10.length ≤ 40 by have := HLQ.out; have := HNB.out.1; omega)
                  have HNL := Lib.hid HSU.out.len
                  by_cases hqn : q < n
                  · have hqi : (q : Int) < (n : Int) := by omega
                    obtain ⟨q1, hq1⟩ : ∃ q1, q + 1 = q1 := ⟨_, rfl⟩
                    have hqs : (q : Int) + 1 = (q1 : Int) := by omega
                    have HQ1 := Lib.hid hq1
                    have hqb : (q1 : Int) ≤ 41 := by omega
                    have HQN := Lib.hid (show q1 ≤ n by omega)
                    obtain ⟨r, hr⟩ : ∃ r, l[q]? = some r := ⟨_, List.getElem?_eq_getElem (by have := HN.out; omega)⟩
                    have hro := H.out.ok r (List.mem_of_getElem? hr)
                    have HRO := Lib.hid hro
                    obtain ⟨ad, rfl, a0, a1, a2⟩ := rec_cells (H.out.keep HV.out.kp).cells hr
                    have k0 := keeps_alloc wr (.cells #[.int .u32 (r.kind : Int), .int .u32 (r.a : Int), .int .u32 (r.b : Int)] 43)
                    have BX := Lib.hid (Box.new wr 43 #[.int .u32 (r.kind : Int), .int .u32 (r.a : Int), .int .u32 (r.b : Int)])
                    have NBX := Lib.hid (show ¬ (F wr.heap.size ∨ G wr.heap.size) from fun e => by
                      rcases e with e | e
                      · have := K.lt HV.out.D _ e; omega
                      · have := HJ.out.lt _ e; omega)
                    have SU0 := Lib.hid (HSU.out.keep k0)
                    have x0 := BX.out.cell 0 rfl
                    have x1 := BX.out.cell 1 rfl
                    have x2 := BX.out.cell 2 rfl
                    by_cases hk : r.kind = 0
                    · have hkk : ((r.kind : Int) == 0) = true := by rw [beq_iff_eq]; omega
                      have AD := Lib.hid (jrAdd_any (HV.out.keep k0) HZ.out HS.out (HJ.out.keep k0) HD.out (Nat.le_refl _) r hro (addJ_none (s := DJ 1024 f ar false) (l := L10) hk))
                      rw [if_neg (by decide)] at AD
                      unfold recC at AD
                      clear hr hro k0 hk hqn hq1
                      go_wp2_with fail
                      refine AD.out.mono ?_
                      rintro e w6 ⟨rfl, F6, G6, h6, j6, d6, t6⟩
                      have B6 := BX.out.turned t6 NBX.out
                      have y0 := B6.cell 0 rfl
                      have S6 := Lib.hid (SU0.out.turn t6)
                      have H6 := Lib.hid (And.intro h6 (And.intro j6 d6))
                      clear h6 j6 d6 t6 B6 a0 a1 a2 x0 x1 x2
                      go_wp2_with fail
                      go_roundw
                      case rel => exact ⟨q1, A10, N10, c10, L10, F6, G6, f, ar, HQN.out, rfl, rfl, rfl, Lib.hid (by have := HLQ.out; have := HQ1.out; omega), HFI, CL, Lib.hid H6.out.1, Lib.hid H6.out.2.1, Lib.hid H6.out.2.2, S6⟩
                      case measure => simp [intOf]; have := HQ1.out; omega
                    · have hkk : ((r.kind : Int) == 0) = false := by rw [beq_eq_false_iff_ne]; omega
                      rcases add_off CL.out HFI.out (by have := HLB.out; omega) hro hk ar with ⟨s6, hadd, hoff⟩ | ⟨f6, a6, hadd, hcl⟩
                      · have AD := Lib.hid (jrAdd_any (HV.out.keep k0) HZ.out HS.out (HJ.out.keep k0) HD.out (Nat.le_refl _) r hro hadd)
                        rw [if_neg (by decide)] at AD
                        have OF := Lib.hid hoff
                        unfold recC at AD
                        clear hr hro k0 hk hqn hq1 hadd hoff
                        go_wp2_with fail
                        refine AD.out.mono ?_
                        rintro e w6 ⟨rfl, FZ, G6, h6, j6, d6, t6⟩
                        have B6 := BX.out.turned t6 NBX.out
                        have y0 := B6.cell 0 rfl
                        have y1 := B6.cell 1 rfl
                        have y2 := B6.cell 2 rfl
                        have kB := keeps_alloc w6 (.cells #[.int .u32 (r.kind : Int), .int .u32 (r.a : Int), .int .u32 (r.b : Int)] 43)
                        have S6 := Lib.hid (((SU0.out.turn t6).weak (F' := FZ) (fun i hi => .inl hi)).keep kB)
                        have H6 := Lib.hid (h6.keep kB)
                        have U6 := Lib.hid (show UndAt w (w6.alloc (.cells #[.int .u32 (r.kind : Int), .int .u32 (r.a : Int), .int .u32 (r.b : Int)] 43)) FZ w6.heap.size r from ⟨Box.new _ _ _, fun hf => by have := K.lt h6.D _ hf; omega⟩)
                        have DE := K.dead (H6.out.z HZ.out) H6.out.D
                        rw [OF.out.1] at DE
                        have DD := Lib.hid DE
                        unfold dpt at DD
                        clear h6 j6 d6 t6 B6 kB DE a0 a1 a2 x0 x1 x2
                        go_wp2_with fail
                        refine DD.out.mono ?_
                        rintro e wz ⟨rfl, kz⟩
                        have HVZ := Lib.hid (H6.out.keep kz)
                        have SU := Lib.hid (S6.out.keep kz)
                        have UD := Lib.hid (U6.out.keep kz)
                        have QZ := Lib.hid (show L10.length + 1 ≤ q1 ∧ q1 ≤ n ∧ n ≤ 40 from ⟨by have := HLQ.out; have := HQ1.out; omega, HQN.out, HNB.out.1⟩)
                        clear kz HV
                        have HV := HVZ
                        as_aux_lemma =>
                          by_cases hkt : t < nk
                          · have hkti : (t : Int) < (nk : Int) := by omega
                            obtain ⟨kr, hkr⟩ : ∃ kr, ks[t]? = some kr := ⟨_, List.getElem?_eq_getElem (by have := HNK.out; omega)⟩
                            obtain ⟨kd, rfl, kc, kg⟩ := (HKS.out.keep HV.out.kp).get hkr
                            have hkl : kr.n ≤ 100 := HK100.out kr (List.mem_of_getElem? hkr)
                            have KG := Lib.hid kg
                            have hklb : (kr.n : Int) ≤ 100 := by omega
                            have HKL := Lib.hid hkl
                            clear hkr kg
                            obtain ⟨son, hon, g9, L9, ho9, hc9, hf9, hw9⟩ := OF.out.2 kr.l
                            have HON := Lib.hid hon
                            have HO9 := Lib.hid ho9
                            have HC9 := Lib.hid hc9
                            have HF9 := Lib.hid hf9
                            have HW9 := Lib.hid hw9
                            have O0 := Lib.hid (own_emptyJ wz 3 1)
                            have kE := keeps_alloc wz (.cells #[] 3)
                            have S0 := Lib.hid (SU.out.keep kE)
                            have HV0 := Lib.hid (HV.out.keep kE)
                            have U0 := Lib.hid (UD.out.keep kE)
                            have KAT := Lib.hid ((KG.out.b.keep kE).more kE.size)
                            clear hon ho9 hc9 hf9 hw9 kE
                            go_wp2_with (at_builtin; refine wpList_app _ rfl _ _ 47 rfl wz.heap.size 3 i1 (.int .i64 0) 1 8 Tryd.underlying47 hi1 hy0 hy1 hy2 rfl (by decide) _ 0 [] rfl O0.out _ kr.A kr.n kr.c (intC kr.l) rfl (by rw [intC_length, ← KG.out.len, Nat.mul_one]) KAT.out (fun u hu => by simp only [intC, List.mem_map] at hu; obtain ⟨x, -, rfl⟩ := hu; rfl) (by unfold maxLen; omega) (by omega) (by simp) ?_; intro v20 w20 hown20 hgrow20 hblk20)
                            have hgk : ∀ k, (Value.slice (some ⟨wz.heap.size, 0, none⟩) 0 0).ownBlock = some k → w.heap.size ≤ k ∧ ¬ FZ k := fun k hk => by
                              have := (O0.out.lt k hk).1
                              exact ⟨Nat.le_trans HV.out.kp.size this, fun hf => by have := K.lt HV.out.D k hf; omega⟩
                            have HV20 := Lib.hid (HV0.out.grown_ hgrow20 hgk)
                            have S20 := Lib.hid (show SureAt w w20 FZ A10 N10 c10 L10 from ⟨S0.out.own.same (fun k hk => hgrow20.block k (S0.out.own.lt k hk).2 (fun e => by
                              have h1 := (SU.out.own.lt k hk).2
                              have e2 := Option.some.inj (show some k = some wz.heap.size from e)
                              omega)), S0.out.len, S0.out.out⟩)
                            have O20 := Lib.hid (show Own w20 wz.heap.size 3 1 v20 kr.n (intC kr.l) by simpa [intC] using hown20)
                            have U20 := Lib.hid (U0.out.grown hgrow20 (fun e => by
                              have h1 := UD.out.box.lt
                              have e2 := Option.some.inj (show some wz.heap.size = some _ from e)
                              omega))
                            clear hown20 hgrow20 hblk20 hgk
                            obtain ⟨A20, c20, rfl, -⟩ := O20.out.form
                            have ON := Lib.hid (HV20.out.onU_ HZ.out A20 kr.n c20 kr.l O20.out.at_ (fun ad ha hf => by
                              subst ha
                              have h1 := (O20.out.lt ad.block rfl).1
                              have h2 := K.lt HV.out.D _ hf
                              omega) KG.out.len O20.out.capj.1 (by have := HKL.out; omega) HON.out)
                            go_wp2_with fail
                            refine ON.out.mono ?_
                            rintro e w21 ⟨rfl, F21, h21, t21⟩
                            have S21 := Lib.hid (S20.out.turn t21)
                            have U21 := Lib.hid (U20.out.turn t21)
                            have OP := Lib.hid (jrOpen_any h21 HZ.out HS.out HO9.out)
                            clear h21 t21
                            go_wp2_with fail
                            refine OP.out.mono ?_
                            rintro e w22 ⟨F22, h22, t22, ⟨-, j22, G22, rfl, hj22, -⟩ | ⟨hbad, -⟩⟩
                            rotate_left
                            · exact absurd rfl hbad
                            have S22 := Lib.hid (S21.out.turn t22)
                            have H22 := Lib.hid h22
                            have RC := Lib.hid (jrRecs_any hj22)
                            have U22 := Lib.hid (U21.out.turn t22)
                            clear h22 t22 hj22
                            rcases HW9.out with hw | ⟨x, hx, hw⟩
                            · obtain rfl := hw
                              have hlenL : L9.length = N10 := SU.out.len.symm
                              rw [hlenL] at RC
                              clear hlenL
                              go_wp2_with fail
                              refine RC.out.mono ?_
                              rintro e w23 ⟨A23, c23, rfl, o23, k23⟩
                              have S23 := Lib.hid (S22.out.keep k23)
                              have H23 := Lib.hid (H22.out.keep k23)
                              have BG := Lib.hid (begins_any A23 N10 c23 L9 A10 N10 c10 L9 w23 o23.at_ SU.out.len o23.capj.1 S23.out.own.at_ SU.out.len (Nat.le_refl _) (by rw [SU.out.len, List.take_length]) (by have := QZ.out; have := SU.out.len; omega))
                              clear o23 k23
                              go_wp2_with fail
                              refine BG.out.mono ?_
                              rintro e w24 ⟨rfl, k24⟩
                              have S24 := Lib.hid (S23.out.keep k24)
                              have H24 := Lib.hid (H23.out.keep k24)
                              have ON24 := Lib.hid (OnJ.clean HC9.out 0)
                              have LQ := Lib.hid (show L9.length ≤ q1 by have := QZ.out; have := SU.out.len; omega)
                              have hgt1 : ¬ (N10 : Int) + 1 < (N10 : Int) := by omega
                              have hgt2 : ¬ (N10 : Int) < (N10 : Int) := by omega
                              have hNb : (N10 : Int) ≤ 40 := by have := QZ.out; have := SU.out.len; omega
                              clear k24
                              go_wp2_with fail
                              go_roundw
                              case rel => exact ⟨t + 1, q1, A10, N10, c10, L9, F22, _, by omega, by omega, by go_num, rfl, rfl, LQ, HF9, ON24, H24, S24⟩
                              case measure => simp [intOf] <;> omega
                            · obtain rfl := Option.some.inj hx
                              have hlenL : L9.length = N10 + 1 := by rw [hw, List.length_append, ← SU.out.len]; rfl
                              have HLL := Lib.hid hlenL
                              have HTK := Lib.hid (show L9.take N10 = L10 by rw [hw, SU.out.len]; exact List.take_left)
                              have HGT := Lib.hid (show L9[N10]? = some r by rw [hw, SU.out.len, List.getElem?_append_right (Nat.le_refl _), Nat.sub_self]; rfl)
                              have HWW := Lib.hid hw
                              rw [hlenL] at RC
                              clear hw hlenL hx
                              go_wp2_with fail
                              refine RC.out.mono ?_
                              rintro e w23 ⟨A23, c23, rfl, o23, k23⟩
                              have S23 := Lib.hid (S22.out.keep k23)
                              have H23 := Lib.hid (H22.out.keep k23)
                              have U23 := Lib.hid (U22.out.keep k23)
                              have O23 := Lib.hid o23
                              have BG := Lib.hid (begins_any A23 (N10 + 1) c23 L9 A10 N10 c10 L10 w23 o23.at_ HLL.out.symm o23.capj.1 S23.out.own.at_ SU.out.len (Nat.le_succ _) HTK.out (by have := QZ.out; have := SU.out.len; omega))
                              clear o23 k23
                              go_wp2_with fail
                              refine BG.out.mono ?_
                              rintro e w24 ⟨rfl, k24⟩
                              have S24 := Lib.hid (S23.out.keep k24)
                              have H24 := Lib.hid (H23.out.keep k24)
                              have U24 := Lib.hid (U23.out.keep k24)
                              obtain ⟨rd, rfl, a0, a1, a2⟩ := rec_cells (O23.out.keep k24).at_ HGT.out
                              have b0 := U24.out.box.cell 0 rfl
                              have b1 := U24.out.box.cell 1 rfl
                              have b2 := U24.out.box.cell 2 rfl
                              have EQ := run_recEq (r.kind : Int) (r.a : Int) (r.b : Int) (r.kind : Int) (r.a : Int) (r.b : Int)
                              rw [rec_beq, decide_eq_true rfl] at EQ
                              have ON24 := Lib.hid (OnJ.clean HC9.out 0)
                              have LQ := Lib.hid (show L9.length ≤ q1 by have := QZ.out; have := SU.out.len; have := HLL.out; omega)
                              have hgt1 : ¬ (N10 : Int) + 1 < (N10 : Int) + 1 := by omega
                              have hgt2 : (N10 : Int) < (N10 : Int) + 1 := by omega
                              have hidx : (N10 : Int) < (N10 : Int) + 1 := by omega
                              have hNb : N10 ≤ 40 := by have := QZ.out; have := SU.out.len; omega
                              clear k24
                              go_wp2_with fail
                              go_quiet (fail)
                              have kq := keeps_drewN w24 nq
                              have S25 := Lib.hid ((S24.out.keep kq).keep (keeps_alloc _ (.cells #[.int .u32 (r.kind : Int), .int .u32 (r.a : Int), .int .u32 (r.b : Int)] 43)))
                              have H25 := Lib.hid ((H24.out.keep kq).keep (keeps_alloc _ (.cells #[.int .u32 (r.kind : Int), .int .u32 (r.a : Int), .int .u32 (r.b : Int)] 43)))
                              have BU := U24.out.box.keep kq
                              have d0 := BU.cell 0 rfl
                              have d1 := BU.cell 1 rfl
                              have d2 := BU.cell 2 rfl
                              clear kq BU a0 a1 a2 b0 b1 b2 EQ
                              generalize w24.drewN nq = wq at *
                              go_wp2_with (at_builtin; refine wpList_app _ rfl _ _ 36 rfl w.heap.size 43 i0 (.agg #[.int .u32 0, .int .u32 0, .int .u32 0]) 3 12 Tryd.underlying36 hi0 hz0 hz1 hz2 rfl (by decide) _ N10 _ rfl S25.out.own _ (some ⟨wq.heap.size, 0, none⟩) 1 1 (recC r) rfl rfl (At.new _ _ _ _ (Nat.lt_succ_self _)) (recC_one r) (by unfold maxLen; omega) (by omega) (by have := H25.out.kp.size; exact this) ?_; intro v26 w26 hown26 hgrow26 hblk26)
                              have H26 := Lib.hid (H25.out.grown_ hgrow26 (fun k hk => ⟨(S25.out.own.lt k hk).1, S25.out.out k hk⟩))
                              obtain ⟨A26, c26, rfl, -⟩ := hown26.form
                              have S26 := Lib.hid (show SureAt w w26 F22 A26 (N10 + 1) c26 L9 from ⟨by rw [HWW.out, rowsC_snoc]; exact hown26, HLL.out.symm, fun k hk => by
                                rcases hblk26 with e | e
                                · rw [e] at hk; exact S25.out.out k hk
                                · rw [e] at hk
                                  injection hk with hk
                                  intro hf
                                  have := K.lt H25.out.D k hf
                                  omega⟩)
                              clear hown26 hgrow26 hblk26
                              go_wp2_with fail
                              go_roundw
                              case rel => exact ⟨t + 1, q1, A26, N10 + 1, c26, L9, F22, _, by omega, by omega, by go_num, rfl, by go_num, LQ, HF9, ON24, H26, S26⟩
                              case measure => simp [intOf] <;> omega
                          · have hkti : ¬ (t : Int) < (nk : Int) := by omega
                            obtain ⟨son, hon, g9, L9, ho9, hc9, hf9, hw9⟩ := OF.out.2 []
                            have HON := Lib.hid hon
                            have HO9 := Lib.hid ho9
                            have HC9 := Lib.hid hc9
                            have HF9 := Lib.hid hf9
                            have HW9 := Lib.hid hw9
                            have O0 := Lib.hid (own_emptyJ wz 3 1)
                            have kE := keeps_alloc wz (.cells #[] 3)
                            have S0 := Lib.hid (SU.out.keep kE)
                            have HV0 := Lib.hid (HV.out.keep kE)
                            have U0 := Lib.hid (UD.out.keep kE)
                            clear hon ho9 hc9 hf9 hw9 kE
                            go_wp2_with (at_builtin; refine wpList_app _ rfl _ _ 47 rfl wz.heap.size 3 i1 (.int .i64 0) 1 8 Tryd.underlying47 hi1 hy0 hy1 hy2 rfl (by decide) _ 0 [] rfl O0.out _ none 0 0 (intC []) rfl rfl (At.nil _ (wz.alloc (.cells #[] 3)).heap.size _) (fun u hu => by simp only [intC, List.mem_map] at hu; obtain ⟨x, -, rfl⟩ := hu; rfl) (by unfold maxLen; omega) (by omega) (by simp) ?_; intro v20 w20 hown20 hgrow20 hblk20)
                            have hgk : ∀ k, (Value.slice (some ⟨wz.heap.size, 0, none⟩) 0 0).ownBlock = some k → w.heap.size ≤ k ∧ ¬ FZ k := fun k hk => by
                              have := (O0.out.lt k hk).1
                              exact ⟨Nat.le_trans HV.out.kp.size this, fun hf => by have := K.lt HV.out.D k hf; omega⟩
                            have HV20 := Lib.hid (HV0.out.grown_ hgrow20 hgk)
                            have S20 := Lib.hid (show SureAt w w20 FZ A10 N10 c10 L10 from ⟨S0.out.own.same (fun k hk => hgrow20.block k (S0.out.own.lt k hk).2 (fun e => by
                              have h1 := (SU.out.own.lt k hk).2
                              have e2 := Option.some.inj (show some k = some wz.heap.size from e)
                              omega)), S0.out.len, S0.out.out⟩)
                            have O20 := Lib.hid (show Own w20 wz.heap.size 3 1 v20 0 (intC []) by simpa [intC] using hown20)
                            have U20 := Lib.hid (U0.out.grown hgrow20 (fun e => by
                              have h1 := UD.out.box.lt
                              have e2 := Option.some.inj (show some wz.heap.size = some _ from e)
                              omega))
                            clear hown20 hgrow20 hblk20 hgk
                            obtain ⟨A20, c20, rfl, -⟩ := O20.out.form
                            have ON := Lib.hid (HV20.out.onU_ HZ.out A20 0 c20 [] O20.out.at_ (fun ad ha hf => by
                              subst ha
                              have h1 := (O20.out.lt ad.block rfl).1
                              have h2 := K.lt HV.out.D _ hf
                              omega) rfl O20.out.capj.1 (by decide) HON.out)
                            go_wp2_with fail
                            refine ON.out.mono ?_
                            rintro e w21 ⟨rfl, F21, h21, t21⟩
                            have S21 := Lib.hid (S20.out.turn t21)
                            have U21 := Lib.hid (U20.out.turn t21)
                            have OP := Lib.hid (jrOpen_any h21 HZ.out HS.out HO9.out)
                            clear h21 t21
                            go_wp2_with fail
                            refine OP.out.mono ?_
                            rintro e w22 ⟨F22, h22, t22, ⟨-, j22, G22, rfl, hj22, -⟩ | ⟨hbad, -⟩⟩
                            rotate_left
                            · exact absurd rfl hbad
                            have S22 := Lib.hid (S21.out.turn t22)
                            have H22 := Lib.hid h22
                            have RC := Lib.hid (jrRecs_any hj22)
                            have U22 := Lib.hid (U21.out.turn t22)
                            clear h22 t22 hj22
                            rcases HW9.out with hw | ⟨x, hx, hw⟩
                            · obtain rfl := hw
                              have hlenL : L9.length = N10 := SU.out.len.symm
                              rw [hlenL] at RC
                              clear hlenL
                              go_wp2_with fail
                              refine RC.out.mono ?_
                              rintro e w23 ⟨A23, c23, rfl, o23, k23⟩
                              have S23 := Lib.hid (S22.out.keep k23)
                              have H23 := Lib.hid (H22.out.keep k23)
                              have BG := Lib.hid (begins_any A23 N10 c23 L9 A10 N10 c10 L9 w23 o23.at_ SU.out.len o23.capj.1 S23.out.own.at_ SU.out.len (Nat.le_refl _) (by rw [SU.out.len, List.take_length]) (by have := QZ.out; have := SU.out.len; omega))
                              clear o23 k23
                              go_wp2_with fail
                              refine BG.out.mono ?_
                              rintro e w24 ⟨rfl, k24⟩
                              have S24 := Lib.hid (S23.out.keep k24)
                              have H24 := Lib.hid (H23.out.keep k24)
                              have ON24 := Lib.hid (OnJ.clean HC9.out 0)
                              have LQ := Lib.hid (show L9.length ≤ q1 by have := QZ.out; have := SU.out.len; omega)
                              have hgt1 : ¬ (N10 : Int) + 1 < (N10 : Int) := by omega
                              have hgt2 : ¬ (N10 : Int) < (N10 : Int) := by omega
                              have hNb : (N10 : Int) ≤ 40 := by have := QZ.out; have := SU.out.len; omega
                              clear k24
                              go_wp2_with fail
                              go_roundw
                              case rel => exact ⟨t + 1, q1, A10, N10, c10, L9, F22, _, by omega, by omega, by go_num, rfl, rfl, LQ, HF9, ON24, H24, S24⟩
                              case measure => simp [intOf] <;> omega
                            · obtain rfl := Option.some.inj hx
                              have hlenL : L9.length = N10 + 1 := by rw [hw, List.length_append, ← SU.out.len]; rfl
                              have HLL := Lib.hid hlenL
                              have HTK := Lib.hid (show L9.take N10 = L10 by rw [hw, SU.out.len]; exact List.take_left)
                              have HGT := Lib.hid (show L9[N10]? = some r by rw [hw, SU.out.len, List.getElem?_append_right (Nat.le_refl _), Nat.sub_self]; rfl)
                              have HWW := Lib.hid hw
                              rw [hlenL] at RC
                              clear hw hlenL hx
                              go_wp2_with fail
                              refine RC.out.mono ?_
                              rintro e w23 ⟨A23, c23, rfl, o23, k23⟩
                              have S23 := Lib.hid (S22.out.keep k23)
                              have H23 := Lib.hid (H22.out.keep k23)
                              have U23 := Lib.hid (U22.out.keep k23)
                              have O23 := Lib.hid o23
                              have BG := Lib.hid (begins_any A23 (N10 + 1) c23 L9 A10 N10 c10 L10 w23 o23.at_ HLL.out.symm o23.capj.1 S23.out.own.at_ SU.out.len (Nat.le_succ _) HTK.out (by have := QZ.out; have := SU.out.len; omega))
                              clear o23 k23
                              go_wp2_with fail
                              refine BG.out.mono ?_
                              rintro e w24 ⟨rfl, k24⟩
                              have S24 := Lib.hid (S23.out.keep k24)
                              have H24 := Lib.hid (H23.out.keep k24)
                              have U24 := Lib.hid (U23.out.keep k24)
                              obtain ⟨rd, rfl, a0, a1, a2⟩ := rec_cells (O23.out.keep k24).at_ HGT.out
                              have b0 := U24.out.box.cell 0 rfl
                              have b1 := U24.out.box.cell 1 rfl
                              have b2 := U24.out.box.cell 2 rfl
                              have EQ := run_recEq (r.kind : Int) (r.a : Int) (r.b : Int) (r.kind : Int) (r.a : Int) (r.b : Int)
                              rw [rec_beq, decide_eq_true rfl] at EQ
                              have ON24 := Lib.hid (OnJ.clean HC9.out 0)
                              have LQ := Lib.hid (show L9.length ≤ q1 by have := QZ.out; have := SU.out.len; have := HLL.out; omega)
                              have hgt1 : ¬ (N10 : Int) + 1 < (N10 : Int) + 1 := by omega
                              have hgt2 : (N10 : Int) < (N10 : Int) + 1 := by omega
                              have hidx : (N10 : Int) < (N10 : Int) + 1 := by omega
                              have hNb : N10 ≤ 40 := by have := QZ.out; have := SU.out.len; omega
                              clear k24
                              go_wp2_with fail
                              go_quiet (fail)
                              have kq := keeps_drewN w24 nq
                              have S25 := Lib.hid ((S24.out.keep kq).keep (keeps_alloc _ (.cells #[.int .u32 (r.kind : Int), .int .u32 (r.a : Int), .int .u32 (r.b : Int)] 43)))
                              have H25 := Lib.hid ((H24.out.keep kq).keep (keeps_alloc _ (.cells #[.int .u32 (r.kind : Int), .int .u32 (r.a : Int), .int .u32 (r.b : Int)] 43)))
                              have BU := U24.out.box.keep kq
                              have d0 := BU.cell 0 rfl
                              have d1 := BU.cell 1 rfl
                              have d2 := BU.cell 2 rfl
                              clear kq BU a0 a1 a2 b0 b1 b2 EQ
                              generalize w24.drewN nq = wq at *
                              go_wp2_with (at_builtin; refine wpList_app _ rfl _ _ 36 rfl w.heap.size 43 i0 (.agg #[.int .u32 0, .int .u32 0, .int .u32 0]) 3 12 Tryd.underlying36 hi0 hz0 hz1 hz2 rfl (by decide) _ N10 _ rfl S25.out.own _ (some ⟨wq.heap.size, 0, none⟩) 1 1 (recC r) rfl rfl (At.new _ _ _ _ (Nat.lt_succ_self _)) (recC_one r) (by unfold maxLen; omega) (by omega) (by have := H25.out.kp.size; exact this) ?_; intro v26 w26 hown26 hgrow26 hblk26)
                              have H26 := Lib.hid (H25.out.grown_ hgrow26 (fun k hk => ⟨(S25.out.own.lt k hk).1, S25.out.out k hk⟩))
                              obtain ⟨A26, c26, rfl, -⟩ := hown26.form
                              have S26 := Lib.hid (show SureAt w w26 F22 A26 (N10 + 1) c26 L9 from ⟨by rw [HWW.out, rowsC_snoc]; exact hown26, HLL.out.symm, fun k hk => by
                                rcases hblk26 with e | e
                                · rw [e] at hk; exact S25.out.out k hk
                                · rw [e] at hk
                                  injection hk with hk
                                  intro hf
                                  have := K.lt H25.out.D k hf
                                  omega⟩)
                              clear hown26 hgrow26 hblk26
                              go_wp2_with fail
                              go_roundw
                              case rel => exact ⟨t + 1, q1, A26, N10 + 1, c26, L9, F22, _, by omega, by omega, by go_num, rfl, by go_num, LQ, HF9, ON24, H26, S26⟩
                              case measure => simp [intOf] <;> omega
                      · have AD := Lib.hid (jrAdd_any (HV.out.keep k0) HZ.out HS.out (HJ.out.keep k0) HD.out (Nat.le_refl _) r hro hadd)
                        rw [if_pos rfl] at AD
                        have CL6 := Lib.hid hcl
                        have FI6 := Lib.hid (HFI.out.snoc hro hk)
                        unfold recC at AD
                        clear hr hro k0 hk hqn hq1 hadd hcl
                        go_wp2_with fail
                        refine AD.out.mono ?_
                        rintro e w6 ⟨rfl, F6, G6, h6, j6, d6, t6⟩
                        have B6 := BX.out.turned t6 NBX.out
                        have y0 := B6.cell 0 rfl
                        have y1 := B6.cell 1 rfl
                        have y2 := B6.cell 2 rfl
                        have kB := keeps_alloc w6 (.cells #[.int .u32 (r.kind : Int), .int .u32 (r.a : Int), .int .u32 (r.b : Int)] 43)
                        have S6 := Lib.hid ((SU0.out.turn t6).keep kB)
                        have H6 := Lib.hid (h6.keep kB)
                        have J6 := Lib.hid (j6.keep kB)
                        have D6 := Lib.hid d6
                        have hNb : N10 ≤ 40 := by have := HLB.out; have := HNL.out; omega
                        clear h6 j6 d6 t6 B6 kB a0 a1 a2 x0 x1 x2
                        go_wp2_with (at_builtin; refine wpList_app _ rfl _ _ 36 rfl w.heap.size 43 i0 (.agg #[.int .u32 0, .int .u32 0, .int .u32 0]) 3 12 Tryd.underlying36 hi0 hz0 hz1 hz2 rfl (by decide) _ N10 _ rfl S6.out.own _ (some ⟨w6.heap.size, 0, none⟩) 1 1 (recC r) rfl rfl (At.new _ _ _ _ (Nat.lt_succ_self _)) (recC_one r) (by unfold maxLen; omega) (by omega) (by have := H6.out.kp.size; exact this) ?_; intro v7 w7 hown7 hgrow7 hblk7)
                        have H7 := Lib.hid (H6.out.grown_ hgrow7 (fun k hk => ⟨(S6.out.own.lt k hk).1, fun hf => S6.out.out k hk (.inl hf)⟩))
                        have J7 := Lib.hid (J6.out.grown_ hgrow7 (fun k hk hg => S6.out.out k hk (.inr hg)))
                        obtain ⟨A7, c7, rfl, -⟩ := hown7.form
                        have S7 := Lib.hid (show SureAt w w7 (fun i => F6 i ∨ G6 i) A7 (N10 + 1) c7 (L10 ++ [r]) from ⟨by rw [rowsC_snoc]; exact hown7, by rw [List.length_append, ← HNL.out]; rfl, fun k hk => by
                          rcases hblk7 with e | e
                          · rw [e] at hk; exact S6.out.out k hk
                          · rw [e] at hk
                            injection hk with hk
                            rintro (hf | hf)
                            · have := K.lt H6.out.D k hf; omega
                            · have := J6.out.lt k hf; omega⟩)
                        clear hown7 hgrow7 hblk7 y0 y1 y2
                        go_wp2_with fail
                        go_roundw
                        case rel => exact ⟨q1, A7, N10 + 1, c7, L10 ++ [r], F6, G6, f6, a6, HQN.out, rfl, by go_num, rfl, Lib.hid (by rw [List.length_append]; have := HLQ.out; have := HQ1.out; simp; omega), FI6, CL6, H7, J7, D6, S7⟩
                        case measure => simp [intOf]; have := HQ1.out; omega
                  · obtain rfl : q = n := by omega
                    obtain ⟨hA1, hA2, hA3⟩ := arm_sync CL.out HFI.out (by have := HLB.out; omega) ar
                    have AM := Lib.hid (fun (V : World) (kk : Keeps wr V) => (HV.out.keep kk).armU_ HZ.out 1 ⟨by decide, by decide⟩ hA1)
                    have DD := Lib.hid (K.dead (HV.out.z HZ.out) HV.out.D)
                    rw [show (DJ 1024 f ar false).off = false from rfl] at DD
                    have OF := Lib.hid hA3
                    have HA2 := Lib.hid hA2
                    have SW := Lib.hid (HSU.out.weak (F' := F) (fun i hi => .inl hi))
                    unfold dpt at DD
                    clear hqn hq hA1 hA2 hA3
                    go_wp2_with fail
                    refine DD.out.mono ?_
                    rintro e w6 ⟨rfl, k6⟩
                    have AM6 := Lib.hid (AM.out _ k6)
                    have S6 := Lib.hid (SW.out.keep k6)
                    clear k6
                    go_wp2_with fail
                    refine AM6.out.mono ?_
                    rintro e w7 ⟨rfl, F7, h7, t7⟩
                    have SY := Lib.hid (h7.syncU_ HZ.out nmJ _ strJ.symm HA2.out)
                    have S7 := Lib.hid (S6.out.turn t7)
                    clear h7 t7
                    go_wp2_with fail
                    refine SY.out.mono ?_
                    rintro e wz ⟨rfl, FZ, hz, tz⟩
                    have HVZ := Lib.hid hz
                    have SU := Lib.hid (S7.out.turn tz)
                    have QZ := Lib.hid (show L10.length ≤ q ∧ q ≤ q ∧ q ≤ 40 from ⟨HLQ.out, Nat.le_refl _, HNB.out.1⟩)
                    have e66 : ((6 : Int) != 6) = false := rfl
                    clear hz tz HV
                    have HV := HVZ
                    as_aux_lemma =>
                      by_cases hkt : t < nk
                      · have hkti : (t : Int) < (nk : Int) := by omega
                        obtain ⟨kr, hkr⟩ : ∃ kr, ks[t]? = some kr := ⟨_, List.getElem?_eq_getElem (by have := HNK.out; omega)⟩
                        obtain ⟨kd, rfl, kc, kg⟩ := (HKS.out.keep HV.out.kp).get hkr
                        have hkl : kr.n ≤ 100 := HK100.out kr (List.mem_of_getElem? hkr)
                        have KG := Lib.hid kg
                        have hklb : (kr.n : Int) ≤ 100 := by omega
                        have HKL := Lib.hid hkl
                        clear hkr kg
                        obtain ⟨son, hon, g9, L9, ho9, hc9, hf9, hw9⟩ := OF.out.2 kr.l
                        have HON := Lib.hid hon
                        have HO9 := Lib.hid ho9
                        have HC9 := Lib.hid hc9
                        have HF9 := Lib.hid hf9
                        have HW9 := Lib.hid hw9
                        have O0 := Lib.hid (own_emptyJ wz 3 1)
                        have kE := keeps_alloc wz (.cells #[] 3)
                        have S0 := Lib.hid (SU.out.keep kE)
                        have HV0 := Lib.hid (HV.out.keep kE)
                        have KAT := Lib.hid ((KG.out.b.keep kE).more kE.size)
                        clear hon ho9 hc9 hf9 hw9 kE
                        go_wp2_with (at_builtin; refine wpList_app _ rfl _ _ 47 rfl wz.heap.size 3 i1 (.int .i64 0) 1 8 Tryd.underlying47 hi1 hy0 hy1 hy2 rfl (by decide) _ 0 [] rfl O0.out _ kr.A kr.n kr.c (intC kr.l) rfl (by rw [intC_length, ← KG.out.len, Nat.mul_one]) KAT.out (fun u hu => by simp only [intC, List.mem_map] at hu; obtain ⟨x, -, rfl⟩ := hu; rfl) (by unfold maxLen; omega) (by omega) (by simp) ?_; intro v20 w20 hown20 hgrow20 hblk20)
                        have hgk : ∀ k, (Value.slice (some ⟨wz.heap.size, 0, none⟩) 0 0).ownBlock = some k → w.heap.size ≤ k ∧ ¬ FZ k := fun k hk => by
                          have := (O0.out.lt k hk).1
                          exact ⟨Nat.le_trans HV.out.kp.size this, fun hf => by have := K.lt HV.out.D k hf; omega⟩
                        have HV20 := Lib.hid (HV0.out.grown_ hgrow20 hgk)
                        have S20 := Lib.hid (show SureAt w w20 FZ A10 N10 c10 L10 from ⟨S0.out.own.same (fun k hk => hgrow20.block k (S0.out.own.lt k hk).2 (fun e => by
                          have h1 := (SU.out.own.lt k hk).2
                          have e2 := Option.some.inj (show some k = some wz.heap.size from e)
                          omega)), S0.out.len, S0.out.out⟩)
                        have O20 := Lib.hid (show Own w20 wz.heap.size 3 1 v20 kr.n (intC kr.l) by simpa [intC] using hown20)
                        clear hown20 hgrow20 hblk20 hgk
                        obtain ⟨A20, c20, rfl, -⟩ := O20.out.form
                        have ON := Lib.hid (HV20.out.onU_ HZ.out A20 kr.n c20 kr.l O20.out.at_ (fun ad ha hf => by
                          subst ha
                          have h1 := (O20.out.lt ad.block rfl).1
                          have h2 := K.lt HV.out.D _ hf
                          omega) KG.out.len O20.out.capj.1 (by have := HKL.out; omega) HON.out)
                        go_wp2_with fail
                        refine ON.out.mono ?_
                        rintro e w21 ⟨rfl, F21, h21, t21⟩
                        have S21 := Lib.hid (S20.out.turn t21)
                        have OP := Lib.hid (jrOpen_any h21 HZ.out HS.out HO9.out)
                        clear h21 t21
                        go_wp2_with fail
                        refine OP.out.mono ?_
                        rintro e w22 ⟨F22, h22, t22, ⟨-, j22, G22, rfl, hj22, -⟩ | ⟨hbad, -⟩⟩
                        rotate_left
                        · exact absurd rfl hbad
                        have S22 := Lib.hid (S21.out.turn t22)
                        have H22 := Lib.hid h22
                        have RC := Lib.hid (jrRecs_any hj22)
                        clear h22 t22 hj22
                        have hw : L9 = L10 := by
                          rcases HW9.out with h | ⟨x, h, -⟩
                          · exact h
                          · cases h
                        obtain rfl := hw
                        have hlenL : L9.length = N10 := SU.out.len.symm
                        rw [hlenL] at RC
                        clear hlenL
                        go_wp2_with fail
                        refine RC.out.mono ?_
                        rintro e w23 ⟨A23, c23, rfl, o23, k23⟩
                        have S23 := Lib.hid (S22.out.keep k23)
                        have H23 := Lib.hid (H22.out.keep k23)
                        have BG := Lib.hid (begins_any A23 N10 c23 L9 A10 N10 c10 L9 w23 o23.at_ SU.out.len o23.capj.1 S23.out.own.at_ SU.out.len (Nat.le_refl _) (by rw [SU.out.len, List.take_length]) (by have := QZ.out; have := SU.out.len; omega))
                        clear o23 k23
                        go_wp2_with fail
                        refine BG.out.mono ?_
                        rintro e w24 ⟨rfl, k24⟩
                        have S24 := Lib.hid (S23.out.keep k24)
                        have H24 := Lib.hid (H23.out.keep k24)
                        have ON24 := Lib.hid (OnJ.clean HC9.out 0)
                        have LQ := Lib.hid (show L9.length ≤ q by have := QZ.out; have := SU.out.len; omega)
                        have hgt1 : ¬ (N10 : Int) + 1 < (N10 : Int) := by omega
                        have hgt2 : ¬ (N10 : Int) < (N10 : Int) := by omega
                        have hNb : (N10 : Int) ≤ 40 := by have := QZ.out; have := SU.out.len; omega
                        clear k24
                        go_wp2_with fail
                        go_roundw
                        case rel => exact ⟨t + 1, q, A10, N10, c10, L9, F22, _, by omega, by omega, by go_num, rfl, rfl, LQ, HF9, ON24, H24, S24⟩
                        case measure => simp [intOf] <;> omega
                      · have hkti : ¬ (t : Int) < (nk : Int) := by omega
                        obtain ⟨son, hon, g9, L9, ho9, hc9, hf9, hw9⟩ := OF.out.2 []
                        have HON := Lib.hid hon
                        have HO9 := Lib.hid ho9
                        have HC9 := Lib.hid hc9
                        have HF9 := Lib.hid hf9
                        have HW9 := Lib.hid hw9
                        have O0 := Lib.hid (own_emptyJ wz 3 1)
                        have kE := keeps_alloc wz (.cells #[] 3)
                        have S0 := Lib.hid (SU.out.keep kE)
                        have HV0 := Lib.hid (HV.out.keep kE)
                        clear hon ho9 hc9 hf9 hw9 kE
                        go_wp2_with (at_builtin; refine wpList_app _ rfl _ _ 47 rfl wz.heap.size 3 i1 (.int .i64 0) 1 8 Tryd.underlying47 hi1 hy0 hy1 hy2 rfl (by decide) _ 0 [] rfl O0.out _ none 0 0 (intC []) rfl rfl (At.nil _ (wz.alloc (.cells #[] 3)).heap.size _) (fun u hu => by simp only [intC, List.mem_map] at hu; obtain ⟨x, -, rfl⟩ := hu; rfl) (by unfold maxLen; omega) (by omega) (by simp) ?_; intro v20 w20 hown20 hgrow20 hblk20)
                        have hgk : ∀ k, (Value.slice (some ⟨wz.heap.size, 0, none⟩) 0 0).ownBlock = some k → w.heap.size ≤ k ∧ ¬ FZ k := fun k hk => by
                          have := (O0.out.lt k hk).1
                          exact ⟨Nat.le_trans HV.out.kp.size this, fun hf => by have := K.lt HV.out.D k hf; omega⟩
                        have HV20 := Lib.hid (HV0.out.grown_ hgrow20 hgk)
                        have S20 := Lib.hid (show SureAt w w20 FZ A10 N10 c10 L10 from ⟨S0.out.own.same (fun k hk => hgrow20.block k (S0.out.own.lt k hk).2 (fun e => by
                          have h1 := (SU.out.own.lt k hk).2
                          have e2 := Option.some.inj (show some k = some wz.heap.size from e)
                          omega)), S0.out.len, S0.out.out⟩)
                        have O20 := Lib.hid (show Own w20 wz.heap.size 3 1 v20 0 (intC []) by simpa [intC] using hown20)
                        clear hown20 hgrow20 hblk20 hgk
                        obtain ⟨A20, c20, rfl, -⟩ := O20.out.form
                        have ON := Lib.hid (HV20.out.onU_ HZ.out A20 0 c20 [] O20.out.at_ (fun ad ha hf => by
                          subst ha
                          have h1 := (O20.out.lt ad.block rfl).1
                          have h2 := K.lt HV.out.D _ hf
                          omega) rfl O20.out.capj.1 (by decide) HON.out)
                        go_wp2_with fail
                        refine ON.out.mono ?_
                        rintro e w21 ⟨rfl, F21, h21, t21⟩
                        have S21 := Lib.hid (S20.out.turn t21)
                        have OP := Lib.hid (jrOpen_any h21 HZ.out HS.out HO9.out)
                        clear h21 t21
                        go_wp2_with fail
                        refine OP.out.mono ?_
                        rintro e w22 ⟨F22, h22, t22, ⟨-, j22, G22, rfl, hj22, -⟩ | ⟨hbad, -⟩⟩
                        rotate_left
                        · exact absurd rfl hbad
                        have S22 := Lib.hid (S21.out.turn t22)
                        have H22 := Lib.hid h22
                        have RC := Lib.hid (jrRecs_any hj22)
                        clear h22 t22 hj22
                        have hw : L9 = L10 := by
                          rcases HW9.out with h | ⟨x, h, -⟩
                          · exact h
                          · cases h
                        obtain rfl := hw
                        have hlenL : L9.length = N10 := SU.out.len.symm
                        rw [hlenL] at RC
                        clear hlenL
                        go_wp2_with fail
                        refine RC.out.mono ?_
                        rintro e w23 ⟨A23, c23, rfl, o23, k23⟩
                        have S23 := Lib.hid (S22.out.keep k23)
                        have H23 := Lib.hid (H22.out.keep k23)
                        have BG := Lib.hid (begins_any A23 N10 c23 L9 A10 N10 c10 L9 w23 o23.at_ SU.out.len o23.capj.1 S23.out.own.at_ SU.out.len (Nat.le_refl _) (by rw [SU.out.len, List.take_length]) (by have := QZ.out; have := SU.out.len; omega))
                        clear o23 k23
                        go_wp2_with fail
                        refine BG.out.mono ?_
                        rintro e w24 ⟨rfl, k24⟩
                        have S24 := Lib.hid (S23.out.keep k24)
                        have H24 := Lib.hid (H23.out.keep k24)
                        have ON24 := Lib.hid (OnJ.clean HC9.out 0)
                        have LQ := Lib.hid (show L9.length ≤ q by have := QZ.out; have := SU.out.len; omega)
                        have hgt1 : ¬ (N10 : Int) + 1 < (N10 : Int) := by omega
                        have hgt2 : ¬ (N10 : Int) < (N10 : Int) := by omega
                        have hNb : (N10 : Int) ≤ 40 := by have := QZ.out; have := SU.out.len; omega
                        clear k24
                        go_wp2_with fail
                        go_roundw
                        case rel => exact ⟨t + 1, q, A10, N10, c10, L9, F22, _, by omega, by omega, by go_num, rfl, rfl, LQ, HF9, ON24, H24, S24⟩
                        case measure => simp [intOf] <;> omega
          · have hle : ¬ (t : Int) ≤ (nf : Int) := by omega
            have KZ := Lib.hid HV0.out.kp
            clear hlt
            go_wp2_with fail
            refine (WK.out _ KZ.out).mono ?_
            rintro e w9 ⟨rfl, k9⟩
            go_wp2_with fail
            go_ret
            exact ⟨rfl, keeps_trans KZ.out k9⟩
end Go.Proofs.YtiohijkelagloaaDoor
