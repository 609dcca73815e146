/- PagefileTorn. (Written by mktorn8.py.) -/
import Derived.Test.YtbpiiegjbcoapaaDoorQPfRows
import Derived.Test.YtbpiiegjbcoapaaDoorQPfMath3
namespace Go.Proofs.YtbpiiegjbcoapaaDoor
open Go.RowKit
set_option linter.unusedSimpArgs false
set_option linter.unusedVariables false
set_option maxRecDepth 100000

theorem Own.turn8 {w w' : World} {F F' : Nat → Prop} {base : Nat} {e : TypeId} {size : Nat} {v : Value} {n : Nat} {xs : List Value} (h : Own w base e size v n xs) (hA : ∀ k, v.ownBlock = some k → ¬ F k) (ht : Turns w w' F F') :
    Own w' base e size v n xs ∧ ∀ k, v.ownBlock = some k → ¬ F' k :=
  ⟨h.turns ht hA, fun k hk hf => by
    rcases ht.next k hf with h1 | h1
    · exact hA k hk h1
    · have := (h.lt k hk).2; omega⟩
theorem intC_len8 (l : List Int) : (intC l).length = l.length := by simp [intC]
theorem intC_one8 (l : List Int) : ∀ u ∈ intC l, u.oneCell' = true := by
  intro u hu
  obtain ⟨_, _, rfl⟩ := List.mem_map.1 hu
  rfl
theorem contains_step (l : List Int) (x : Int) (j : Nat) (h : (l.take j).contains x = false) (y : Int) (hy : l[j]? = some y) : (l.take (j + 1)).contains x = decide (y = x) := by
  rw [List.take_add_one, hy]
  simp only [Option.toList_some]
  rw [List.contains_append, h]
  simp
  constructor
  · intro e; exact e.symm
  · intro e; exact e.symm
theorem Own.notF {K : DiskOk} {w0 w w' : World} {b : Nat} {F : Nat → Prop} {s : Ds} (h : Have K w0 w b F s) {e : TypeId} {size : Nat} {v : Value} {n : Nat} {xs : List Value} (o : Own w' w.heap.size e size v n xs) : ∀ k, v.ownBlock = some k → ¬ F k := fun k hk hf => by
  have h1 := (o.lt k hk).1
  have h2 := K.lt h.D k hf
  omega
set_option maxHeartbeats 32000000 in
theorem torn8_walk (K : DiskOk) (PK : PageOk) (A : Option Addr) (n c : Nat) (rs : List RwS) (k : Int) (hk : IsI k) (B : Option Addr) (m d : Nat) (l : List UInt8) (A3 : Option Addr) (n3 c3 : Nat) (l3 : List Int) (w : World) (hZ : K.Z w) (hS : Sizes w)
    (h : RowsAt w A rs) (hn : n = rs.length) (hB : Bs w B l) (hm : m = l.length) (hd : m ≤ d) (hnx : n ≤ maxLen) (hdx : d ≤ maxLen) (hB3 : At w w.heap.size A3 (intC l3)) (hn3 : n3 = l3.length) (hc3 : n3 ≤ c3) (hn3x : n3 ≤ maxLen) :
    Calls Tryd.prog 6 #[.slice A n c, .int .i64 k, .slice B m d, .slice A3 n3 c3] w (Yes8 w) := by
  have WK := Lib.hid (fun (W : World) (q : Keeps w W) => works8 K PK W (K.keep hZ q) (hS.keep q))
  have hk1 := hk.1
  have hk2 := hk.2
  have HZ := Lib.hid hZ
  have HS := Lib.hid hS
  have H := Lib.hid h
  have HN := Lib.hid hn
  have HB := Lib.hid hB
  have HM := Lib.hid hm
  have HB3 := Lib.hid hB3
  have HN3 := Lib.hid hn3
  have HC3 := Lib.hid hc3
  have HD := Lib.hid (And.intro hd hdx)
  unfold maxLen at hnx hdx hn3x
  by_cases big : 20 < n ∨ 240 < m ∨ k < 0 ∨ (n : Int) < k ∨ 1000 < n3
  · have ways : (20 : Int) < (n : Int) ∨ (¬ (20 : Int) < (n : Int) ∧ (240 : Int) < (m : Int)) ∨ (¬ (20 : Int) < (n : Int) ∧ ¬ (240 : Int) < (m : Int) ∧ k < 0) ∨ (¬ (20 : Int) < (n : Int) ∧ ¬ (240 : Int) < (m : Int) ∧ ¬ k < 0 ∧ (n : Int) < k) ∨ (¬ (20 : Int) < (n : Int) ∧ ¬ (240 : Int) < (m : Int) ∧ ¬ k < 0 ∧ ¬ (n : Int) < k ∧ (1000 : Int) < (n3 : Int)) := by omega
    clear hZ hS h hn hB hm hd big hk hB3 hn3 hc3
    go_enter Tryd.func6, Tryd.ntmps6
    rcases ways with x1 | ⟨x1, x2⟩ | ⟨x1, x2, x3⟩ | ⟨x1, x2, x3, x4⟩ | ⟨x1, x2, x3, x4, x5⟩
    all_goals
      go_wp2_with fail
      refine (WK.out _ (keeps_refl _)).mono ?_
      rintro e w9 ⟨rfl, k9⟩
      go_wp2_with fail
      go_ret
      exact ⟨rfl, k9⟩
  · obtain ⟨kn, rfl⟩ : ∃ kn : Nat, k = (kn : Int) := ⟨k.toNat, by omega⟩
    have b0 : (n : Int) ≤ 20 := by omega
    have b1 : (m : Int) ≤ 240 := by omega
    have b2 : ¬ (kn : Int) < 0 := by omega
    have b3 : ¬ (n : Int) < (kn : Int) := by omega
    have b4 : (n3 : Int) ≤ 1000 := by omega
    have LD := Lib.hid (laid_any K PK w hZ hS A n c rs h hn (by omega))
    obtain ⟨o1, ho1⟩ : ∃ o : Nat, 256 * kn = o := ⟨_, rfl⟩
    have hmo : (256 : Int) * (kn : Int) = (o1 : Int) := by omega
    have hob : (o1 : Int) ≤ 20000 := by omega
    have hpl : (rowsL rs).length = n := by rw [rowsL_length]; exact HN.out.symm
    have HPL := Lib.hid hpl
    have hknn : kn ≤ n := by omega
    have HKN := Lib.hid hknn
    obtain ⟨T, hT⟩ : ∃ T, T = pageB tA kn l := ⟨_, rfl⟩
    have HT := Lib.hid hT
    have HTL := Lib.hid (show T.length = 256 by rw [hT]; exact pageB_length _ _ (by have := HM.out; omega))
    have HO1 := Lib.hid ho1
    clear hZ hS h hn hB hm hd big hk hB3 hn3 hc3 hpl hknn hT ho1
    go_enter Tryd.func6, Tryd.ntmps6
    go_wp2_with fail
    refine LD.out.mono ?_
    rintro e w1 (⟨b, f, F, fl, rfl, h1⟩ | ⟨rfl, k1⟩)
    rotate_left
    · go_wp2_with fail
      refine (WK.out _ k1).mono ?_
      rintro e w9 ⟨rfl, k9⟩
      go_wp2_with fail
      go_ret
      exact ⟨rfl, keeps_trans k1 k9⟩
    have H1 := Lib.hid h1
    obtain ⟨g, hg⟩ : ∃ g, g = writeF fl (256 * kn) T := ⟨_, rfl⟩
    have TE := Lib.hid (show Tear fl g (rowsL rs) kn T from by
      obtain ⟨g0, hg0, e⟩ := h1.synced
      exact ⟨h1.is, by rw [e]; rfl, fun j => by rw [e]; rfl, by rw [HPL.out]; exact HKN.out, HTL.out, hg⟩)
    obtain ⟨PW, hPW⟩ : ∃ PW, pageAt fl kn = PW := ⟨_, rfl⟩
    obtain ⟨PB, hPB⟩ : ∃ PB, pageAt (backF g 0 l3) kn = PB := ⟨_, rfl⟩
    have hPWb : PW.length ≤ 256 := by rw [← hPW]; unfold pageAt; rw [List.length_take]; omega
    have HPBb := Lib.hid (show PB.length ≤ 256 by rw [← hPB]; unfold pageAt; rw [List.length_take]; omega)
    have EA := Lib.hid (fun (i : Nat) (hi : i < PB.length) => show i < 256 ∧ (PB.getD i 0 = PW.getD i 0 ∨ PB.getD i 0 = T.getD i 0) by
      have := TE.out.each l3 (i := i) (by rw [hPB]; exact hi)
      rw [hPB, hPW] at this
      exact this)
    have R1 := Lib.hid (h1.h.read_ HZ.out [97] (o1 : Int) 256 ⟨by omega, by omega⟩ ⟨by decide, by decide⟩ _ rfl (show readS (D1 fl) [97] (o1 : Int) 256 = (PW, 0) by rw [← HO1.out, raw_any h1.is.name kn, hPW]))
    have WRP := Lib.hid (TE.out.write (by rw [HPL.out]; omega) (b := l) (by have := HM.out; omega) HT.out)
    have NW := Lib.hid (show readS (D1 (backF g 0 l3)) [97] (o1 : Int) 256 = (PB, 0) by rw [← HO1.out, raw_any (f := backF g 0 l3) TE.out.name kn, hPB])
    obtain ⟨wl, hwl⟩ : ∃ wl, PW.length = wl := ⟨_, rfl⟩
    have hwlb : (wl : Int) ≤ 256 := by omega
    have HWL := Lib.hid hwl
    clear h1 hg hPW hPB hPWb
    go_wp2_with fail
    refine R1.out.mono ?_
    rintro e w2 ⟨A2, c2, rfl, -, o2, -, k2⟩
    have N2 := Lib.hid (Own.notF H1.out.h o2)
    have L2 := Lib.hid (H1.out.keep k2)
    have O2 := Lib.hid o2
    have CP := Lib.hid (copyBytes_any B m d l w2 (HB.out.keep L2.out.h.kp) HM.out (by unfold maxLen; omega))
    simp only [hwl] at O2 N2 ⊢
    clear o2 k2 hwl
    go_wp2_with fail
    refine CP.out.mono ?_
    rintro e w3 ⟨v3, rfl, o3, k3⟩
    obtain ⟨A3', c3', rfl, hc3', -⟩ := o3.form
    have L3 := Lib.hid (L2.out.keep k3)
    have O23 := Lib.hid (O2.out.keep k3)
    have WR := Lib.hid (pfWrite_any PK L3.out.h HZ.out HS.out L3.out.at_ (by decide) (kn : Int) ⟨by omega, by omega⟩ A3' l.length c3' l o3.at_ rfl hc3' o3.capm WRP.out)
    clear o3 k3
    go_wp2_with fail
    refine WR.out.mono ?_
    rintro e w4 ⟨rfl, F4, h4, t4⟩
    obtain ⟨hf4, hn4⟩ := L3.out.at_.turn t4 L3.out.out
    have H4 := Lib.hid h4
    have HF4 := Lib.hid hf4
    have HN4 := Lib.hid hn4
    have Q4 := Lib.hid (O23.out.turn8 N2.out t4)
    have R4 := Lib.hid (h4.read_ HZ.out [97] (o1 : Int) 256 ⟨by omega, by omega⟩ ⟨by decide, by decide⟩ _ rfl (show readS (D1 g) [97] (o1 : Int) 256 = (T, 0) by rw [← HO1.out, raw_any TE.out.name kn, TE.out.at_]))
    clear h4 t4 hf4 hn4
    go_wp2_with fail
    refine R4.out.mono ?_
    rintro e w5 ⟨A5, c5, rfl, -, o5, -, k5⟩
    rw [HTL.out] at o5 ⊢
    have N5 := Lib.hid (Own.notF H4.out o5)
    have O5 := Lib.hid o5
    have H5 := Lib.hid (H4.out.keep k5)
    have HF5 := Lib.hid (HF4.out.keep k5)
    have Q5 := Lib.hid (Q4.out.1.keep k5)
    have LO := Lib.hid (K.loose (H5.out.z HZ.out) H5.out.D)
    rw [show (D1 g).l = [g] from rfl, TE.out.places] at LO
    unfold dpt at LO
    clear o5 k5
    go_wp2_with fail
    refine LO.out.mono ?_
    rintro e w6 ⟨v6, rfl, o6, k6⟩
    obtain ⟨A6, c6, rfl, -⟩ := o6.form
    have H6 := Lib.hid (H5.out.keep k6)
    have HF6 := Lib.hid (HF5.out.keep k6)
    have Q16 := Lib.hid (Q5.out.keep k6)
    have Q26 := Lib.hid (O5.out.keep k6)
    have AR := Lib.hid (H6.out.went (arm1 g) (K.arm 1 (H6.out.z HZ.out) H6.out.D (by decide) (by decide)))
    unfold dpt at AR
    clear o6 k6
    go_wp2_with fail
    refine AR.out.mono ?_
    rintro e w7 ⟨rfl, F7, h7, t7⟩
    obtain ⟨hf7, hn7⟩ := HF6.out.turn t7 HN4.out
    have H7 := Lib.hid h7
    have HF7 := Lib.hid hf7
    have HN7 := Lib.hid hn7
    have Q17 := Lib.hid (Q16.out.turn8 Q4.out.2 t7)
    have Q27 := Lib.hid (Q26.out.turn8 N5.out t7)
    have SY := Lib.hid (pfSync_any h7 HZ.out hf7 (by decide) (syncD g))
    clear h7 t7 hf7 hn7
    go_wp2_with fail
    refine SY.out.mono ?_
    rintro e w8 ⟨rfl, F8, h8, t8⟩
    obtain ⟨hf8, hn8⟩ := HF7.out.turn t8 HN7.out
    have H8 := Lib.hid h8
    have HF8 := Lib.hid hf8
    have HN8 := Lib.hid hn8
    have Q18 := Lib.hid (Q17.out.1.turn8 Q17.out.2 t8)
    have Q28 := Lib.hid (Q27.out.1.turn8 Q27.out.2 t8)
    clear h8 t8 hf8 hn8
    obtain ⟨i0, hi, hz0, hz1, hz2⟩ := info_parts infoI8
    have ke := keeps_alloc w8 (.cells #[] 3)
    have O0 := Lib.hid (show Own (w8.alloc (.cells #[] 3)) w8.heap.size 3 1 (.slice (some ⟨w8.heap.size, 0, none⟩) 0 0) 0 [] from ⟨rfl, .inr ⟨w8.heap.size, 0, #[], (0, 0), rfl, Nat.le_refl _, heap_alloc_new w8 _, .inl rfl, Nat.le_refl _, by simp [maxLen], rfl, rfl⟩⟩)
    have KP2 := Lib.hid ((HB3.out.keep (keeps_trans H8.out.kp ke)).more (keeps_trans H8.out.kp ke).size)
    go_wp2_with (at_builtin; refine wpList_app _ rfl _ _ 28 rfl w8.heap.size 3 i0 (.int .i64 0) 1 8 Tryd.underlying28 hi hz0 hz1 hz2 rfl (by decide) _ 0 [] rfl O0.out _ A3 n3 c3 (intC l3) rfl (by rw [intC_len8, HN3.out, Nat.mul_one]) KP2.out (intC_one8 _) (by unfold maxLen; omega) (by omega) (by simp) ?_; intro v9 w9 hown9 hg9 hb9)
    have hg9' : (w8.alloc (.cells #[] 3)).grownBy w9 (Value.slice (some ⟨w8.heap.size, 0, none⟩) 0 0).ownBlock := hg9
    have k9 : Keeps w8 w9 := Below.grown ke hg9' ke.size (fun g hg => (O0.out.lt g hg).1)
    have o9 : Own w9 w8.heap.size 3 1 v9 n3 (intC l3) := by have := hown9; rwa [Nat.zero_add] at this
    obtain ⟨A9, c9, rfl, hc9, -, -, hb9'⟩ := o9.form
    have H9 := Lib.hid (H8.out.keep k9)
    have HF9 := Lib.hid (HF8.out.keep k9)
    have ON := Lib.hid (H9.out.went (on1 g l3) (K.on A9 n3 c9 l3 (H9.out.z HZ.out) H9.out.D o9.at_ (fun ad ha hf => by have h6 := (hb9' ad ha).2.1; have h7 := K.lt H8.out.D _ hf; omega) HN3.out hc9 (by omega)))
    unfold dpt at ON
    have Q19 := Lib.hid (Q18.out.1.keep k9)
    have Q29 := Lib.hid (Q28.out.1.keep k9)
    clear hown9 hg9 hg9' hb9 hb9' o9 ke hi hz0 hz1 hz2 O0 KP2 k9
    refine ON.out.mono ?_
    rintro e w10 ⟨rfl, F10, h10, t10⟩
    obtain ⟨hf10, hn10⟩ := HF9.out.turn t10 HN8.out
    have H10 := Lib.hid h10
    have HF10 := Lib.hid hf10
    have Q10 := Lib.hid (Q19.out.turn8 Q18.out.2 t10)
    have Q20 := Lib.hid (Q29.out.turn8 Q28.out.2 t10)
    obtain ⟨hl, hhl⟩ : ∃ hl, (backF g 0 l3).now.length = hl := ⟨_, rfl⟩
    have hbk := TE.out.back_le l3
    rw [hhl, HPL.out] at hbk
    have PG := Lib.hid (pfPages_any h10 HZ.out hf10 (by decide) (size1 (f := backF g 0 l3) TE.out.name) (by rw [hhl]; omega))
    rw [hhl] at PG
    obtain ⟨np, hnp⟩ : ∃ np, hl / 256 = np := ⟨_, rfl⟩
    rw [hnp] at PG
    have np1 : ¬ (np : Int) < (n : Int) := by omega
    have np1N : ¬ np < n := by omega
    have np1D : decide (np < n) = false := decide_eq_false np1N
    have np2 : (np : Int) ≤ 30 := by omega
    have e1 : ((0 : Int) != 0) = false := rfl
    have e6 : ((6 : Int) != 6) = false := rfl
    have e2 : ((256 : Int) != 256) = false := rfl
    clear h10 t10 hf10 hn10 hbk hnp hhl
    go_wp2_with fail
    refine PG.out.mono ?_
    rintro e w11 ⟨rfl, k11⟩
    have H11 := Lib.hid (H10.out.keep k11)
    have HF11 := Lib.hid (HF10.out.keep k11)
    have Q11 := Lib.hid (Q10.out.1.keep k11)
    have Q21 := Lib.hid (Q20.out.1.keep k11)
    clear k11
    obtain ⟨lk, Ek, hlk⟩ : ∃ lk Ek, readP (D1 (backF g 0 l3)) [97] (kn : Int) = (lk, Ek) := ⟨_, _, rfl⟩
    have RDK := Lib.hid (fun (V : World) (kk : Keeps w11 V) => pfRead_any PK (H11.out.keep kk) HZ.out HS.out (HF11.out.keep kk) (by decide) (kn : Int) ⟨by omega, by omega⟩ hlk)
    have HLK := Lib.hid hlk
    clear hlk
    go_wp2_with fail
    go_loopw [23] (fun i wr => ∃ j : Nat, j ≤ n ∧ i = .int .i64 j ∧ Hid (Keeps w11 wr)) (fun i _ => n - (intOf i).toNat)
    case atStart => exact ⟨0, Nat.zero_le _, rfl, Lib.hid (keeps_refl _)⟩
    case round =>
      obtain ⟨j, hj, rfl, KR⟩ := hrel
      by_cases hlt : j < n
      · have hjn : (j : Int) < (n : Int) := by omega
        by_cases hjk : j = kn
        · subst hjk
          have heq : ((j : Int) != (j : Int)) = false := by simp
          have RD := Lib.hid (RDK.out _ KR.out)
          clear hj hlt
          go_wp2_with fail
          refine RD.out.mono ?_
          rintro e w12 ⟨A12, c12, rfl, -, -, k12⟩
          have K12 := Lib.hid (keeps_trans KR.out k12)
          clear k12
          go_wp2_with fail
          go_roundw
          case rel => first | exact ⟨j + 1, by omega, by go_num, K12⟩ | ((repeat (apply Exists.intro)); refine ⟨?_, rfl⟩; exact ⟨j + 1, by omega, by go_num, K12⟩)
          case measure => simp [intOf]; omega
        · have hne : ((j : Int) != (kn : Int)) = true := by rw [bne_iff_ne]; omega
          obtain ⟨r, hr⟩ : ∃ r, rs[j]? = some r := ⟨_, List.getElem?_eq_getElem (by have := HN.out; omega)⟩
          obtain ⟨ad, rfl, hc, g5⟩ := (H.out.keep (keeps_trans H11.out.kp KR.out)).get hr
          have G := Lib.hid g5
          have RD := Lib.hid (pfRead_any PK (H11.out.keep KR.out) HZ.out HS.out (HF11.out.keep KR.out) (by decide) (j : Int) ⟨by omega, by omega⟩ (TE.out.others l3 (p := r.l) (by rw [rowsL_get, hr]; rfl) hjk))
          clear hj hlt g5 hr
          go_wp2_with fail
          refine RD.out.mono ?_
          rintro e w12 ⟨A12, c12, rfl, -, o12, k12⟩
          have hc12 := k12.cellOf hc
          have EQ := Lib.hid (eq_same A12 r.l.length c12 r.l r.A r.n r.c w12 o12.at_ rfl (G.out.b.keep k12) G.out.len)
          have K12 := Lib.hid (keeps_trans KR.out k12)
          clear o12 k12 hc
          go_wp2_with fail
          refine EQ.out.mono ?_
          rintro e w13 ⟨rfl, rfl⟩
          go_wp2_with fail
          go_roundw
          case rel => first | exact ⟨j + 1, by omega, by go_num, K12⟩ | ((repeat (apply Exists.intro)); refine ⟨?_, rfl⟩; exact ⟨j + 1, by omega, by go_num, K12⟩)
          case measure => simp [intOf]; omega
      · obtain rfl : n = j := by omega
        have S0 := Lib.hid (show stayN l3 0 = 0 from rfl)
        have HB15 := Lib.hid ((HB3.out.keep (keeps_trans H11.out.kp KR.out)).more (keeps_trans H11.out.kp KR.out).size)
        have H15 := Lib.hid (H11.out.keep KR.out)
        have KR15 := Lib.hid KR.out
        rename World => w15
        clear hlt hj
        go_wp2_with fail
        go_loopw [26, 27] (fun s i wr => ∃ t : Nat, t ≤ 4 ∧ i = .int .i64 t ∧ s = .int .i64 (stayN l3 t : Int) ∧ Hid (Keeps w15 wr)) (fun _ i _ => 4 - (intOf i).toNat)
        case atStart => exact ⟨0, by omega, rfl, by rw [S0.out]; rfl, Lib.hid (keeps_refl _)⟩
        case round =>
          obtain ⟨t, ht, rfl, rfl, KT⟩ := hrel
          by_cases hlt : t < 4
          · have hti : (t : Int) < 4 := by omega
            have SS := Lib.hid (stayN_succ l3 t)
            have SL := stayN_le l3 t
            have HB16 := Lib.hid ((HB15.out.keep KT.out).more KT.out.size)
            obtain ⟨st, hst⟩ : ∃ st, stayN l3 t = st := ⟨_, rfl⟩
            rw [hst] at SS SL ⊢
            have hsti : (st : Int) ≤ 4 := by omega
            clear hst SL
            rename World => w16
            go_wp2_with fail
            go_loopw [26, 28] (fun s i wr => ∃ j2 : Nat, j2 ≤ n3 ∧ i = .int .i64 j2 ∧ s = .int .i64 (st : Int) ∧ Hid ((l3.take j2).contains (t : Int) = false) ∧ Hid (Keeps w16 wr)) (fun _ i _ => n3 - (intOf i).toNat)
            case atStart => exact ⟨0, Nat.zero_le _, rfl, rfl, Lib.hid rfl, Lib.hid (keeps_refl _)⟩
            case round =>
              obtain ⟨j2, hj2, rfl, rfl, HP, KJ⟩ := hrel
              by_cases hl2 : j2 < n3
              · obtain ⟨y, hy⟩ : ∃ y, l3[j2]? = some y := ⟨_, List.getElem?_eq_getElem (by have := HN3.out; omega)⟩
                obtain ⟨ad3, rfl, -, hc3⟩ := At.get ((HB16.out.keep KJ.out).more KJ.out.size) (k := j2) (by rw [intC_len8]; have := HN3.out; omega)
                have hc3' := hc3
                rw [show (intC l3)[j2]? = some (.int .i64 y) by simp only [intC, List.getElem?_map, hy, Option.map_some]] at hc3'
                have hj2n : (j2 : Int) < (n3 : Int) := by omega
                have CT := Lib.hid (contains_step l3 (t : Int) j2 HP.out y hy)
                have HY := Lib.hid hy
                clear hc3 hy
                by_cases hv : y = (t : Int)
                · have hb : (y == (t : Int)) = true := beq_iff_eq.2 hv
                  have SN := Lib.hid (show stayN l3 (t + 1) = st + 1 by
                    rw [SS.out, if_pos]
                    rw [List.contains_iff_mem, ← hv]
                    exact List.mem_of_getElem? HY.out)
                  clear hv
                  go_wp2_with fail
                  go_roundw
                  case rel => exact ⟨t + 1, by omega, by go_num, by rw [SN.out]; go_num, Lib.hid (keeps_trans KT.out KJ.out)⟩
                  case measure => simp [intOf]; omega
                · have hb : (y == (t : Int)) = false := by rw [beq_eq_false_iff_ne]; exact hv
                  have NX := Lib.hid (show (l3.take (j2 + 1)).contains (t : Int) = false by rw [CT.out]; exact decide_eq_false hv)
                  clear hv
                  go_wp2_with fail
                  go_roundw
                  case rel => exact ⟨j2 + 1, by omega, by go_num, rfl, NX, KJ⟩
                  case measure => simp [intOf]; omega
              · obtain rfl : j2 = n3 := by omega
                have SN := Lib.hid (show stayN l3 (t + 1) = st by
                  rw [SS.out, if_neg, Nat.add_zero]
                  have h1 := HP.out
                  rw [List.take_of_length_le (by have := HN3.out; omega)] at h1
                  rw [h1]
                  simp)
                clear hl2 hj2
                go_wp2_with fail
                go_roundw
                case rel => exact ⟨t + 1, by omega, by go_num, by rw [SN.out], Lib.hid (keeps_trans KT.out KJ.out)⟩
                case measure => simp [intOf]; omega
          · obtain rfl : t = 4 := by omega
            have J15 := Lib.hid (keeps_trans KR15.out KT.out)
            have H19 := Lib.hid (H11.out.keep J15.out)
            have Q15 := Lib.hid Q11.out
            have Q25 := Lib.hid Q21.out
            have RD := Lib.hid (RDK.out _ J15.out)
            have SALL := Lib.hid (fun e : stayN l3 4 = 4 => TE.out.all l3 (stayN_all e) (b := l) (by have := HM.out; omega) HT.out)
            have SNONE := Lib.hid (fun (e : stayN l3 4 = 0) (p : List UInt8) (hp : (rowsL rs)[kn]? = some p) => TE.out.none l3 (stayN_none e) hp)
            have S4 := stayN_le l3 4
            obtain ⟨S, hS⟩ : ∃ S, stayN l3 4 = S := ⟨_, rfl⟩
            rw [hS] at SALL SNONE S4 ⊢
            have hSi : (S : Int) ≤ 4 := by omega
            clear hlt ht hS
            by_cases s4 : S = 4
            · subst s4
              have e := SALL.out rfl
              rw [HLK.out] at e
              obtain ⟨rfl, rfl⟩ := Prod.mk.inj e
              have g1 : ((4 : Int) == 4) = true := rfl
              have g0 : ((4 : Int) == 0) = false := rfl
              clear e S4
              go_wp2_with fail
              refine RD.out.mono ?_
              rintro e w20 ⟨A20, c20, rfl, -, o20, k20⟩
              have K20 := Lib.hid k20
              have EQ := Lib.hid (eq_same A20 lk.length c20 lk B m d w20 o20.at_ rfl ((HB.out.keep H19.out.kp).keep k20) HM.out)
              clear o20 k20
              go_wp2_with fail
              refine EQ.out.mono ?_
              rintro e w20b ⟨rfl, rfl⟩
              have H20 := Lib.hid (H19.out.keep K20.out)
              have Z1 := Lib.hid ((Q15.out.keep J15.out).keep K20.out)
              have Z2 := Lib.hid ((Q25.out.keep J15.out).keep K20.out)
              have RW := Lib.hid (H20.out.read_ HZ.out [97] (o1 : Int) 256 ⟨by omega, by omega⟩ ⟨by decide, by decide⟩ _ rfl NW.out)
              go_wp2_with fail
              refine RW.out.mono ?_
              rintro e w21 ⟨A21, c21, rfl, -, o21, -, k21⟩
              have z0c : ((0 : Nat) : Int) = 0 := rfl
              rw [z0c]
              clear z0c
              have O21 := Lib.hid o21
              have Z11 := Lib.hid (Z1.out.keep k21)
              have Z21 := Lib.hid (Z2.out.keep k21)
              have K21 := Lib.hid (keeps_trans H20.out.kp k21)
              clear o21 k21
              obtain ⟨nl, hnl⟩ : ∃ nl, PB.length = nl := ⟨_, rfl⟩
              simp only [hnl] at O21 ⊢
              have HNL := Lib.hid hnl
              have hnlb : (nl : Int) ≤ 256 := by have := HPBb.out; omega
              clear hnl
              go_wp2_with fail
              go_loopw [31] (fun i wr => ∃ j : Nat, j ≤ nl ∧ i = .int .i64 j ∧ Hid (Keeps w21 wr)) (fun i _ => nl - (intOf i).toNat)
              case atStart => exact ⟨0, Nat.zero_le _, rfl, Lib.hid (keeps_refl _)⟩
              case round =>
                obtain ⟨j, hj, rfl, KR⟩ := hrel
                by_cases hlt : j < nl
                · have hjn : (j : Int) < (nl : Int) := by omega
                  have hjN : j < nl := hlt
                  obtain ⟨h256, hor⟩ := EA.out j (by rw [HNL.out]; exact hlt)
                  obtain ⟨g1, rfl, qa, -⟩ := (O21.out.keep KR.out).cell (j := j) (by rw [cel_length, HNL.out]; exact hlt)
                  have hlA : j < PB.length := by rw [HNL.out]; exact hlt
                  replace qa := qa.trans (cel_get PB hlA)
                  obtain ⟨g2, rfl, qb, -⟩ := (Z21.out.keep KR.out).cell (j := j) (by rw [cel_length, HTL.out]; exact h256)
                  have hlB : j < T.length := by rw [HTL.out]; exact h256
                  replace qb := qb.trans (cel_get T hlB)
                  clear hlA hlB
                  have hj256 : (j : Int) < 256 := by omega
                  have hj256N : j < 256 := h256
                  by_cases hw : j < wl
                  · obtain ⟨g3, rfl, qc, -⟩ := (Z11.out.keep KR.out).cell (j := j) (by rw [cel_length]; exact Nat.lt_of_lt_of_eq hw HWL.out.symm)
                    have hlC : j < PW.length := Nat.lt_of_lt_of_eq hw HWL.out.symm
                    replace qc := qc.trans (cel_get PW hlC)
                    clear hlC
                    have hwi : (j : Int) < (wl : Int) := by omega
                    have hwN : j < wl := hw
                    generalize PB.getD j 0 = v1 at *
                    generalize PW.getD j 0 = v2 at *
                    generalize T.getD j 0 = v3 at *
                    clear hlt hw hj h256
                    by_cases e12 : v1 = v2
                    · subst e12
                      have hne : ((v1.toNat : Int) != (v1.toNat : Int)) = false := by simp
                      clear hor
                      go_wp2_with fail
                      go_quiet (fail)
                      go_wp2_with fail
                      go_roundw
                      case rel => exact ⟨j + 1, by omega, by go_num, Lib.hid (keeps_trans KR.out (keeps_drewN _ _))⟩
                      case measure => simp [intOf]; omega
                    · have e13 : v1 = v3 := by rcases hor with h | h; exact absurd h e12; exact h
                      subst e13
                      have hne : ((v1.toNat : Int) != (v1.toNat : Int)) = false := by simp
                      have hne2 : ((v1.toNat : Int) != (v2.toNat : Int)) = true := by rw [bne_iff_ne]; intro e; exact e12 (UInt8.toNat_inj.1 (by omega))
                      clear hor e12
                      go_wp2_with fail
                      go_quiet (fail)
                      go_wp2_with fail
                      go_roundw
                      case rel => exact ⟨j + 1, by omega, by go_num, Lib.hid (keeps_trans KR.out (keeps_drewN _ _))⟩
                      case measure => simp [intOf]; omega
                  · have hwi : ¬ (j : Int) < (wl : Int) := by omega
                    have hwN : ¬ j < wl := hw
                    have hwD : decide (j < wl) = false := decide_eq_false hw
                    have hwE : decide ((j : Int) < (wl : Int)) = false := decide_eq_false hwi
                    have e0 : PW.getD j 0 = 0 := by
                      simp only [List.getD]
                      rw [List.getElem?_eq_none (by rw [HWL.out]; omega)]
                      rfl
                    rw [e0] at hor
                    generalize PB.getD j 0 = v1 at *
                    generalize T.getD j 0 = v3 at *
                    obtain ⟨v0, hv0⟩ : ∃ v0 : UInt8, v0 = 0 := ⟨0, rfl⟩
                    have hv : Value.int IntKind.u8 0 = Value.int IntKind.u8 ((v0.toNat : Nat) : Int) := by rw [hv0]; rfl
                    have HV0 := Lib.hid hv
                    rw [← hv0] at hor
                    clear hlt hw hj h256 e0 hv hv0
                    by_cases e12 : v1 = v0
                    · subst e12
                      have hne : ((v1.toNat : Int) != (v1.toNat : Int)) = false := by simp
                      clear hor
                      go_wp2_with fail
                      rw [HV0.out]
                      clear HV0 hwi hwN hwD hwE
                      go_quiet (fail)
                      go_wp2_with fail
                      go_roundw
                      case rel => exact ⟨j + 1, by omega, by go_num, Lib.hid (keeps_trans KR.out (keeps_drewN _ _))⟩
                      case measure => simp [intOf]; omega
                    · have e13 : v1 = v3 := by rcases hor with h | h; exact absurd h e12; exact h
                      subst e13
                      have hne : ((v1.toNat : Int) != (v1.toNat : Int)) = false := by simp
                      have hne2 : ((v1.toNat : Int) != (v0.toNat : Int)) = true := by rw [bne_iff_ne]; intro e; exact e12 (UInt8.toNat_inj.1 (by omega))
                      clear hor e12
                      go_wp2_with fail
                      rw [HV0.out]
                      clear HV0 hwi hwN hwD hwE
                      go_quiet (fail)
                      go_wp2_with fail
                      go_roundw
                      case rel => exact ⟨j + 1, by omega, by go_num, Lib.hid (keeps_trans KR.out (keeps_drewN _ _))⟩
                      case measure => simp [intOf]; omega
                · obtain rfl : nl = j := by omega
                  have K9 := Lib.hid (keeps_trans K21.out KR.out)
                  clear hlt hj
                  go_wp2_with fail
                  refine (WK.out _ K9.out).mono ?_
                  rintro e w9 ⟨rfl, k9⟩
                  go_wp2_with fail
                  go_ret
                  exact ⟨rfl, keeps_trans K9.out k9⟩
            · have g1 : ((S : Int) == 4) = false := by rw [beq_eq_false_iff_ne]; omega
              by_cases s0 : S = 0
              · subst s0
                have g0 : ((0 : Int) == 0) = true := rfl
                have g4 : ((0 : Int) == 4) = false := rfl
                by_cases hkn : kn < n
                · have hkni : (kn : Int) < (n : Int) := by omega
                  obtain ⟨r, hr⟩ : ∃ r, rs[kn]? = some r := ⟨_, List.getElem?_eq_getElem (by have := HN.out; omega)⟩
                  have e := SNONE.out rfl r.l (by rw [rowsL_get, hr]; rfl)
                  rw [HLK.out] at e
                  obtain ⟨rfl, rfl⟩ := Prod.mk.inj e
                  obtain ⟨ad, rfl, hc, g5⟩ := (H.out.keep H19.out.kp).get hr
                  have G := Lib.hid g5
                  clear e S4 g5 hr
                  go_wp2_with fail
                  refine RD.out.mono ?_
                  rintro e w20 ⟨A20, c20, rfl, -, o20, k20⟩
                  have K20 := Lib.hid k20
                  have hc20 := k20.cellOf hc
                  have EQ := Lib.hid (eq_same A20 r.l.length c20 r.l r.A r.n r.c w20 o20.at_ rfl (G.out.b.keep k20) G.out.len)
                  clear o20 k20 hc
                  go_wp2_with fail
                  refine EQ.out.mono ?_
                  rintro e w20b ⟨rfl, rfl⟩
                  have H20 := Lib.hid (H19.out.keep K20.out)
                  have Z1 := Lib.hid ((Q15.out.keep J15.out).keep K20.out)
                  have Z2 := Lib.hid ((Q25.out.keep J15.out).keep K20.out)
                  have RW := Lib.hid (H20.out.read_ HZ.out [97] (o1 : Int) 256 ⟨by omega, by omega⟩ ⟨by decide, by decide⟩ _ rfl NW.out)
                  go_wp2_with fail
                  refine RW.out.mono ?_
                  rintro e w21 ⟨A21, c21, rfl, -, o21, -, k21⟩
                  have z0c : ((0 : Nat) : Int) = 0 := rfl
                  rw [z0c]
                  clear z0c
                  have O21 := Lib.hid o21
                  have Z11 := Lib.hid (Z1.out.keep k21)
                  have Z21 := Lib.hid (Z2.out.keep k21)
                  have K21 := Lib.hid (keeps_trans H20.out.kp k21)
                  clear o21 k21
                  obtain ⟨nl, hnl⟩ : ∃ nl, PB.length = nl := ⟨_, rfl⟩
                  simp only [hnl] at O21 ⊢
                  have HNL := Lib.hid hnl
                  have hnlb : (nl : Int) ≤ 256 := by have := HPBb.out; omega
                  clear hnl
                  go_wp2_with fail
                  go_loopw [31] (fun i wr => ∃ j : Nat, j ≤ nl ∧ i = .int .i64 j ∧ Hid (Keeps w21 wr)) (fun i _ => nl - (intOf i).toNat)
                  case atStart => exact ⟨0, Nat.zero_le _, rfl, Lib.hid (keeps_refl _)⟩
                  case round =>
                    obtain ⟨j, hj, rfl, KR⟩ := hrel
                    by_cases hlt : j < nl
                    · have hjn : (j : Int) < (nl : Int) := by omega
                      have hjN : j < nl := hlt
                      obtain ⟨h256, hor⟩ := EA.out j (by rw [HNL.out]; exact hlt)
                      obtain ⟨g1, rfl, qa, -⟩ := (O21.out.keep KR.out).cell (j := j) (by rw [cel_length, HNL.out]; exact hlt)
                      have hlA : j < PB.length := by rw [HNL.out]; exact hlt
                      replace qa := qa.trans (cel_get PB hlA)
                      obtain ⟨g2, rfl, qb, -⟩ := (Z21.out.keep KR.out).cell (j := j) (by rw [cel_length, HTL.out]; exact h256)
                      have hlB : j < T.length := by rw [HTL.out]; exact h256
                      replace qb := qb.trans (cel_get T hlB)
                      clear hlA hlB
                      have hj256 : (j : Int) < 256 := by omega
                      have hj256N : j < 256 := h256
                      by_cases hw : j < wl
                      · obtain ⟨g3, rfl, qc, -⟩ := (Z11.out.keep KR.out).cell (j := j) (by rw [cel_length]; exact Nat.lt_of_lt_of_eq hw HWL.out.symm)
                        have hlC : j < PW.length := Nat.lt_of_lt_of_eq hw HWL.out.symm
                        replace qc := qc.trans (cel_get PW hlC)
                        clear hlC
                        have hwi : (j : Int) < (wl : Int) := by omega
                        have hwN : j < wl := hw
                        generalize PB.getD j 0 = v1 at *
                        generalize PW.getD j 0 = v2 at *
                        generalize T.getD j 0 = v3 at *
                        clear hlt hw hj h256
                        by_cases e12 : v1 = v2
                        · subst e12
                          have hne : ((v1.toNat : Int) != (v1.toNat : Int)) = false := by simp
                          clear hor
                          go_wp2_with fail
                          go_quiet (fail)
                          go_wp2_with fail
                          go_roundw
                          case rel => exact ⟨j + 1, by omega, by go_num, Lib.hid (keeps_trans KR.out (keeps_drewN _ _))⟩
                          case measure => simp [intOf]; omega
                        · have e13 : v1 = v3 := by rcases hor with h | h; exact absurd h e12; exact h
                          subst e13
                          have hne : ((v1.toNat : Int) != (v1.toNat : Int)) = false := by simp
                          have hne2 : ((v1.toNat : Int) != (v2.toNat : Int)) = true := by rw [bne_iff_ne]; intro e; exact e12 (UInt8.toNat_inj.1 (by omega))
                          clear hor e12
                          go_wp2_with fail
                          go_quiet (fail)
                          go_wp2_with fail
                          go_roundw
                          case rel => exact ⟨j + 1, by omega, by go_num, Lib.hid (keeps_trans KR.out (keeps_drewN _ _))⟩
                          case measure => simp [intOf]; omega
                      · have hwi : ¬ (j : Int) < (wl : Int) := by omega
                        have hwN : ¬ j < wl := hw
                        have hwD : decide (j < wl) = false := decide_eq_false hw
                        have hwE : decide ((j : Int) < (wl : Int)) = false := decide_eq_false hwi
                        have e0 : PW.getD j 0 = 0 := by
                          simp only [List.getD]
                          rw [List.getElem?_eq_none (by rw [HWL.out]; omega)]
                          rfl
                        rw [e0] at hor
                        generalize PB.getD j 0 = v1 at *
                        generalize T.getD j 0 = v3 at *
                        obtain ⟨v0, hv0⟩ : ∃ v0 : UInt8, v0 = 0 := ⟨0, rfl⟩
                        have hv : Value.int IntKind.u8 0 = Value.int IntKind.u8 ((v0.toNat : Nat) : Int) := by rw [hv0]; rfl
                        have HV0 := Lib.hid hv
                        rw [← hv0] at hor
                        clear hlt hw hj h256 e0 hv hv0
                        by_cases e12 : v1 = v0
                        · subst e12
                          have hne : ((v1.toNat : Int) != (v1.toNat : Int)) = false := by simp
                          clear hor
                          go_wp2_with fail
                          rw [HV0.out]
                          clear HV0 hwi hwN hwD hwE
                          go_quiet (fail)
                          go_wp2_with fail
                          go_roundw
                          case rel => exact ⟨j + 1, by omega, by go_num, Lib.hid (keeps_trans KR.out (keeps_drewN _ _))⟩
                          case measure => simp [intOf]; omega
                        · have e13 : v1 = v3 := by rcases hor with h | h; exact absurd h e12; exact h
                          subst e13
                          have hne : ((v1.toNat : Int) != (v1.toNat : Int)) = false := by simp
                          have hne2 : ((v1.toNat : Int) != (v0.toNat : Int)) = true := by rw [bne_iff_ne]; intro e; exact e12 (UInt8.toNat_inj.1 (by omega))
                          clear hor e12
                          go_wp2_with fail
                          rw [HV0.out]
                          clear HV0 hwi hwN hwD hwE
                          go_quiet (fail)
                          go_wp2_with fail
                          go_roundw
                          case rel => exact ⟨j + 1, by omega, by go_num, Lib.hid (keeps_trans KR.out (keeps_drewN _ _))⟩
                          case measure => simp [intOf]; omega
                    · obtain rfl : nl = j := by omega
                      have K9 := Lib.hid (keeps_trans K21.out KR.out)
                      clear hlt hj
                      go_wp2_with fail
                      refine (WK.out _ K9.out).mono ?_
                      rintro e w9 ⟨rfl, k9⟩
                      go_wp2_with fail
                      go_ret
                      exact ⟨rfl, keeps_trans K9.out k9⟩
                · have hkni : ¬ (kn : Int) < (n : Int) := by omega
                  clear S4
                  go_wp2_with fail
                  refine RD.out.mono ?_
                  rintro e w20 ⟨A20, c20, rfl, -, -, k20⟩
                  have K20 := Lib.hid k20
                  clear k20
                  have H20 := Lib.hid (H19.out.keep K20.out)
                  have Z1 := Lib.hid ((Q15.out.keep J15.out).keep K20.out)
                  have Z2 := Lib.hid ((Q25.out.keep J15.out).keep K20.out)
                  have RW := Lib.hid (H20.out.read_ HZ.out [97] (o1 : Int) 256 ⟨by omega, by omega⟩ ⟨by decide, by decide⟩ _ rfl NW.out)
                  go_wp2_with fail
                  refine RW.out.mono ?_
                  rintro e w21 ⟨A21, c21, rfl, -, o21, -, k21⟩
                  have z0c : ((0 : Nat) : Int) = 0 := rfl
                  rw [z0c]
                  clear z0c
                  have O21 := Lib.hid o21
                  have Z11 := Lib.hid (Z1.out.keep k21)
                  have Z21 := Lib.hid (Z2.out.keep k21)
                  have K21 := Lib.hid (keeps_trans H20.out.kp k21)
                  clear o21 k21
                  obtain ⟨nl, hnl⟩ : ∃ nl, PB.length = nl := ⟨_, rfl⟩
                  simp only [hnl] at O21 ⊢
                  have HNL := Lib.hid hnl
                  have hnlb : (nl : Int) ≤ 256 := by have := HPBb.out; omega
                  clear hnl
                  go_wp2_with fail
                  go_loopw [31] (fun i wr => ∃ j : Nat, j ≤ nl ∧ i = .int .i64 j ∧ Hid (Keeps w21 wr)) (fun i _ => nl - (intOf i).toNat)
                  case atStart => exact ⟨0, Nat.zero_le _, rfl, Lib.hid (keeps_refl _)⟩
                  case round =>
                    obtain ⟨j, hj, rfl, KR⟩ := hrel
                    by_cases hlt : j < nl
                    · have hjn : (j : Int) < (nl : Int) := by omega
                      have hjN : j < nl := hlt
                      obtain ⟨h256, hor⟩ := EA.out j (by rw [HNL.out]; exact hlt)
                      obtain ⟨g1, rfl, qa, -⟩ := (O21.out.keep KR.out).cell (j := j) (by rw [cel_length, HNL.out]; exact hlt)
                      have hlA : j < PB.length := by rw [HNL.out]; exact hlt
                      replace qa := qa.trans (cel_get PB hlA)
                      obtain ⟨g2, rfl, qb, -⟩ := (Z21.out.keep KR.out).cell (j := j) (by rw [cel_length, HTL.out]; exact h256)
                      have hlB : j < T.length := by rw [HTL.out]; exact h256
                      replace qb := qb.trans (cel_get T hlB)
                      clear hlA hlB
                      have hj256 : (j : Int) < 256 := by omega
                      have hj256N : j < 256 := h256
                      by_cases hw : j < wl
                      · obtain ⟨g3, rfl, qc, -⟩ := (Z11.out.keep KR.out).cell (j := j) (by rw [cel_length]; exact Nat.lt_of_lt_of_eq hw HWL.out.symm)
                        have hlC : j < PW.length := Nat.lt_of_lt_of_eq hw HWL.out.symm
                        replace qc := qc.trans (cel_get PW hlC)
                        clear hlC
                        have hwi : (j : Int) < (wl : Int) := by omega
                        have hwN : j < wl := hw
                        generalize PB.getD j 0 = v1 at *
                        generalize PW.getD j 0 = v2 at *
                        generalize T.getD j 0 = v3 at *
                        clear hlt hw hj h256
                        by_cases e12 : v1 = v2
                        · subst e12
                          have hne : ((v1.toNat : Int) != (v1.toNat : Int)) = false := by simp
                          clear hor
                          go_wp2_with fail
                          go_quiet (fail)
                          go_wp2_with fail
                          go_roundw
                          case rel => exact ⟨j + 1, by omega, by go_num, Lib.hid (keeps_trans KR.out (keeps_drewN _ _))⟩
                          case measure => simp [intOf]; omega
                        · have e13 : v1 = v3 := by rcases hor with h | h; exact absurd h e12; exact h
                          subst e13
                          have hne : ((v1.toNat : Int) != (v1.toNat : Int)) = false := by simp
                          have hne2 : ((v1.toNat : Int) != (v2.toNat : Int)) = true := by rw [bne_iff_ne]; intro e; exact e12 (UInt8.toNat_inj.1 (by omega))
                          clear hor e12
                          go_wp2_with fail
                          go_quiet (fail)
                          go_wp2_with fail
                          go_roundw
                          case rel => exact ⟨j + 1, by omega, by go_num, Lib.hid (keeps_trans KR.out (keeps_drewN _ _))⟩
                          case measure => simp [intOf]; omega
                      · have hwi : ¬ (j : Int) < (wl : Int) := by omega
                        have hwN : ¬ j < wl := hw
                        have hwD : decide (j < wl) = false := decide_eq_false hw
                        have hwE : decide ((j : Int) < (wl : Int)) = false := decide_eq_false hwi
                        have e0 : PW.getD j 0 = 0 := by
                          simp only [List.getD]
                          rw [List.getElem?_eq_none (by rw [HWL.out]; omega)]
                          rfl
                        rw [e0] at hor
                        generalize PB.getD j 0 = v1 at *
                        generalize T.getD j 0 = v3 at *
                        obtain ⟨v0, hv0⟩ : ∃ v0 : UInt8, v0 = 0 := ⟨0, rfl⟩
                        have hv : Value.int IntKind.u8 0 = Value.int IntKind.u8 ((v0.toNat : Nat) : Int) := by rw [hv0]; rfl
                        have HV0 := Lib.hid hv
                        rw [← hv0] at hor
                        clear hlt hw hj h256 e0 hv hv0
                        by_cases e12 : v1 = v0
                        · subst e12
                          have hne : ((v1.toNat : Int) != (v1.toNat : Int)) = false := by simp
                          clear hor
                          go_wp2_with fail
                          rw [HV0.out]
                          clear HV0 hwi hwN hwD hwE
                          go_quiet (fail)
                          go_wp2_with fail
                          go_roundw
                          case rel => exact ⟨j + 1, by omega, by go_num, Lib.hid (keeps_trans KR.out (keeps_drewN _ _))⟩
                          case measure => simp [intOf]; omega
                        · have e13 : v1 = v3 := by rcases hor with h | h; exact absurd h e12; exact h
                          subst e13
                          have hne : ((v1.toNat : Int) != (v1.toNat : Int)) = false := by simp
                          have hne2 : ((v1.toNat : Int) != (v0.toNat : Int)) = true := by rw [bne_iff_ne]; intro e; exact e12 (UInt8.toNat_inj.1 (by omega))
                          clear hor e12
                          go_wp2_with fail
                          rw [HV0.out]
                          clear HV0 hwi hwN hwD hwE
                          go_quiet (fail)
                          go_wp2_with fail
                          go_roundw
                          case rel => exact ⟨j + 1, by omega, by go_num, Lib.hid (keeps_trans KR.out (keeps_drewN _ _))⟩
                          case measure => simp [intOf]; omega
                    · obtain rfl : nl = j := by omega
                      have K9 := Lib.hid (keeps_trans K21.out KR.out)
                      clear hlt hj
                      go_wp2_with fail
                      refine (WK.out _ K9.out).mono ?_
                      rintro e w9 ⟨rfl, k9⟩
                      go_wp2_with fail
                      go_ret
                      exact ⟨rfl, keeps_trans K9.out k9⟩
              · have g0 : ((S : Int) == 0) = false := by rw [beq_eq_false_iff_ne]; omega
                clear S4
                go_wp2_with fail
                refine RD.out.mono ?_
                rintro e w20 ⟨A20, c20, rfl, -, -, k20⟩
                have K20 := Lib.hid k20
                clear k20
                have H20 := Lib.hid (H19.out.keep K20.out)
                have Z1 := Lib.hid ((Q15.out.keep J15.out).keep K20.out)
                have Z2 := Lib.hid ((Q25.out.keep J15.out).keep K20.out)
                have RW := Lib.hid (H20.out.read_ HZ.out [97] (o1 : Int) 256 ⟨by omega, by omega⟩ ⟨by decide, by decide⟩ _ rfl NW.out)
                go_wp2_with fail
                refine RW.out.mono ?_
                rintro e w21 ⟨A21, c21, rfl, -, o21, -, k21⟩
                have z0c : ((0 : Nat) : Int) = 0 := rfl
                rw [z0c]
                clear z0c
                have O21 := Lib.hid o21
                have Z11 := Lib.hid (Z1.out.keep k21)
                have Z21 := Lib.hid (Z2.out.keep k21)
                have K21 := Lib.hid (keeps_trans H20.out.kp k21)
                clear o21 k21
                obtain ⟨nl, hnl⟩ : ∃ nl, PB.length = nl := ⟨_, rfl⟩
                simp only [hnl] at O21 ⊢
                have HNL := Lib.hid hnl
                have hnlb : (nl : Int) ≤ 256 := by have := HPBb.out; omega
                clear hnl
                go_wp2_with fail
                go_loopw [31] (fun i wr => ∃ j : Nat, j ≤ nl ∧ i = .int .i64 j ∧ Hid (Keeps w21 wr)) (fun i _ => nl - (intOf i).toNat)
                case atStart => exact ⟨0, Nat.zero_le _, rfl, Lib.hid (keeps_refl _)⟩
                case round =>
                  obtain ⟨j, hj, rfl, KR⟩ := hrel
                  by_cases hlt : j < nl
                  · have hjn : (j : Int) < (nl : Int) := by omega
                    have hjN : j < nl := hlt
                    obtain ⟨h256, hor⟩ := EA.out j (by rw [HNL.out]; exact hlt)
                    obtain ⟨g1, rfl, qa, -⟩ := (O21.out.keep KR.out).cell (j := j) (by rw [cel_length, HNL.out]; exact hlt)
                    have hlA : j < PB.length := by rw [HNL.out]; exact hlt
                    replace qa := qa.trans (cel_get PB hlA)
                    obtain ⟨g2, rfl, qb, -⟩ := (Z21.out.keep KR.out).cell (j := j) (by rw [cel_length, HTL.out]; exact h256)
                    have hlB : j < T.length := by rw [HTL.out]; exact h256
                    replace qb := qb.trans (cel_get T hlB)
                    clear hlA hlB
                    have hj256 : (j : Int) < 256 := by omega
                    have hj256N : j < 256 := h256
                    by_cases hw : j < wl
                    · obtain ⟨g3, rfl, qc, -⟩ := (Z11.out.keep KR.out).cell (j := j) (by rw [cel_length]; exact Nat.lt_of_lt_of_eq hw HWL.out.symm)
                      have hlC : j < PW.length := Nat.lt_of_lt_of_eq hw HWL.out.symm
                      replace qc := qc.trans (cel_get PW hlC)
                      clear hlC
                      have hwi : (j : Int) < (wl : Int) := by omega
                      have hwN : j < wl := hw
                      generalize PB.getD j 0 = v1 at *
                      generalize PW.getD j 0 = v2 at *
                      generalize T.getD j 0 = v3 at *
                      clear hlt hw hj h256
                      by_cases e12 : v1 = v2
                      · subst e12
                        have hne : ((v1.toNat : Int) != (v1.toNat : Int)) = false := by simp
                        clear hor
                        go_wp2_with fail
                        go_quiet (fail)
                        go_wp2_with fail
                        go_roundw
                        case rel => exact ⟨j + 1, by omega, by go_num, Lib.hid (keeps_trans KR.out (keeps_drewN _ _))⟩
                        case measure => simp [intOf]; omega
                      · have e13 : v1 = v3 := by rcases hor with h | h; exact absurd h e12; exact h
                        subst e13
                        have hne : ((v1.toNat : Int) != (v1.toNat : Int)) = false := by simp
                        have hne2 : ((v1.toNat : Int) != (v2.toNat : Int)) = true := by rw [bne_iff_ne]; intro e; exact e12 (UInt8.toNat_inj.1 (by omega))
                        clear hor e12
                        go_wp2_with fail
                        go_quiet (fail)
                        go_wp2_with fail
                        go_roundw
                        case rel => exact ⟨j + 1, by omega, by go_num, Lib.hid (keeps_trans KR.out (keeps_drewN _ _))⟩
                        case measure => simp [intOf]; omega
                    · have hwi : ¬ (j : Int) < (wl : Int) := by omega
                      have hwN : ¬ j < wl := hw
                      have hwD : decide (j < wl) = false := decide_eq_false hw
                      have hwE : decide ((j : Int) < (wl : Int)) = false := decide_eq_false hwi
                      have e0 : PW.getD j 0 = 0 := by
                        simp only [List.getD]
                        rw [List.getElem?_eq_none (by rw [HWL.out]; omega)]
                        rfl
                      rw [e0] at hor
                      generalize PB.getD j 0 = v1 at *
                      generalize T.getD j 0 = v3 at *
                      obtain ⟨v0, hv0⟩ : ∃ v0 : UInt8, v0 = 0 := ⟨0, rfl⟩
                      have hv : Value.int IntKind.u8 0 = Value.int IntKind.u8 ((v0.toNat : Nat) : Int) := by rw [hv0]; rfl
                      have HV0 := Lib.hid hv
                      rw [← hv0] at hor
                      clear hlt hw hj h256 e0 hv hv0
                      by_cases e12 : v1 = v0
                      · subst e12
                        have hne : ((v1.toNat : Int) != (v1.toNat : Int)) = false := by simp
                        clear hor
                        go_wp2_with fail
                        rw [HV0.out]
                        clear HV0 hwi hwN hwD hwE
                        go_quiet (fail)
                        go_wp2_with fail
                        go_roundw
                        case rel => exact ⟨j + 1, by omega, by go_num, Lib.hid (keeps_trans KR.out (keeps_drewN _ _))⟩
                        case measure => simp [intOf]; omega
                      · have e13 : v1 = v3 := by rcases hor with h | h; exact absurd h e12; exact h
                        subst e13
                        have hne : ((v1.toNat : Int) != (v1.toNat : Int)) = false := by simp
                        have hne2 : ((v1.toNat : Int) != (v0.toNat : Int)) = true := by rw [bne_iff_ne]; intro e; exact e12 (UInt8.toNat_inj.1 (by omega))
                        clear hor e12
                        go_wp2_with fail
                        rw [HV0.out]
                        clear HV0 hwi hwN hwD hwE
                        go_quiet (fail)
                        go_wp2_with fail
                        go_roundw
                        case rel => exact ⟨j + 1, by omega, by go_num, Lib.hid (keeps_trans KR.out (keeps_drewN _ _))⟩
                        case measure => simp [intOf]; omega
                  · obtain rfl : nl = j := by omega
                    have K9 := Lib.hid (keeps_trans K21.out KR.out)
                    clear hlt hj
                    go_wp2_with fail
                    refine (WK.out _ K9.out).mono ?_
                    rintro e w9 ⟨rfl, k9⟩
                    go_wp2_with fail
                    go_ret
                    exact ⟨rfl, keeps_trans K9.out k9⟩
end Go.Proofs.YtbpiiegjbcoapaaDoor
