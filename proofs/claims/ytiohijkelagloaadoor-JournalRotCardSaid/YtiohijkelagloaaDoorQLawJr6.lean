/- JournalRot. (Written by mkrot9.py.) -/
import Derived.Test.YtiohijkelagloaaDoorQLawJr
import Derived.Test.YtiohijkelagloaaDoorQJrU
import Derived.Test.YtiohijkelagloaaDoorQJrMove
import Derived.Test.YtiohijkelagloaaDoorQTurned
namespace Go.Proofs.YtiohijkelagloaaDoor
open Go.RowKit
open Go.IntWalk
set_option linter.unusedSimpArgs false
set_option linter.unusedVariables false
set_option maxRecDepth 100000

set_option maxHeartbeats 16000000 in
theorem rot9_walk (K : DiskOk) (A : Option Addr) (n c : Nat) (l : List RecS) (k : Int) (hk : IsI k) (x : Nat) (hx : x < 65536) (y : Nat) (hy : y < 4294967296) (w : World) (hZ : K.Z w) (hS : Sizes w) (h : RecsAt w A l) (hn : n = l.length) (hc : n ≤ c) (hnx : n ≤ maxLen) :
    Calls Tryd.prog 6 #[.slice A n c, .int .i64 k, .int .u16 (x : Int), .int .u32 (y : Int)] w (Yes9 w) := by
  have WK := Lib.hid (fun (W : World) (q : Keeps w W) => works9 K W (K.keep hZ q) (hS.keep q))
  have HZ := Lib.hid hZ
  have HS := Lib.hid hS
  have H := Lib.hid h
  have HN := Lib.hid hn
  have N := Lib.hid (newJ_ K w hZ)
  have hk1 := hk.1
  have hk2 := hk.2
  unfold maxLen at hnx
  by_cases big : 40 < n ∨ k < 0 ∨ (n : Int) ≤ k
  · have ways : (40 : Int) < (n : Int) ∨ (¬ (40 : Int) < (n : Int) ∧ k < 0) ∨ (¬ (40 : Int) < (n : Int) ∧ ¬ k < 0 ∧ (n : Int) ≤ k) := by omega
    clear hZ hS h hn big hk hx hy
    go_enter Tryd.func6, Tryd.ntmps6
    rcases ways with x1 | ⟨x1, x2⟩ | ⟨x1, x2, x3⟩
    all_goals
      go_wp2_with fail
      refine (WK.out _ (keeps_refl _)).mono ?_
      rintro e w9 ⟨rfl, k9⟩
      go_wp2_with fail
      go_ret
      exact ⟨rfl, k9⟩
  · obtain ⟨kn, rfl⟩ : ∃ kn : Nat, k = (kn : Int) := ⟨k.toNat, by omega⟩
    have bi : ¬ (40 : Int) < (n : Int) := by omega
    have b0 : (n : Int) ≤ 40 := by omega
    have g1 : ¬ (kn : Int) < 0 := by omega
    have g2 : ¬ (n : Int) ≤ (kn : Int) := by omega
    have HNB := Lib.hid (show n ≤ 40 by omega)
    have HKN := Lib.hid (show kn < n by omega)
    obtain ⟨a, ha⟩ : ∃ a, x % 481 = a := ⟨_, rfl⟩
    have hta : (x : Int).tmod 481 = (a : Int) := by rw [Int.tmod_eq_emod_of_nonneg (by omega)]; omega
    have hta2 : (x : Int) % 481 = (a : Int) := by omega
    have hab : (a : Int) ≤ 480 := by omega
    have hxi : (x : Int) ≤ 65535 := by omega
    obtain ⟨m, hm⟩ : ∃ m, y ||| 1 = m := ⟨_, rfl⟩
    have hm32 : m < 4294967296 := by rw [← hm]; exact Nat.or_lt_two_pow (n := 32) hy (by decide)
    have hor : bits .or .u32 (y : Int) 1 = (m : Int) := by rw [← hm]; exact u32_or_nat y 1 hy (by decide)
    have HM0 := Lib.hid (show m.testBit 0 = true by rw [← hm, Nat.testBit_or]; simp)
    obtain ⟨o1, ho1⟩ : ∃ o : Nat, 64 * kn = o := ⟨_, rfl⟩
    have hmo : (64 : Int) * (kn : Int) = (o1 : Int) := by omega
    have hob : (o1 : Int) ≤ 2560 := by omega
    have HO1 := Lib.hid ho1
    have HM32 := Lib.hid hm32
    have hkc : (kn : Int) ≤ (c : Int) := by omega
    clear hZ hS h hn big hk hx hy ha hm ho1
    go_enter Tryd.func6, Tryd.ntmps6
    go_wp2_with fail
    refine N.out.mono ?_
    rintro e w1 ⟨b, F1, rfl, h1⟩
    have C1 := Lib.hid (jrOpen_any h1 HZ.out HS.out open0J)
    have K1 := Lib.hid h1.kp
    clear h1
    go_wp2_with fail
    refine C1.out.mono ?_
    rintro e w2 ⟨F2, h2, t2, ⟨-, jb, G2, rfl, hj, hd⟩ | ⟨hbad, -⟩⟩
    rotate_left
    · exact absurd rfl hbad
    have L2 := Lib.hid (show LaidJ K w w2 b jb F2 G2 (syncF f0J) [] from ⟨h2, Clean.none.sync, hj.base_le K1.out.size, hd, Fine.nil⟩)
    clear h2 t2 hj hd
    go_wp2_with fail
    go_loopw [12] (fun i wr => ∃ (j : Nat) (F' G' : Nat → Prop) (f : Fl), j ≤ n ∧ i = .int .i64 j ∧ Hid (LaidJ K w wr b jb F' G' f (l.take j))) (fun i _ => n - (intOf i).toNat)
    case atStart => exact ⟨0, F2, G2, _, Nat.zero_le _, rfl, L2⟩
    case round =>
      obtain ⟨j, F', G', f, hj, rfl, HL⟩ := hrel
      by_cases hlt : j < n
      · have hjn : (j : Int) < (n : Int) := by omega
        obtain ⟨x, hx⟩ : ∃ x, l[j]? = some x := ⟨_, List.getElem?_eq_getElem (by have := HN.out; omega)⟩
        have hro := H.out.ok x (List.mem_of_getElem? hx)
        obtain ⟨ad, rfl, a0, a1, a2⟩ := rec_cells (H.out.keep HL.out.h.kp).cells hx
        have htk : l.take (j + 1) = l.take j ++ [x] := by rw [List.take_add_one, hx]; rfl
        have HTK := Lib.hid htk
        have hlen : (l.take j).length = j := by rw [List.length_take]; have := HN.out; omega
        by_cases hkx : x.kind = 0
        · have hkk : ((x.kind : Int) == 0) = true := by rw [beq_iff_eq]; omega
          have KL := Lib.hid (HL.out.h.kp)
          clear hlen htk hx hkx hlt
          go_wp2_with fail
          refine (WK.out _ KL.out).mono ?_
          rintro e w9 ⟨rfl, k9⟩
          go_wp2_with fail
          go_ret
          exact ⟨rfl, keeps_trans KL.out k9⟩
        · have hkk : ((x.kind : Int) == 0) = false := by rw [beq_eq_false_iff_ne]; omega
          obtain ⟨g, hg, hcl⟩ := addJ_on (q := 1024) HL.out.clean (r := x) hkx (by omega) (by omega)
          have AD := Lib.hid (jrAdd_any HL.out.h HZ.out HS.out HL.out.at_ HL.out.out (Nat.le_refl _) x hro hg)
          rw [if_pos rfl] at AD
          have FI := Lib.hid (HL.out.fine.snoc hro hkx)
          have CL := Lib.hid hcl
          have e1 : ((0 : Int) != 0) = false := rfl
          unfold recC at AD
          clear hlen htk hx hkx hlt hg hcl
          go_wp2_with fail
          refine AD.out.mono ?_
          rintro e w3 ⟨rfl, F3, G3, h3, j3, d3, -⟩
          have L3 := Lib.hid (show LaidJ K w w3 b jb F3 G3 g (l.take (j + 1)) by rw [HTK.out]; exact ⟨h3, CL.out, j3, d3, FI.out⟩)
          clear h3 j3 d3 a0 a1 a2
          go_wp2_with fail
          go_roundw
          case rel => exact ⟨j + 1, F3, G3, g, by omega, by go_num, L3⟩
          case measure => simp [intOf]; omega
      · obtain rfl : j = n := by omega
        have L9 := Lib.hid (show LaidJ K w wr b jb F' G' f l by have := HL.out; rwa [List.take_of_length_le (by have := HN.out; omega)] at this)
        clear hlt hj HL
        obtain ⟨r0, hr0⟩ : ∃ r, l[kn]? = some r := ⟨_, List.getElem?_eq_getElem (by have := HN.out; have := HKN.out; omega)⟩
        have IX1 := Lib.hid (L9.out.clean.isT hr0)
        have PGL := Lib.hid (sectB_length (kn + 1) r0)
        have NR := Lib.hid (fun (ha : a < 512) => isRec_burst (n := kn + 1) (n' := kn + 1) r0 (a := a) (m := m) ha HM0.out)
        generalize sectB (kn + 1) r0 = pg at *
        have L1 := Lib.hid L9.out.h
        have FN := Lib.hid L9.out.fine
        clear hr0 L9
        have e0 : ((0 : Int) != 0) = false := rfl
        go_wp2_with fail
        go_loopw [16] (fun i wr => ∃ (t : Nat) (F'' : Nat → Prop) (fl' : Fl), t ≤ 32 ∧ i = .int .i64 t ∧ Hid (Have K w wr b F'' (DJ 1024 fl' 0 false)) ∧ Hid (IsT fl' l kn (turnC pg a m t))) (fun i _ => 32 - (intOf i).toNat)
        case atStart => exact ⟨0, F', f, Nat.zero_le _, rfl, L1, IX1⟩
        case round =>
          obtain ⟨t, F'', fl', ht, rfl, HV, HIX⟩ := hrel
          by_cases hlt : t < 32
          · have hand := mask_bit m t HM32.out
            have hji : (t : Int) < 32 := by omega
            cases hb : m.testBit t with
            | false =>
              have hx : ¬ bits .and .u32 ((m : Int) / 2 ^ t) 1 = 1 := by rw [hand, hb]; decide
              have HT := Lib.hid (show turnC pg a m (t + 1) = turnC pg a m t by rw [turnC, if_neg (by rw [hb]; simp)])
              clear hand hb
              go_wp2_with fail
              go_roundw
              case rel => exact ⟨t + 1, F'', fl', by omega, by go_num, HV, by rw [HT.out]; exact HIX⟩
              case measure => simp [intOf]; omega
            | true =>
              have hx : bits .and .u32 ((m : Int) / 2 ^ t) 1 = 1 := by rw [hand, hb]; rfl
              obtain ⟨pl, hpl⟩ : ∃ p : Nat, a + t = p := ⟨_, rfl⟩
              obtain ⟨q, hq⟩ : ∃ q : Nat, pl / 8 = q := ⟨_, rfl⟩
              obtain ⟨r, hr⟩ : ∃ r : Nat, pl % 8 = r := ⟨_, rfl⟩
              obtain ⟨off, hoff⟩ : ∃ o : Nat, o1 + q = o := ⟨_, rfl⟩
              obtain ⟨f2, hfl, hx2⟩ := HIX.out.turn (q := 1024) (off := off) PGL.out hb hpl (by omega) hq hr (by have := HO1.out; omega)
              have IX2 := Lib.hid hx2
              have hr8 : r < 8 := by rw [← hr]; exact Nat.mod_lt _ (by decide)
              have hp2 : (2 : Nat) ^ r < 256 := Nat.pow_lt_pow_right (by omega) hr8
              have em : (((UInt8.ofNat (2 ^ r)).toNat : Nat) : Int) = (2 : Int) ^ r % 256 := by
                rw [UInt8.toNat_ofNat', Nat.mod_eq_of_lt hp2]
                have e9 : ((2 : Int) ^ r) = ((2 ^ r : Nat) : Int) := by simp
                rw [e9]
                generalize (2 : Nat) ^ r = z at hp2 ⊢
                omega
              have FP := Lib.hid (HV.out.flipU_ HZ.out nmJ (off : Int) ⟨by omega, by omega⟩ (UInt8.ofNat (2 ^ r)) _ strJ.symm hfl)
              rw [em] at FP
              have p1 : (a : Int) + (t : Int) = (pl : Int) := by omega
              have p2 : (pl : Int) / 8 = (q : Int) := by omega
              have p3 : (pl : Int) % 8 = (r : Int) := by omega
              have p4 : (o1 : Int) + (q : Int) = (off : Int) := by omega
              have p5 : (pl : Int) ≤ 512 := by omega
              have p6 : (off : Int) ≤ 2700 := by omega
              have p7 : (q : Int) ≤ 64 := by omega
              have p8 : (r : Int) ≤ 7 := by omega
              have p9 : (pl : Int).tdiv 8 = (q : Int) := by rw [Int.tdiv_eq_ediv_of_nonneg (by omega)]; omega
              have p0 : (pl : Int).tmod 8 = (r : Int) := by rw [Int.tmod_eq_emod_of_nonneg (by omega)]; omega
              clear hand hb hfl hx2 hpl hq hr hoff hp2 hr8 em
              go_wp2_with fail
              refine FP.out.mono ?_
              rintro e w4 ⟨rfl, F4, h4, t4⟩
              have H4 := Lib.hid h4
              clear h4 t4
              go_wp2_with fail
              go_roundw
              case rel => exact ⟨t + 1, F4, f2, by omega, by go_num, H4, IX2⟩
              case measure => simp [intOf]; omega
          · obtain rfl : t = 32 := by omega
            have hre := HIX.out.recs FN.out (by have := HN.out; have := HNB.out; omega) (NR.out (by omega))
            obtain ⟨g, ho, hcl⟩ := openJ_file (q := 1024) (f := fl') HIX.out.name
            rw [hre] at ho
            have OP := Lib.hid (jrOpen_any HV.out HZ.out HS.out ho)
            have HLM := Lib.hid (show (l.take kn).length = kn by rw [List.length_take]; have := HN.out; have := HKN.out; omega)
            clear hlt ht ho hcl hre
            go_wp2_with fail
            refine OP.out.mono ?_
            rintro e u6 ⟨F6, h6, t6, ⟨-, j6, G6, rfl, hj6, -⟩ | ⟨hbad, -⟩⟩
            rotate_left
            · exact absurd rfl hbad
            have K6 := Lib.hid h6.kp
            have J6 := Lib.hid hj6
            have RC := Lib.hid (fun (V : World) (kk : Keeps u6 V) => jrRecs_any (J6.out.keep kk))
            rw [HLM.out] at RC
            have SM := Lib.hid (fun (V : World) (kk : Keeps u6 V) (A7 : Option Addr) (c7 : Nat) (o : At V V.heap.size A7 (rowsC (l.take kn))) => same9_any A7 kn c7 (l.take kn) A kn c (l.take kn) V o HLM.out.symm (recs_front (H.out.keep (keeps_trans K6.out kk)) kn) HLM.out.symm (by have := HKN.out; have := HNB.out; omega))
            rw [decide_eq_true rfl] at SM
            clear h6 t6 hj6
            have e1 : ((0 : Int) == 0) = true := rfl
            go_wp2_with fail
            go_region_held3 (fun _ => True) (trivial) (first
              | (go_at_call 20; refine (RC.out _ (keeps_drew _)).mono ?_; rintro e u7 ⟨A7, c7, rfl, o7, k7⟩; have K7 := Lib.hid (keeps_trans (keeps_drew _) k7); have S7 := Lib.hid (SM.out _ K7.out A7 c7 o7.at_); clear o7 k7)
              | (go_at_call 19; refine S7.out.mono ?_; rintro e u8 ⟨rfl, k8⟩; have K8 := Lib.hid (keeps_trans K6.out (keeps_trans K7.out k8)); clear k8)
              | (go_at_call 10; refine (WK.out _ K8.out).mono ?_; rintro e u9 ⟨rfl, k9⟩; have K9 := Lib.hid (keeps_trans K8.out k9); clear k9))
            go_wp2_with fail
            go_ret
            exact ⟨rfl, K9.out⟩
end Go.Proofs.YtiohijkelagloaaDoor
