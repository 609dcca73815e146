/- Package input: which edges count. -/
import Derived.Test.YtbalejfloieiiaaDoorInSort
import Derived.Test.YtbalejfloieiiaaDoorMapRange
import Derived.Test.YtbalejfloieiiaaDoorReduceMap
import Derived.Test.YtbalejfloieiiaaDoorWeightCode
import Derived.Test.YtbalejfloieiiaaDoorRefInput4
namespace Go.Proofs.YtbalejfloieiiaaDoor
open Go.RowKit
set_option linter.unusedSimpArgs false
set_option linter.unusedVariables false
set_option maxRecDepth 100000

theorem mapT : MapT Tryd.prog 79 82 23 31 where
  m := by kernel_rfl
  k := by kernel_rfl
  e := by kernel_rfl
  s := by
    have h : (Tryd.prog.info? 23).map (·.size) = some 1 := by kernel_rfl
    obtain ⟨i, h1, h2⟩ := Option.map_eq_some_iff.1 h
    exact ⟨i, h1, h2⟩
  c := by kernel_rfl
  z := Tryd.zeroValue31
theorem putL_length (m : List Ed) (x : Ed) : (putL m x).length ≤ m.length + 1 := by
  unfold putL
  split <;> simp
/-- the answer of bestOfPairs -/
def BestV (w : World) (l : List Ed) (e : Ending) (w' : World) : Prop := ∃ b m, e = .returned (.map (some b)) ∧ MapAt w' b m ∧ Bst l m ∧ m.length ≤ l.length ∧ w.heap.size ≤ b ∧ Keeps w w'
set_option maxHeartbeats 16000000 in
theorem bestOfPairs_any (A : Option Addr) (n c : Nat) (l : List Ed) (w : World) (hB : At w w.heap.size A (edsC l)) (hok : ∀ e ∈ l, EdOk e) (hnl : n = l.length) (hn : n ≤ 5000) :
    Calls Tryd.prog 47 #[.slice A n c] w (BestV w l) := by
  have HB := Lib.hid hB
  have HNL := Lib.hid hnl
  have HOK := Lib.hid hok
  have hmm := @run_makeMap Tryd.prog
  have hn2 : (n : Int) ≤ 5000 := by omega
  have k0 := keeps_alloc w (.map #[] 0)
  have M0 := Lib.hid (MapAt.new w)
  clear hB hnl hok
  go_enter Tryd.func47, Tryd.ntmps47
  go_wp2_with fail
  go_loopw [12] (fun i wr => ∃ (k : Nat) (m : List Ed), k ≤ n ∧ i = .int .i64 k ∧ MapAt wr w.heap.size m ∧ Bst (l.take k) m ∧ m.length ≤ k ∧ Keeps w wr) (fun i _ => n - (intOf i).toNat)
  case atStart => exact ⟨0, [], Nat.zero_le _, rfl, M0.out, by simpa using Bst.nil, Nat.zero_le _, k0⟩
  case round =>
    clear M0 k0
    obtain ⟨k, m, hk, rfl, hM, hbst, hml, hkp⟩ := hrel
    have HBST := Lib.hid hbst
    have HM := Lib.hid hM
    clear hbst hM
    by_cases hlt : k < n
    · obtain ⟨e, he⟩ : ∃ e, l[k]? = some e := ⟨_, List.getElem?_eq_getElem (by have := HNL.out; omega)⟩
      obtain ⟨ad, rfl, _, hE⟩ := eds_at HB.out he
      obtain ⟨a0, a1, a2, a3⟩ := hE.keep hkp
      have oke := Lib.hid (HOK.out _ (List.mem_of_getElem? he))
      have hkn : (k : Int) < (n : Int) := by omega
      have TK := Lib.hid (show l.take (k + 1) = l.take k ++ [e] by
        rw [List.take_succ_eq_append_getElem (by have := HNL.out; omega)]
        rw [List.getElem?_eq_getElem (by have := HNL.out; omega)] at he
        rw [Option.some.inj he])
      have ka := keeps_alloc wr (.cells #[.int .u32 (e.t : Int), .int .u32 (e.h : Int), .int .u64 (e.x : Int), .int .u32 (e.m : Int)] 31)
      clear he
      by_cases hl0 : e.t = e.h
      · have hb : ((e.t : Int) == (e.h : Int)) = true := by rw [beq_iff_eq]; omega
        have SK := Lib.hid (HBST.out.skip (x := e) hl0)
        clear hl0
        go_wp2_with fail
        go_roundw
        case rel => exact ⟨k + 1, m, by omega, by go_num, HM.out.keep ka, by rw [TK.out]; exact SK.out, by omega, keeps_trans hkp ka⟩
        case measure => simp [intOf]; omega
      · have hb : ((e.t : Int) == (e.h : Int)) = false := by rw [beq_eq_false_iff_ne]; omega
        have HL0 := Lib.hid hl0
        have kb := keeps_trans ka (keeps_alloc (wr.alloc (.cells #[.int .u32 (e.t : Int), .int .u32 (e.h : Int), .int .u64 (e.x : Int), .int .u32 (e.m : Int)] 31)) (.cells #[.int .u32 (e.t : Int), .int .u32 (e.h : Int)] 82))
        clear hl0
        cases hf : m.find? (prB e) with
        | none =>
          have HF := Lib.hid hf
          clear hf
          go_wp2_with (first
            | (at_lookup; refine wpList_look_none _ rfl _ _ rfl mapT w.heap.size m rfl (HM.out.keep kb) e rfl HF.out ?_)
            | (at_mapUpdate; refine wpList_put_E _ rfl _ _ _ rfl mapT w.heap.size m rfl (HM.out.keep (keeps_trans kb (keeps_alloc _ _))) e rfl rfl ?_; intro w5 hM5 hO5))
          have kc := Lib.hid (keeps_trans hkp (keeps_trans kb (keeps_alloc _ (.cells #[.int .u32 0, .int .u32 0, .int .u64 0, .int .u32 0] 31))))
          have K5 : Keeps w w5 := Below.trans kc.out (hO5.below (fun q hq => Nat.le_of_eq hq.symm) kc.out.size)
          have PUT := HBST.out.put (x := e) HL0.out hM5.once (fun y hy hp => absurd hp (find_not HF.out y hy))
          have hpl := putL_length m e
          refine ⟨⟨k + 1, putL m e, by omega, by go_num, hM5, by rw [TK.out]; exact PUT, by omega, K5⟩, ?_⟩
          simp [intOf]; omega
        | some y =>
          have HF := Lib.hid hf
          obtain ⟨hym, hyp⟩ := find_mem hf
          have oky := HOK.out y (by have := HBST.out.mem y hym; exact List.mem_of_mem_take this)
          have BT := Lib.hid (fun W => better_any e.t e.h e.x e.m y.t y.h y.x y.m oke.out.x oke.out.m oky.x oky.m W)
          have e1 : betB e.x e.m y.x y.m = betE e y := rfl
          rw [e1] at BT
          have EB := EdBox.new wr 31 e
          have PB0 := Box.new (wr.alloc (.cells #[.int .u32 (e.t : Int), .int .u32 (e.h : Int), .int .u64 (e.x : Int), .int .u32 (e.m : Int)] 31)) 82 #[.int .u32 (e.t : Int), .int .u32 (e.h : Int)]
          simp only [World.size_alloc] at PB0
          have kc := keeps_alloc ((wr.alloc (.cells #[.int .u32 (e.t : Int), .int .u32 (e.h : Int), .int .u64 (e.x : Int), .int .u32 (e.m : Int)] 31)).alloc (.cells #[.int .u32 (e.t : Int), .int .u32 (e.h : Int)] 82)) (.cells #[.int .u32 (y.t : Int), .int .u32 (y.h : Int), .int .u64 (y.x : Int), .int .u32 (y.m : Int)] 31)
          have EB2 := Lib.hid ((EB.keep (keeps_alloc _ (.cells #[.int .u32 (e.t : Int), .int .u32 (e.h : Int)] 82))).keep kc)
          have PB2 := Lib.hid (PB0.keep kc)
          have kd := Lib.hid (keeps_trans kb kc)
          have HYM := Lib.hid hym
          have HYP := Lib.hid hyp
          clear hf e1 EB PB0 kc hym hyp oky
          cases hbe : betE e y with
          | false =>
            rw [hbe] at BT
            have KP := Lib.hid (HBST.out.keep HM.out.once HYM.out HYP.out hbe)
            clear hbe
            go_wp2_with (at_lookup; refine wpList_look_some _ rfl _ _ rfl mapT w.heap.size m rfl (HM.out.keep kb) e y rfl HF.out ?_)
            refine (BT.out _).mono ?_
            rintro r w4 ⟨rfl, k4⟩
            go_wp2_with fail
            have K4 := keeps_trans kd.out k4
            refine ⟨⟨k + 1, m, by omega, by go_num, HM.out.keep K4, by rw [TK.out]; exact KP.out, by omega, keeps_trans hkp K4⟩, ?_⟩
            simp [intOf]; omega
          | true =>
            rw [hbe] at BT
            have HBE := Lib.hid hbe
            clear hbe
            go_wp2_with (at_lookup; refine wpList_look_some _ rfl _ _ rfl mapT w.heap.size m rfl (HM.out.keep kb) e y rfl HF.out ?_)
            refine (BT.out _).mono ?_
            rintro r w4 ⟨rfl, k4⟩
            obtain ⟨d0, d1, d2, d3⟩ := (EB2.out.keep k4).cells
            have p0 := (PB2.out.keep k4).cell 0 rfl
            have p1 := (PB2.out.keep k4).cell 1 rfl
            have K4 := Lib.hid (keeps_trans kd.out k4)
            go_wp2_with (at_mapUpdate; refine wpList_put_E _ rfl _ _ _ rfl mapT w.heap.size m rfl (HM.out.keep K4.out) e rfl rfl ?_; intro w5 hM5 hO5)
            have kk := keeps_trans hkp K4.out
            have K5 : Keeps w w5 := Below.trans kk (hO5.below (fun q hq => Nat.le_of_eq hq.symm) kk.size)
            have PUT := HBST.out.put (x := e) HL0.out hM5.once (fun z hz hp => by
              rw [once_eq HM.out.once hz HYM.out (pair_trans (pair_symm hp) HYP.out)]
              exact HBE.out)
            have hpl := putL_length m e
            refine ⟨⟨k + 1, putL m e, by omega, by go_num, hM5, by rw [TK.out]; exact PUT, by omega, K5⟩, ?_⟩
            simp [intOf]; omega
    · obtain rfl : k = n := by omega
      have et : l.take k = l := by rw [HNL.out, List.take_length]
      have HB2 := Lib.hid (show Bst l m by rw [← et]; exact HBST.out)
      have HLE := Lib.hid (show m.length ≤ l.length by rw [← HNL.out]; exact hml)
      clear et
      go_wp2_with fail
      go_ret
      exact ⟨w.heap.size, m, rfl, HM.out, HB2.out, HLE.out, Nat.le_refl _, hkp⟩

theorem Own.apartI {w : World} {base : Nat} {e : TypeId} {v : Value} {n : Nat} {xs : List Value} {b r : Nat} {m lf : List Ed} (h : Own w base e 4 v n xs) (hi : Iter w b r m lf) : ∀ k, v.ownBlock = some k → k ≠ b ∧ k ≠ r := by
  intro k hk
  rcases h.2 with ⟨rfl, _⟩ | ⟨g, cap, cur, fz, rfl, hb, hg, _⟩
  · simp [Value.ownBlock] at hk
  · simp only [Value.ownBlock, Option.some.injEq] at hk
    subst hk
    exact hi.apart hg
theorem Own.next {w w' : World} {base : Nat} {e : TypeId} {v : Value} {n : Nat} {xs : List Value} {b r : Nat} {m lf : List Ed} (h : Own w base e 4 v n xs) (hi : Iter w b r m lf) (ho : Only w w' (fun c => c = r)) : Own w' base e 4 v n xs :=
  h.same fun k hk => ho.block k (h.lt k hk).2 (h.apartI hi k hk).2
theorem Own.some4 {w : World} {base : Nat} {e : TypeId} {v : Value} {n : Nat} {xs : List Value} (h : Own w base e 4 v n xs) (hn : v ≠ .slice none 0 0) : ∃ g cap, v = .slice (some ⟨g, 0, none⟩) n cap := by
  rcases h.2 with ⟨rfl, _⟩ | ⟨g, cap, cur, fz, rfl, _⟩
  · exact absurd rfl hn
  · exact ⟨g, cap, rfl⟩
theorem Own.notNil {w : World} {base : Nat} {e : TypeId} {v : Value} {n : Nat} {xs : List Value} (h : Own w base e 4 v (n + 1) xs) : v ≠ .slice none 0 0 := by
  rcases h.2 with ⟨rfl, h0⟩ | ⟨g, cap, cur, fz, rfl, _⟩
  · cases h0
  · intro h; cases h
set_option maxHeartbeats 16000000 in
theorem reduce_any (A : Option Addr) (n c : Nat) (l : List Ed) (w : World) (hB : At w w.heap.size A (edsC l)) (hok : ∀ e ∈ l, EdOk e) (hnl : n = l.length) (hn : n ≤ 5000) :
    Calls Tryd.prog 29 #[.slice A n c] w fun e w' => ∃ a, Red l a ∧ NewE w a e w' := by
  obtain ⟨i0, hi, hz0, hz1, hz2⟩ := info_parts info_edge
  have R := Lib.hid (bestOfPairs_any A n c l w hB hok hnl hn)
  have hln : l.length ≤ 5000 := by omega
  clear hB hok hnl hn
  go_enter Tryd.func29, Tryd.ntmps29
  go_wp2_with fail
  refine R.out.mono ?_
  rintro r w1 ⟨b, m, rfl, hM, hbst, hml, hwb, k1⟩
  have HBST := Lib.hid hbst
  have ONC := Lib.hid (show Once m from hM.once.imp (fun {x y} h hp => by rw [(prB_true x y).2 hp] at h; cases h))
  have hmm : m.length ≤ 5000 := by omega
  clear hbst hml R
  go_wp2_with (first
    | (at_len; refine wpList_len_E _ rfl _ rfl mapT b m rfl hM ?_)
    | (at_make; refine wpList_make_own _ rfl _ _ 36 rfl w.heap.size 31 i0 (.agg #[.int .u32 0, .int .u32 0, .int .u64 0, .int .u32 0]) 4 Tryd.underlying36 hi hz0 hz1 .i64 .i64 _ m.length rfl rfl (by omega) (by rw [hz2]; omega) (by unfold maxLen; omega) k1.size ?_; intro w2 hown2 hg2)
    | (at_range; refine wpList_range_E _ rfl _ rfl mapT b m rfl (hM.keep (keeps_grown hg2 _ (Nat.le_refl _) (by simp))) ?_; intro w3 hI3 k3 hs3))
  go_frame
  have k2 : Keeps w w2 := keeps_trans k1 (keeps_grown hg2 _ (Nat.le_refl _) (by simp))
  have o2 : Own w3 w.heap.size 31 4 _ 0 (edsC []) := (Own.of_row hown2).keep k3
  have O2 := Lib.hid o2
  have k3' := keeps_trans k2 k3
  have hr3 : w.heap.size ≤ w2.heap.size := k2.size
  have hne2 : ∀ x y : Nat, Value.slice (some ⟨x, 0, none⟩) 0 y ≠ .slice none 0 0 := fun _ _ h => by cases h
  clear hown2 hg2 hs3 k3 k1 hM o2
  generalize w2.heap.size = r at *
  go_loopw [4] (fun v wr => ∃ lf acc : List Ed, Iter wr b r m lf ∧ (acc ++ lf).Perm m ∧ Own wr w.heap.size 31 4 v acc.length (edsC acc) ∧ v ≠ .slice none 0 0 ∧ Keeps w wr) (fun _ wr => wr.rangeLeft b r)
  case atStart => exact ⟨m, [], hI3, List.Perm.refl _, O2.out, hne2 _ _, k3'⟩
  case round =>
    clear hI3 O2 k3' hne2 k2
    obtain ⟨lf, acc, hI, hp, hO, hnn, hkp⟩ := hrel
    have HP := Lib.hid hp
    have hlen : acc.length + lf.length = m.length := by have := hp.length_eq; simpa using this
    clear hp
    go_wp2_with (at_next; refine wpList_next_E _ rfl _ rfl b r m lf rfl hI ?_ ?_)
    · intro h0
      have HP2 := Lib.hid (show acc.Perm m by have := HP.out; rw [h0] at this; simpa using this)
      obtain ⟨g, cap, rfl⟩ := hO.some4 hnn
      have SO := Lib.hid (sort_any g cap w.heap.size acc wr (ONC.out.perm HP2.out.symm) hO (by omega))
      have hgb := Lib.hid (hO.lt g rfl).1
      clear h0 hI hO hnn hlen HP
      go_wp2_with fail
      refine SO.out.mono ?_
      rintro q w' ⟨rfl, l', hpl, hrs, hO', hon⟩
      have RD := Lib.hid (HBST.out.red (hpl.symm.trans HP2.out) hrs)
      have HO := Lib.hid hO'
      have KP := Lib.hid (Below.trans hkp (hon.below (fun z hz => by rw [hz]; exact hgb.out) hkp.size))
      have HLE := Lib.hid hpl.length_eq
      clear hpl hrs hO' hon
      go_wp2_with fail
      go_ret
      exact ⟨l', RD.out, _, rfl, by rw [← HLE.out]; exact HO.out, KP.out⟩
    · intro e lf' w2' hpe hI2 ho2 hen
      have hO2 := hO.next hI ho2
      have hkp2 := Below.trans hkp (ho2.below (fun z hz => by rw [hz]; exact hr3) hkp.size)
      have hlf : lf.length = lf'.length + 1 := by have := hpe.length_eq; simpa using this
      have LE := Lib.hid hI.left_eq
      have hsz := hkp2.size
      have HPN := Lib.hid (show ((acc ++ [e]) ++ lf').Perm m by
        have h1 : (acc ++ lf).Perm (acc ++ (e :: lf')) := List.Perm.append_left acc hpe
        have h2 := h1.symm.trans HP.out
        simpa using h2)
      clear hpe ho2 hI hO HP
      go_wp2_with (at_builtin; refine wpList_app _ rfl _ _ 36 rfl w.heap.size 31 i0 (.agg #[.int .u32 0, .int .u32 0, .int .u64 0, .int .u32 0]) 4 24 Tryd.underlying36 hi hz0 hz1 hz2 rfl (by decide) _ _ _ rfl (hO2.keep (keeps_trans (keeps_alloc _ _) (keeps_alloc _ _))) _ _ 1 1 (edC e) rfl rfl (At.new' _ (edC e) _ _ (by simp)) (fun u hu => edsC_one [e] u (by simpa [edsC] using hu)) (by unfold maxLen; omega) (by omega) (by simp; omega) ?_)
      intro v' w5 hown' hgrow hblk
      have kq := keeps_trans (keeps_alloc w2' (.cells #[.int .u32 (e.t : Int), .int .u32 (e.h : Int), .int .u64 (e.x : Int), .int .u32 (e.m : Int)] 31)) (keeps_alloc (w2'.alloc (.cells #[.int .u32 (e.t : Int), .int .u32 (e.h : Int), .int .u64 (e.x : Int), .int .u32 (e.m : Int)] 31)) (.cells #[.int .u32 (e.t : Int), .int .u32 (e.h : Int), .int .u64 (e.x : Int), .int .u32 (e.m : Int)] 31))
      have hI2' := hI2.keep kq
      have hgr : ((w2'.alloc (.cells #[.int .u32 (e.t : Int), .int .u32 (e.h : Int), .int .u64 (e.x : Int), .int .u32 (e.m : Int)] 31)).alloc (.cells #[.int .u32 (e.t : Int), .int .u32 (e.h : Int), .int .u64 (e.x : Int), .int .u32 (e.m : Int)] 31)).grownBy w5 u4.ownBlock := hgrow
      have hap := (hO2.keep kq).apartI hI2'
      have hI5 : Iter w5 b r m lf' := hI2'.same (hgr.block b hI2'.lt.1 (fun h => (hap b h.symm).1 rfl)) (hgr.block r hI2'.lt.2 (fun h => (hap r h.symm).2 rfl))
      have k2' := keeps_trans hkp2 kq
      have K5 : Keeps w w5 := Below.grown k2' hgr k2'.size (fun g hg => (hO2.lt g hg).1)
      have ee : edsC acc ++ edC e = edsC (acc ++ [e]) := by simp [edsC]
      rw [ee] at hown'
      have hnn' := Own.notNil hown'
      have HO' := Lib.hid hown'
      have HI5 := Lib.hid hI5
      clear hgrow hblk hgr hap hI2' kq hO2 hI2 hown' hI5 k2' ee hnn
      go_wp2_with fail
      go_roundw
      case rel => exact ⟨lf', acc ++ [e], HI5.out, HPN.out, by rw [List.length_append]; exact HO'.out, hnn', K5⟩
      case measure => rw [HI5.out.left_eq, LE.out]; omega
end Go.Proofs.YtbalejfloieiiaaDoor
