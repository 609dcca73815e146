/- Package input: inputs that are written. -/
import Derived.Test.YtbalejfloieiiaaDoorInRow
import Derived.Test.YtbalejfloieiiaaDoorRefInput5
import Derived.Lib.AppendStr
namespace Go.Proofs.YtbalejfloieiiaaDoor
open Go.RowKit
set_option linter.unusedSimpArgs false
set_option linter.unusedVariables false
set_option maxRecDepth 100000

set_option maxHeartbeats 4000000 in
theorem toRow_any (e : Ed) (ok : EdOk e) (w : World) :
    Calls Tryd.prog 41 #[.agg #[.int .u32 (e.t : Int), .int .u32 (e.h : Int), .int .u64 (e.x : Int), .int .u32 (e.m : Int)]] w fun r w' => ∃ A c, r = .returned (.slice A 16 c) ∧ 16 ≤ c ∧ Bs w' A (rowB e) ∧ Keeps w w' := by
  have k0 := keeps_alloc w (.cells #[.int .u32 (e.t : Int), .int .u32 (e.h : Int), .int .u64 (e.x : Int), .int .u32 (e.m : Int)] 31)
  have E := Lib.hid (edge_any e.t e.h e.x e.m ok.t ok.h ok.x ok.m (w.alloc (.cells #[.int .u32 (e.t : Int), .int .u32 (e.h : Int), .int .u64 (e.x : Int), .int .u32 (e.m : Int)] 31)))
  clear ok
  go_enter Tryd.func41, Tryd.ntmps41
  go_wp2_with fail
  refine E.out.mono ?_
  rintro r w1 ⟨v1, rfl, o1, k1⟩
  obtain ⟨A1, c1, rfl, hc1, -⟩ := o1.form
  have B1 : Bs w1 A1 (edgeB e.t e.h e.x e.m) := Own.at_ o1
  have B2 : Bs w1 A1 (rowB e) := by have := B1.take 16; rwa [edgeB_row] at this
  rw [edgeB_len] at hc1
  simp only [edgeB_len]
  have hc2 : (16 : Int) ≤ (c1 : Int) := by omega
  have HB := Lib.hid B2
  clear o1 B1 B2
  go_wp2_with fail
  go_ret
  exact ⟨A1, c1, rfl, by omega, HB.out, keeps_trans k0 k1⟩

theorem str_magic : Lib.strCells (ByteArray.mk #[77, 80, 71, 49]) = cel magicL := rfl
theorem cntErr_ok {n m : Nat} : (cntErr n m).1 = 0 ↔ HeadOk n m := by
  unfold cntErr HeadOk
  by_cases c1 : 2147483647 < n
  · rw [if_pos c1]; simp; omega
  · rw [if_neg c1]
    by_cases c2 : 16777216 < m
    · rw [if_pos c2]; simp; omega
    · rw [if_neg c2]
      by_cases c3 : n = 0 ∧ 0 < m
      · rw [if_pos c3]; simp; omega
      · rw [if_neg c3]; simp; omega
set_option maxHeartbeats 16000000 in
theorem write_any (N : Nat) (hN : N < 4294967296) (A : Option Addr) (n c : Nat) (l : List Ed) (w : World) (hS : Sizes w) (hB : At w w.heap.size A (edsC l)) (hok : ∀ e ∈ l, EdOk e) (hnl : n = l.length) (hn : n ≤ 5000) :
    Calls Tryd.prog 25 #[.int .u32 N, .slice A n c] w (WriteV w N l) := by
  obtain ⟨i0, hi, hz0, hz1, hz2⟩ := info_parts info_u8
  have HB := Lib.hid hB
  have HNL := Lib.hid hnl
  have HOK := Lib.hid hok
  have HS := Lib.hid hS
  have hn2 : (n : Int) ≤ 5000 := by omega
  have q1 : (N : Int) % 18446744073709551616 = N := by omega
  have q2 : (n : Int) % 18446744073709551616 = n := by omega
  have CC := Lib.hid (checkCounts_any N n (by omega) (by omega) w)
  clear hB hnl hok hS
  by_cases ce : (cntErr N n).1 = 0
  · rw [ce, errV_zero] at CC
    have hHO : HeadOk N n := cntErr_ok.1 ce
    have HHO := Lib.hid hHO
    clear ce
    have P0 := Lib.hid (fun (W : World) (x : Nat) (hx : x < 18446744073709551616) (q : Keeps w W) => put_any none 0 0 [] x 4 W (HS.out.keep q) (Bs.nil _ _) rfl hx (by decide))
    have e0 : ∀ x, ([] ++ if isSz 4 = true then nb (4 : Int).toNat x else []) = nb 4 x := fun _ => rfl
    simp only [e0] at P0
    clear e0 hHO
    go_enter Tryd.func25, Tryd.ntmps25
    go_wp2_with fail
    refine CC.out.mono ?_
    rintro r u0 ⟨rfl, rfl⟩
    go_wp2_with (first
      | (at_make; refine wpList_make_own _ rfl _ _ 22 rfl w.heap.size 5 i0 (.int .u8 0) 1 Tryd.underlying22 hi hz0 hz1 .i64 .i64 _ (12 + 16 * n) rfl rfl (by omega) (by rw [hz2]; omega) (by unfold maxLen; omega) (Nat.le_refl _) ?_; intro w1 hown1 hg1)
      | (at_builtin; refine Lib.wpList_append_own_string _ rfl _ _ 22 9 rfl w.heap.size 5 i0 Tryd.underlying22 Tryd.underlying9 hi hz0 hz1 hz2 _ 0 [] rfl hown1 (ByteArray.mk #[77, 80, 71, 49]) rfl (by decide) (by decide) hg1.size ?_; intro v2 w2 hown2 hg2 hnil2))
    have k1 : Keeps w w1 := keeps_grown hg1 _ (Nat.le_refl _) (by simp)
    have hg2' : w1.grownBy w2 (some w.heap.size) := hg2
    have k2 : Keeps w w2 := Below.grown k1 hg2' k1.size (fun g hg => by cases hg; exact Nat.le_refl _)
    have o2 : Own w2 w.heap.size 5 1 v2 4 (cel magicL) := Own.of_row hown2
    clear hown2 hg2 hg2' hnil2 hown1 hg1 k1
    refine (P0.out w2 N (by omega) k2).mono ?_
    rintro r w3 ⟨v3, rfl, o3, k3⟩
    obtain ⟨A3, c3, rfl, -⟩ := o3.form
    have b3 : Bs w3 A3 (nb 4 N) := o3.at_
    simp only [nb_length] at *
    have k3' := keeps_trans k2 k3
    go_wp2_with (at_builtin; refine wpList_app _ rfl _ _ 22 rfl w.heap.size 5 i0 (.int .u8 0) 1 1 Tryd.underlying22 hi hz0 hz1 hz2 rfl (by decide) _ _ _ rfl (o2.keep k3) _ _ 4 c3 (cel (nb 4 N)) rfl (by rw [cel_length, nb_length]) b3 (cel_one _) (by unfold maxLen; omega) (by omega) k3'.size ?_; intro v4 w4 hown4 hg4 hblk4)
    have k4 : Keeps w w4 := Below.grown k3' hg4 k3'.size (fun g hg => (o2.lt g hg).1)
    have o4 : Own w4 w.heap.size 5 1 v4 8 (cel (magicL ++ nb 4 N)) := by rw [cel_append]; exact hown4
    clear hown4 hg4 hblk4 o2 o3 b3 k3 k3' k2
    refine (P0.out w4 n (by omega) k4).mono ?_
    rintro r w5 ⟨v5, rfl, o5, k5⟩
    obtain ⟨A5, c5, rfl, -⟩ := o5.form
    have b5 : Bs w5 A5 (nb 4 n) := o5.at_
    simp only [nb_length] at *
    have k5' := keeps_trans k4 k5
    go_wp2_with (at_builtin; refine wpList_app _ rfl _ _ 22 rfl w.heap.size 5 i0 (.int .u8 0) 1 1 Tryd.underlying22 hi hz0 hz1 hz2 rfl (by decide) _ _ _ rfl (o4.keep k5) _ _ 4 c5 (cel (nb 4 n)) rfl (by rw [cel_length, nb_length]) b5 (cel_one _) (by unfold maxLen; omega) (by omega) k5'.size ?_; intro v6 w6 hown6 hg6 hblk6)
    have k6 : Keeps w w6 := Below.grown k5' hg6 k5'.size (fun g hg => (o4.lt g hg).1)
    have o6 : Own w6 w.heap.size 5 1 v6 12 (cel (headB N l.length)) := by
      have e : cel (headB N l.length) = cel (magicL ++ nb 4 N) ++ cel (nb 4 n) := by rw [← cel_append, HNL.out]; unfold headB; rw [List.append_assoc]
      rw [e]; exact hown6
    have O6 := Lib.hid o6
    clear hown6 hg6 hblk6 o4 o5 b5 k5 k5' k4 o6 q1 q2
    go_wp2_with fail
    go_loopw [6, 36] (fun v i wr => ∃ k : Nat, k ≤ n ∧ i = .int .i64 k ∧ Own wr w.heap.size 5 1 v (12 + 16 * k) (cel (headB N l.length ++ (l.take k).flatMap rowB)) ∧ (∀ j e, j < k → l[j]? = some e → rowOk N e) ∧ Keeps w wr) (fun _ i _ => n - (intOf i).toNat)
    case atStart => exact ⟨0, Nat.zero_le _, rfl, by simpa using O6.out, fun j e hj => by omega, k6⟩
    case round =>
      clear O6 k6
      obtain ⟨k, hk, rfl, hO, hall, hkp⟩ := hrel
      have HALL := Lib.hid hall
      clear hall
      by_cases hlt : k < n
      · obtain ⟨e, he⟩ : ∃ e, l[k]? = some e := ⟨_, List.getElem?_eq_getElem (by have := HNL.out; omega)⟩
        obtain ⟨ad, rfl, _, hE⟩ := eds_at HB.out he
        obtain ⟨a0, a1, a2, a3⟩ := hE.keep hkp
        have oke := HOK.out _ (List.mem_of_getElem? he)
        have CE := Lib.hid (fun W => checkEdge_any N e.t e.h e.x e.m hN oke.t oke.h oke.x W)
        have TR := Lib.hid (fun W => toRow_any e oke W)
        have ee : (⟨e.t, e.h, e.x, e.m⟩ : Ed) = e := rfl
        rw [ee] at CE
        have HE := Lib.hid he
        have hkn : (k : Int) < (n : Int) := by omega
        have ka := keeps_alloc wr (.cells #[.int .u32 (e.t : Int), .int .u32 (e.h : Int), .int .u64 (e.x : Int), .int .u32 (e.m : Int)] 31)
        have EB := EdBox.new wr 31 e
        clear he oke ee
        by_cases hre : (edErr N e).1 = 0
        · rw [hre, errV_zero] at CE
          have HRE := Lib.hid (edErr_ok.2 hre)
          clear hre
          go_wp2_with fail
          refine (CE.out _).mono ?_
          rintro r u3 ⟨rfl, k3⟩
          obtain ⟨d0, d1, d2, d3⟩ := (EB.keep k3).cells
          have hk3 := Lib.hid (keeps_trans hkp (keeps_trans ka k3))
          go_wp2_with fail
          refine (TR.out _).mono ?_
          rintro r u4 ⟨A4, c4, rfl, hc4, B4, k4⟩
          have hk4 := keeps_trans hk3.out k4
          have hsz := hk4.size
          clear d0 d1 d2 d3 a0 a1 a2 a3 EB
          go_wp2_with (at_builtin; refine wpList_app _ rfl _ _ 22 rfl w.heap.size 5 i0 (.int .u8 0) 1 1 Tryd.underlying22 hi hz0 hz1 hz2 rfl (by decide) _ _ _ rfl (hO.keep (keeps_trans ka (keeps_trans k3 k4))) _ _ 16 c4 (cel (rowB e)) rfl (by rw [cel_length, rowB_length]) B4 (cel_one _) (by unfold maxLen; omega) (by omega) hsz ?_)
          intro v' u5 hown' hgrow hblk
          have hkp' : Keeps w u5 := Below.grown hk4 hgrow hsz (fun g hg => (hO.lt g hg).1)
          have ec : cel (headB N l.length ++ (l.take k).flatMap rowB) ++ cel (rowB e) = cel (headB N l.length ++ (l.take (k + 1)).flatMap rowB) := by rw [eds_take l HE.out, ← cel_append, List.append_assoc]
          rw [ec, show 12 + 16 * k + 16 = 12 + 16 * (k + 1) by omega] at hown'
          clear ec hgrow hblk hO B4
          go_wp2_with fail
          go_roundw
          case rel => exact ⟨k + 1, by omega, by go_num, hown', fun j f hj hf => by
            by_cases hjk : j = k
            · subst hjk
              rw [HE.out] at hf
              obtain rfl := Option.some.inj hf
              exact HRE.out
            · exact HALL.out j f (by omega) hf, hkp'⟩
          case measure => simp [intOf]; omega
        · rw [errV_some hre] at CE
          have NO := Lib.hid (show ¬ WOk N l from fun h => hre (edErr_ok.1 (h.2 e (List.mem_of_getElem? HE.out))))
          clear hre
          generalize (edErr N e).1 = x1 at *
          generalize (edErr N e).2 = x2 at *
          go_wp2_with fail
          refine (CE.out _).mono ?_
          rintro r u3 ⟨rfl, k3⟩
          go_wp2_with fail
          go_ret2
          exact .inr ⟨NO.out, rfl, keeps_trans hkp (keeps_trans ka k3)⟩
      · obtain rfl : k = n := by omega
        have YES := Lib.hid (show WOk N l from ⟨by rw [← HNL.out]; exact HHO.out, fun e he => by
          obtain ⟨j, hj⟩ := List.getElem?_of_mem he
          exact HALL.out j e (by have := (List.getElem?_eq_some_iff.1 hj).1; have := HNL.out; omega) hj⟩)
        have et : l.take k = l := by rw [HNL.out, List.take_length]
        rw [et] at hO
        have el : (writeB N l).length = 12 + 16 * k := by rw [writeB_length, ← HNL.out]
        have HO := Lib.hid (show Own wr w.heap.size 5 1 _ (writeB N l).length (cel (writeB N l)) by rw [el]; exact hO)
        obtain ⟨A', cap', rfl, -⟩ := hO.form
        clear et el hO hlt hk
        go_wp2_with fail
        go_ret2
        exact .inl ⟨YES.out, _, rfl, HO.out, hkp⟩
  · have NO := Lib.hid (show ¬ WOk N l from fun h => ce (cntErr_ok.2 (by rw [HNL.out]; exact h.1)))
    rw [errV_some ce] at CC
    clear ce
    generalize (cntErr N n).1 = x1 at *
    generalize (cntErr N n).2 = x2 at *
    go_enter Tryd.func25, Tryd.ntmps25
    go_wp2_with fail
    refine CC.out.mono ?_
    rintro r u0 ⟨rfl, rfl⟩
    go_wp2_with fail
    go_ret2
    exact .inr ⟨NO.out, rfl, keeps_refl _⟩
end Go.Proofs.YtbalejfloieiiaaDoor
