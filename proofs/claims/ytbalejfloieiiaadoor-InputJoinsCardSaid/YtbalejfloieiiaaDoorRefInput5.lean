/- The contract of milepostref05's Write. -/
import Derived.Test.YtbalejfloieiiaaDoorRefInput4
import Derived.Test.YtbalejfloieiiaaDoorRefOctRows
import Derived.Lib.SlBytesConst
namespace Go.Proofs.YtbalejfloieiiaaDoor
open Go.RowKit
set_option linter.unusedSimpArgs false
set_option linter.unusedVariables false
set_option maxRecDepth 100000

/-- the answer of Write -/
def WriteV (w : World) (N : Nat) (l : List Ed) (e : Ending) (w' : World) : Prop :=
  (WOk N l ∧ ∃ v, e = .returned (.tuple #[v, .int .i64 0]) ∧ Own w' w.heap.size 5 1 v (writeB N l).length (cel (writeB N l)) ∧ Keeps w w') ∨
  (¬ WOk N l ∧ e = .returned (.tuple #[.slice none 0 0, .int .i64 1]) ∧ Keeps w w')
theorem edgeB_row (e : Ed) : (edgeB e.t e.h e.x e.m).take 16 = rowB e := by
  have h : edgeB e.t e.h e.x e.m = rowB e ++ nb 4 e.m := by simp [edgeB, rowB]
  rw [h]
  exact List.take_left' (rowB_length e)
theorem edgeB_len (e : Ed) : (edgeB e.t e.h e.x e.m).length = 20 := by simp [edgeB, nb_length]
theorem eds_take (l : List Ed) {k : Nat} {e : Ed} (h : l[k]? = some e) : (l.take (k + 1)).flatMap rowB = (l.take k).flatMap rowB ++ rowB e := by
  have hk := (List.getElem?_eq_some_iff.1 h).1
  rw [List.take_succ_eq_append_getElem hk]
  rw [List.getElem?_eq_getElem hk] at h
  rw [Option.some.inj h]
  simp
theorem At.newMarked' (w : World) (cs : List Value) (e : TypeId) (fz : Nat × Nat) (B : Nat) (hB : w.heap.size < B) : At (w.alloc (.cells cs.toArray e fz)) B (some ⟨w.heap.size, 0, none⟩) cs := by
  refine .inr ⟨_, rfl, hB, fun j u hu => ?_⟩
  rw [Addr.add_lit, Nat.zero_add, cell_of_row _ _ j cs.toArray e fz (heap_alloc_new w _)]
  simpa using hu
theorem magic_cel : cel magicL = [.int .u8 77, .int .u8 80, .int .u8 71, .int .u8 49] := rfl

set_option maxHeartbeats 16000000 in
theorem refWrite_any (N : Nat) (hN : N < 4294967296) (A : Option Addr) (n c : Nat) (l : List Ed) (w : World) (hB : At w w.heap.size A (edsC l)) (hok : ∀ e ∈ l, EdOk e) (hnl : n = l.length) (hn : n ≤ 5000) :
    Calls Tryd.prog 26 #[.int .u32 N, .slice A n c] w (WriteV w N l) := by
  obtain ⟨i0, hi, hz0, hz1, hz2⟩ := info_parts info_u8
  have kc := fun (w : World) (C : Array Value) (n c : Nat) => Lib.run_convert_bytes_const (P := Tryd.prog) w 22 5 C n c Tryd.underlying22 Tryd.underlying5
  have HB := Lib.hid hB
  have HNL := Lib.hid hnl
  have HOK := Lib.hid hok
  have hn2 : (n : Int) ≤ 5000 := by omega
  clear hB hnl hok
  by_cases h1 : 2147483647 < N
  · have NO := Lib.hid (show ¬ WOk N l from fun h => by have := h.1.1; omega)
    have h1' : (2147483647 : Int) < (N : Int) := by omega
    clear h1
    go_enter Tryd.func26, Tryd.ntmps26
    go_wp2_with fail
    go_ret2
    exact .inr ⟨NO.out, rfl, keeps_refl _⟩
  · by_cases h2 : N = 0 ∧ 0 < n
    · obtain ⟨rfl, h3⟩ := h2
      have NO := Lib.hid (show ¬ WOk 0 l from fun h => by have := h.1.2.2 rfl; have := HNL.out; omega)
      clear h1
      go_enter Tryd.func26, Tryd.ntmps26
      go_wp2_with fail
      go_ret2
      exact .inr ⟨NO.out, rfl, keeps_refl _⟩
    · have HH := Lib.hid (show HeadOk N l.length from ⟨by omega, by have := HNL.out; omega, fun h => by have := HNL.out; omega⟩)
      have h1' : (N : Int) ≤ 2147483647 := by omega
      have B0 : Bs (w.alloc (.cells #[.int .u8 77, .int .u8 80, .int .u8 71, .int .u8 49] 5 (4, 5))) (some ⟨w.heap.size, 0, none⟩) magicL := by
        unfold Bs
        rw [magic_cel]
        exact At.newMarked' w [.int .u8 77, .int .u8 80, .int .u8 71, .int .u8 49] _ _ _ (by simp)
      have kz := keeps_alloc w (.cells #[.int .u8 77, .int .u8 80, .int .u8 71, .int .u8 49] 5 (4, 5))
      have P1 := Lib.hid (refPut_k (some ⟨w.heap.size, 0, none⟩) 4 4 magicL N 4 4 rfl (w.alloc (.cells #[.int .u8 77, .int .u8 80, .int .u8 71, .int .u8 49] 5 (4, 5))) B0 rfl (by omega) (by omega) (by decide))
      have hsplit : N = 0 ∧ n = 0 ∨ ¬ N = 0 := by omega
      have ways : (((N : Int) == 0) = true ∧ decide (0 < n) = false) ∨ ((N : Int) == 0) = false := by
        rcases hsplit with ⟨a, b⟩ | a
        · exact .inl ⟨by rw [beq_iff_eq]; omega, decide_eq_false (by omega)⟩
        · exact .inr (by rw [beq_eq_false_iff_ne]; omega)
      clear h1 h2 hsplit B0
      go_enter Tryd.func26, Tryd.ntmps26
      rcases ways with ⟨w1, w2⟩ | w1
      all_goals
        go_wp2_with fail
        refine P1.out.mono ?_
        rintro e u1 ⟨v1, rfl, o1, k1⟩
        have o1' := o1.base_le kz.size
        have hk1 := keeps_trans kz k1
        obtain ⟨A1, c1, rfl, hc1, -, -, -⟩ := o1'.form
        have l1 : (magicL ++ nb 4 N).length = 8 := by rw [List.length_append, nb_length]; rfl
        have B1 : Bs u1 A1 (magicL ++ nb 4 N) := Own.at_ o1'
        have P2 := Lib.hid (refPut_k A1 (magicL ++ nb 4 N).length c1 (magicL ++ nb 4 N) n 4 4 rfl u1 B1 rfl (by omega) (by rw [l1]; omega) (by decide))
        rw [l1] at P2 hc1
        simp only [l1]
        clear o1 o1' B1 l1
        go_wp2_with fail
        refine P2.out.mono ?_
        rintro e u2 ⟨v2, rfl, o2, k2⟩
        have o2' := o2.base_le hk1.size
        have hk2 := keeps_trans hk1 k2
        have e2 : magicL ++ nb 4 N ++ nb 4 n = headB N l.length := by rw [HNL.out]; simp [headB]
        rw [e2, headB_length] at o2'
        clear o2 e2 k1 k2 hk1 kz
        go_wp2_with fail
        go_loopw [6, 7] (fun v i wr => ∃ k : Nat, k ≤ n ∧ i = .int .i64 k ∧ Own wr w.heap.size 5 1 v (12 + 16 * k) (cel (headB N l.length ++ (l.take k).flatMap rowB)) ∧ (∀ j e, j < k → l[j]? = some e → rowOk N e) ∧ Keeps w wr) (fun _ i _ => n - (intOf i).toNat)
        case atStart => exact ⟨0, Nat.zero_le _, rfl, by simpa using o2', fun j e hj => by omega, hk2⟩
        case round =>
          clear o2' hk2
          obtain ⟨k, hk, rfl, hO, hall, hkp⟩ := hrel
          have HALL := Lib.hid hall
          clear hall
          by_cases hlt : k < n
          · obtain ⟨e, he⟩ : ∃ e, l[k]? = some e := ⟨_, List.getElem?_eq_getElem (by have := HNL.out; omega)⟩
            obtain ⟨ad, rfl, _, hE⟩ := eds_at HB.out he
            obtain ⟨a0, a1, a2, a3⟩ := hE.keep hkp
            have oke := HOK.out _ (List.mem_of_getElem? he)
            have P3 := Lib.hid (refEdge_any e.t e.h e.x e.m oke.t oke.h oke.x oke.m wr)
            have HE := Lib.hid he
            have hkn : (k : Int) < (n : Int) := by omega
            have OKE := Lib.hid oke
            clear he oke
            go_wp2_with fail
            refine P3.out.mono ?_
            rintro ee u3 ⟨v3, rfl, o3, k3⟩
            obtain ⟨A3, c3, rfl, hc3, -, -, -⟩ := o3.form
            have B3 : Bs u3 A3 (edgeB e.t e.h e.x e.m) := Own.at_ o3
            have B4 : Bs u3 A3 (rowB e) := by have := B3.take 16; rwa [edgeB_row] at this
            rw [edgeB_len] at hc3
            simp only [edgeB_len]
            have hc3' : (16 : Int) ≤ (c3 : Int) := by omega
            have hk3 := keeps_trans hkp k3
            have GR := Lib.hid (refRow_any A3 16 c3 (rowB e) N hN u3 B4 (rowB_length e).symm (by omega))
            rw [rowS_rowB N e OKE.out.t OKE.out.h OKE.out.x] at GR
            clear o3 B3 a0 a1 a2 a3
            by_cases hre : (edErr N e).1 = 0
            · rw [if_pos hre] at GR
              unfold rowV at GR
              simp only at GR
              have HRE := Lib.hid (edErr_ok.2 hre)
              clear hre
              go_wp2_with fail
              refine GR.out.mono ?_
              rintro ee u4 ⟨rfl, k4⟩
              have hk4 := keeps_trans hk3 k4
              have B5 := (B4.keep k4).keep (keeps_alloc u4 (.cells #[.int .u32 ((nomid e).t : Int), .int .u32 ((nomid e).h : Int), .int .u64 ((nomid e).x : Int), .int .u32 ((nomid e).m : Int)] 31))
              have hsz := hk4.size
              go_wp2_with (at_builtin; refine wpList_app _ rfl _ _ 22 rfl w.heap.size 5 i0 (.int .u8 0) 1 1 Tryd.underlying22 hi hz0 hz1 hz2 rfl (by decide) _ _ _ rfl (hO.keep (keeps_trans k3 (keeps_trans k4 (keeps_alloc _ _)))) _ _ 16 c3 (cel (rowB e)) rfl (by rw [cel_length, rowB_length]) B5 (cel_one _) (by unfold maxLen; omega) (by omega) (by simp; omega) ?_)
              intro v' u5 hown' hgrow hblk
              have hkp' : Keeps w u5 := Below.grown (keeps_trans hk4 (keeps_alloc _ _)) hgrow (keeps_trans hk4 (keeps_alloc _ _)).size (fun g hg => (hO.lt g hg).1)
              have ec : cel (headB N l.length ++ (l.take k).flatMap rowB) ++ cel (rowB e) = cel (headB N l.length ++ (l.take (k + 1)).flatMap rowB) := by rw [eds_take l HE.out, ← cel_append, List.append_assoc]
              rw [ec, show 12 + 16 * k + 16 = 12 + 16 * (k + 1) by omega] at hown'
              clear ec hgrow hblk hO B5 B4
              go_wp2_with fail
              go_roundw
              case rel => exact ⟨k + 1, by omega, by go_num, hown', fun j f hj hf => by
                by_cases hjk : j = k
                · subst hjk
                  rw [HE.out] at hf
                  obtain rfl := Option.some.inj hf
                  exact HRE.out
                · exact HALL.out j f (by omega) hf, hkp'⟩
              case measure => simp [intOf]; omega
            · rw [if_neg hre] at GR
              unfold rowV at GR
              simp only at GR
              have NO := Lib.hid (show ¬ WOk N l from fun h => hre (edErr_ok.1 (h.2 e (List.mem_of_getElem? HE.out))))
              have hre' : (((edErr N e).1 : Int) == 0) = false := by rw [beq_eq_false_iff_ne]; omega
              clear hre
              generalize (edErr N e).1 = x1 at *
              generalize (edErr N e).2 = x2 at *
              go_wp2_with fail
              refine GR.out.mono ?_
              rintro ee u4 ⟨rfl, k4⟩
              go_wp2_with fail
              go_ret2
              exact .inr ⟨NO.out, rfl, keeps_trans hk3 (keeps_trans k4 (keeps_alloc _ _))⟩
          · obtain rfl : k = n := by omega
            have YES := Lib.hid (show WOk N l from ⟨HH.out, fun e he => by
              obtain ⟨j, hj⟩ := List.getElem?_of_mem he
              exact HALL.out j e (by have := (List.getElem?_eq_some_iff.1 hj).1; have := HNL.out; omega) hj⟩)
            have et : l.take k = l := by rw [HNL.out, List.take_length]
            rw [et] at hO
            have el : (writeB N l).length = 12 + 16 * k := by rw [writeB_length, ← HNL.out]
            have HO := Lib.hid (show Own wr w.heap.size 5 1 _ (writeB N l).length (cel (writeB N l)) by rw [el]; exact hO)
            obtain ⟨A', cap', rfl, -⟩ := hO.form
            clear et el hO hlt hk
            go_wp2_with fail
            go_ret2
            exact .inl ⟨YES.out, _, rfl, HO.out, hkp⟩
end Go.Proofs.YtbalejfloieiiaaDoor
