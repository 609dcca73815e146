/- What milepostlaw08.does does: Read. (Written by mkdo8b.py.) -/
import Derived.Test.YtkhfffflegiapaaGreatDoorQPfDo2
namespace Go.Proofs.YtkhfffflegiapaaGreatDoor
open Go.RowKit
set_option linter.unusedSimpArgs false
set_option linter.unusedVariables false
set_option maxRecDepth 100000

set_option maxHeartbeats 16000000 in
theorem does8_readY {K : DiskOk} (PK : PageOk) {w0 w : World} {b : Nat} {F : Nat → Prop} {s : Ds} (hZ : K.Z w0) (hS : Sizes w0) (h : Have K w0 w b F s) (o : Op8) (ho : Op8Ok w0 o) {f : Nat} {nm : List UInt8} (hf : PfAt w f b nm) (hnf : ¬ F f) (hnm : nm.length ≤ 70000) (hk : o.kind = 2) :
    Calls Tryz.prog 36 #[.pointer (some ⟨b, 0, none⟩), .pointer (some ⟨f, 0, none⟩), .agg (op8C o).toArray] w (DoneV8 K w0 w b F s (some nm) o (.pointer (some ⟨f, 0, none⟩))) := by
  have kW : Keeps w (((w.alloc (.cells (op8C o).toArray 85)).alloc (.cells #[.slice none 0 0, .slice none 0 0, .int .i64 0, .string ⟨#[]⟩, .int .i64 0] 79)).alloc (.cells #[.slice none 0 0, .slice none 0 0, .int .i64 0, .string ⟨#[]⟩, .int .i64 0] 79)) := keeps_trans (keeps_trans (keeps_alloc _ _) (keeps_alloc _ _)) (keeps_alloc _ _)
  have hs3 : ((((w.alloc (.cells (op8C o).toArray 85)).alloc (.cells #[.slice none 0 0, .slice none 0 0, .int .i64 0, .string ⟨#[]⟩, .int .i64 0] 79)).alloc (.cells #[.slice none 0 0, .slice none 0 0, .int .i64 0, .string ⟨#[]⟩, .int .i64 0] 79))).heap.size = w.heap.size + 3 := by simp
  have B1 := Lib.hid (box_mid8 w (.cells (op8C o).toArray 85) 79 #[.slice none 0 0, .slice none 0 0, .int .i64 0, .string ⟨#[]⟩, .int .i64 0] (.cells #[.slice none 0 0, .slice none 0 0, .int .i64 0, .string ⟨#[]⟩, .int .i64 0] 79))
  have B2 := Lib.hid (box_third8 w (.cells (op8C o).toArray 85) (.cells #[.slice none 0 0, .slice none 0 0, .int .i64 0, .string ⟨#[]⟩, .int .i64 0] 79) 79 #[.slice none 0 0, .slice none 0 0, .int .i64 0, .string ⟨#[]⟩, .int .i64 0])
  have hw := h.keep kW
  obtain ⟨l, E, hr⟩ : ∃ l E, readP s nm o.k = (l, E) := ⟨_, _, rfl⟩
  have HD : doS8 s (some nm) o = (s, some nm, ⟨l, [], 0, [], E⟩) := by
    unfold doS8
    rw [hk]
    show (s, some nm, (⟨(readP s nm o.k).1, [], 0, [], (readP s nm o.k).2⟩ : Told8)) = _
    rw [hr]
  have HH := Lib.hid (And.intro hf (And.intro hnf hnm))
  have C := Lib.hid (pfRead_any PK hw hZ hS (hf.keep kW) (by omega) o.k ho.k hr)
  have HK := Lib.hid h
  have HS3 := Lib.hid hs3
  have KW := Lib.hid kW
  have HDO := Lib.hid HD
  unfold op8C opC strV at *
  rw [hk] at *
  clear h hw hs3 ho hZ HD kW hS hr hf hnf hnm
  simp only [List.cons_append, List.nil_append] at *
  go_enter Tryz.func36, Tryz.ntmps36
  go_wp2_with fail
  refine C.out.mono ?_
  rintro e w1 ⟨A1, c1, rfl, hc1, o1, k1⟩
  obtain ⟨L, hL⟩ : ∃ L, l.length = L := ⟨_, rfl⟩
  rw [hL] at o1 hc1 ⊢
  have HL := Lib.hid hL
  have hcm := o1.capm
  have hLb : L ≤ maxLen := Nat.le_trans hc1 hcm
  have O1 := Lib.hid (o1.base_le (base' := w.heap.size + 3) (by rw [HS3.out]; exact Nat.le_refl _))
  have KK1 := Lib.hid k1
  have CB := Lib.hid (copyBytes_any A1 L c1 l w1 o1.at_ HL.out.symm hLb)
  unfold maxLen at hLb
  clear hL o1 k1 hc1 hcm
  go_wp2_with fail
  refine CB.out.mono ?_
  rintro e w2 ⟨v2, rfl, o2, k2⟩
  rw [HL.out] at o2
  obtain ⟨A2, c2, rfl, -⟩ := o2.form
  have KK2 := Lib.hid (keeps_trans KK1.out k2)
  have X2 := B2.out.keep KK2.out
  have Y2 := B1.out.keep KK2.out
  have c20 := X2.cell 0 rfl
  have c21 := X2.cell 1 rfl
  have c22 := X2.cell 2 rfl
  have c23 := X2.cell 3 rfl
  have c24 := X2.cell 4 rfl
  have f20 := X2.frozen 0
  have f24 := X2.frozen 4
  have LT1 := Lib.hid (show ∀ g, (Value.slice A1 L c1).ownBlock = some g → g < w1.heap.size from fun g hg => (O1.out.lt g hg).2)
  have O1B := Lib.hid (O1.out.keep k2)
  have O2 := Lib.hid o2
  have SZ1 := Lib.hid (show w.heap.size + 3 ≤ w1.heap.size by rw [← HS3.out]; exact KK1.out.size)
  clear o2 k2
  have X3 := Lib.hid (show Box (((w2).setCell ⟨w.heap.size + 1 + 1, 0, none⟩ (.slice A2 L c2)).setCell ⟨w.heap.size + 1 + 1, 4, none⟩ (.int .i64 (E : Int))) (w.heap.size + 1 + 1) 79 #[.slice A2 L c2, .slice none 0 0, .int .i64 0, .string ⟨#[]⟩, .int .i64 (E : Int)] by simpa using ((X2.set 0 (.slice A2 L c2)).set 4 (.int .i64 (E : Int))))
  have Y3 := Lib.hid (show Box (((w2).setCell ⟨w.heap.size + 1 + 1, 0, none⟩ (.slice A2 L c2)).setCell ⟨w.heap.size + 1 + 1, 4, none⟩ (.int .i64 (E : Int))) (w.heap.size + 1) 79 #[.slice none 0 0, .slice none 0 0, .int .i64 0, .string ⟨#[]⟩, .int .i64 0] from ((Y2.far (p := ⟨w.heap.size + 1 + 1, 0, none⟩) (show w.heap.size + 1 ≠ w.heap.size + 1 + 1 by omega) (.slice A2 L c2)).far (p := ⟨w.heap.size + 1 + 1, 4, none⟩) (show w.heap.size + 1 ≠ w.heap.size + 1 + 1 by omega) (.int .i64 (E : Int))))
  have XO := Lib.hid (show Only w2 (((w2).setCell ⟨w.heap.size + 1 + 1, 0, none⟩ (.slice A2 L c2)).setCell ⟨w.heap.size + 1 + 1, 4, none⟩ (.int .i64 (E : Int))) (fun i => w.heap.size ≤ i ∧ i < w.heap.size + 3) from only_xt w2 (w.heap.size) (w.heap.size + 3) [((⟨w.heap.size + 1 + 1, 0, none⟩ : Addr), (.slice A2 L c2 : Value)), ((⟨w.heap.size + 1 + 1, 4, none⟩ : Addr), (.int .i64 (E : Int) : Value))] (by simp <;> omega))
  have O13 := Lib.hid (O1B.out.only_ XO.out (fun k hk hs => by have := (O1B.out.lt k hk).1; omega))
  have O23 := Lib.hid (O2.out.only_ XO.out (fun k hk hs => by have := (O2.out.lt k hk).1; have := SZ1.out; omega))
  have K3 := Lib.hid (show Keeps w (((w2).setCell ⟨w.heap.size + 1 + 1, 0, none⟩ (.slice A2 L c2)).setCell ⟨w.heap.size + 1 + 1, 4, none⟩ (.int .i64 (E : Int))) from Below.trans (keeps_trans KW.out KK2.out) (XO.out.below (fun i hi => hi.1) (Nat.le_trans KW.out.size KK2.out.size)))
  clear X2 Y2
  go_wp2_with fail
  go_loopw [15] (fun i wr => ∃ (j : Nat) (ys : List Value), j ≤ L ∧ i = .int .i64 j ∧ Hid (Own wr (w.heap.size + 3) 5 1 (.slice A1 L c1) L ys) ∧ Hid (Own wr w1.heap.size 5 1 (.slice A2 L c2) L (cel l)) ∧ Hid (Box wr (w.heap.size + 1 + 1) 79 #[.slice A2 L c2, .slice none 0 0, .int .i64 0, .string ⟨#[]⟩, .int .i64 (E : Int)]) ∧ Hid (Box wr (w.heap.size + 1) 79 #[.slice none 0 0, .slice none 0 0, .int .i64 0, .string ⟨#[]⟩, .int .i64 0]) ∧ Hid (Keeps w wr)) (fun i _ => L - (intOf i).toNat)
  case atStart => exact ⟨0, _, Nat.zero_le _, rfl, O13, O23, X3, Y3, K3⟩
  case round =>
    clear O13 O23 X3 Y3 K3 O1B O2 O1 CB C
    obtain ⟨j, ys, hj, rfl, HO1, HO2, XB, YB, KR⟩ := hrel
    by_cases hlt : j < L
    · have hji : (j : Int) < (L : Int) := by omega
      have hlen : ys.length = L := by have := HO1.out.1; omega
      obtain ⟨g, rfl, hcc, hff, hgb⟩ := HO1.out.cell (j := j) (by omega)
      obtain ⟨u, hu⟩ : ∃ u, ys[j]? = some u := ⟨_, List.getElem?_eq_getElem (by omega)⟩
      rw [hu] at hcc
      have hg1 := LT1.out g rfl
      have N1 := Lib.hid (HO1.out.store (j := j) (by omega) (.int .u8 238))
      have N2 := Lib.hid (HO2.out.same (fun k hk => Below.heap_setCell wr ⟨g, j, none⟩ (.int .u8 238) k (fun e => by have := (HO2.out.lt k hk).1; simp only at e; omega)))
      have NX := Lib.hid (XB.out.far (p := ⟨g, j, none⟩) (show w.heap.size + 1 + 1 ≠ g by omega) (.int .u8 238))
      have NY := Lib.hid (YB.out.far (p := ⟨g, j, none⟩) (show w.heap.size + 1 ≠ g by omega) (.int .u8 238))
      have NK := Lib.hid (show Keeps w (wr.setCell ⟨g, j, none⟩ (.int .u8 238)) from Below.trans KR.out ⟨rfl, rfl, rfl, by simp [World.setCell], fun i hi => Below.heap_setCell _ _ _ _ (by simp only; omega)⟩)
      clear hu hlen hg1 hgb hlt
      go_wp2_with fail
      go_roundw
      case rel => exact ⟨j + 1, _, by omega, by go_num, N1, N2, NX, NY, NK⟩
      case measure => simp [intOf] <;> omega
    · obtain rfl : L = j := by omega
      have c20 := XB.out.cell 0 rfl
      have c21 := XB.out.cell 1 rfl
      have c22 := XB.out.cell 2 rfl
      have c23 := XB.out.cell 3 rfl
      have c24 := XB.out.cell 4 rfl
      have c10 := YB.out.cell 0 rfl
      have c11 := YB.out.cell 1 rfl
      have c12 := YB.out.cell 2 rfl
      have c13 := YB.out.cell 3 rfl
      have c14 := YB.out.cell 4 rfl
      have f10 := YB.out.frozen 0
      have f11 := YB.out.frozen 1
      have f12 := YB.out.frozen 2
      have f13 := YB.out.frozen 3
      have f14 := YB.out.frozen 4
      clear hlt hj
      go_wp2_with fail
      have ZB : Box ((((((wr).setCell ⟨w.heap.size + 1, 0, none⟩ (.slice A2 L c2)).setCell ⟨w.heap.size + 1, 1, none⟩ (.slice none 0 0)).setCell ⟨w.heap.size + 1, 2, none⟩ (.int .i64 0)).setCell ⟨w.heap.size + 1, 3, none⟩ (.string ⟨#[]⟩)).setCell ⟨w.heap.size + 1, 4, none⟩ (.int .i64 (E : Int))) (w.heap.size + 1) 79 #[.slice A2 L c2, .slice none 0 0, .int .i64 0, .string ⟨#[]⟩, .int .i64 (E : Int)] := by simpa using (((((YB.out.set 0 (.slice A2 L c2)).set 1 (.slice none 0 0)).set 2 (.int .i64 0)).set 3 (.string ⟨#[]⟩)).set 4 (.int .i64 (E : Int)))
      have ZO : Only wr ((((((wr).setCell ⟨w.heap.size + 1, 0, none⟩ (.slice A2 L c2)).setCell ⟨w.heap.size + 1, 1, none⟩ (.slice none 0 0)).setCell ⟨w.heap.size + 1, 2, none⟩ (.int .i64 0)).setCell ⟨w.heap.size + 1, 3, none⟩ (.string ⟨#[]⟩)).setCell ⟨w.heap.size + 1, 4, none⟩ (.int .i64 (E : Int))) (fun i => w.heap.size ≤ i ∧ i < w.heap.size + 3) := only_xt wr (w.heap.size) (w.heap.size + 3) [((⟨w.heap.size + 1, 0, none⟩ : Addr), (.slice A2 L c2 : Value)), ((⟨w.heap.size + 1, 1, none⟩ : Addr), (.slice none 0 0 : Value)), ((⟨w.heap.size + 1, 2, none⟩ : Addr), (.int .i64 0 : Value)), ((⟨w.heap.size + 1, 3, none⟩ : Addr), (.string ⟨#[]⟩ : Value)), ((⟨w.heap.size + 1, 4, none⟩ : Addr), (.int .i64 (E : Int) : Value))] (by simp <;> omega)
      generalize (((((wr).setCell ⟨w.heap.size + 1, 0, none⟩ (.slice A2 L c2)).setCell ⟨w.heap.size + 1, 1, none⟩ (.slice none 0 0)).setCell ⟨w.heap.size + 1, 2, none⟩ (.int .i64 0)).setCell ⟨w.heap.size + 1, 3, none⟩ (.string ⟨#[]⟩)).setCell ⟨w.heap.size + 1, 4, none⟩ (.int .i64 (E : Int)) = W4 at *
      have d0 := ZB.cell 0 rfl
      have d1 := ZB.cell 1 rfl
      have d2 := ZB.cell 2 rfl
      have d3 := ZB.cell 3 rfl
      have d4 := ZB.cell 4 rfl
      refine bodyPost_ret (v := .tuple #[.agg #[.slice A2 L c2, .slice none 0 0, .int .i64 0, .string ⟨#[]⟩, .int .i64 (E : Int)], .pointer (some ⟨f, 0, none⟩)]) (by simp [results, Tryz.results36, go_sem, d0, d1, d2, d3, d4]) rfl ?_
      have K4 : Keeps w W4 := Below.trans KR.out (ZO.below (fun i hi => hi.1) KR.out.size)
      refine ⟨_, _, F, rfl, ?_, by rw [HDO.out]; exact HK.out.keep K4, Turns.of_keeps K4, (by rw [HDO.out]; exact ⟨f, rfl, HH.out.1.keep K4, HH.out.2.1, HH.out.2.2⟩), .inl rfl⟩
      rw [HDO.out]
      refine ⟨.slice A2 L c2, .slice none 0 0, rfl, ?_, Own.nil _ _ _ _⟩
      rw [HL.out]
      exact (HO2.out.only_ ZO (fun k hk hs => by have := (HO2.out.lt k hk).1; have := SZ1.out; omega)).base_le (by have := SZ1.out; omega)
set_option maxHeartbeats 16000000 in
theorem does8_readN {K : DiskOk} (PK : PageOk) {w0 w : World} {b : Nat} {F : Nat → Prop} {s : Ds} (hZ : K.Z w0) (hS : Sizes w0) (h : Have K w0 w b F s) (o : Op8) (ho : Op8Ok w0 o)  (hk : o.kind = 2) :
    Calls Tryz.prog 36 #[.pointer (some ⟨b, 0, none⟩), .pointer none, .agg (op8C o).toArray] w (DoneV8 K w0 w b F s none o (.pointer none)) := by
  have kW : Keeps w (((w.alloc (.cells (op8C o).toArray 85)).alloc (.cells #[.slice none 0 0, .slice none 0 0, .int .i64 0, .string ⟨#[]⟩, .int .i64 0] 79)).alloc (.cells #[.slice none 0 0, .slice none 0 0, .int .i64 0, .string ⟨#[]⟩, .int .i64 0] 79)) := keeps_trans (keeps_trans (keeps_alloc _ _) (keeps_alloc _ _)) (keeps_alloc _ _)
  have hs3 : ((((w.alloc (.cells (op8C o).toArray 85)).alloc (.cells #[.slice none 0 0, .slice none 0 0, .int .i64 0, .string ⟨#[]⟩, .int .i64 0] 79)).alloc (.cells #[.slice none 0 0, .slice none 0 0, .int .i64 0, .string ⟨#[]⟩, .int .i64 0] 79))).heap.size = w.heap.size + 3 := by simp
  have B1 := Lib.hid (box_mid8 w (.cells (op8C o).toArray 85) 79 #[.slice none 0 0, .slice none 0 0, .int .i64 0, .string ⟨#[]⟩, .int .i64 0] (.cells #[.slice none 0 0, .slice none 0 0, .int .i64 0, .string ⟨#[]⟩, .int .i64 0] 79))
  have B2 := Lib.hid (box_third8 w (.cells (op8C o).toArray 85) (.cells #[.slice none 0 0, .slice none 0 0, .int .i64 0, .string ⟨#[]⟩, .int .i64 0] 79) 79 #[.slice none 0 0, .slice none 0 0, .int .i64 0, .string ⟨#[]⟩, .int .i64 0])
  have hw := h.keep kW
  obtain ⟨l, hl0⟩ : ∃ l : List UInt8, l = [] := ⟨_, rfl⟩
  have HD : doS8 s none o = (s, none, ⟨l, [], 0, [], 2⟩) := by unfold doS8; rw [hk, hl0]; rfl
  have C := Lib.hid ((nil8_Read o.k (((w.alloc (.cells (op8C o).toArray 85)).alloc (.cells #[.slice none 0 0, .slice none 0 0, .int .i64 0, .string ⟨#[]⟩, .int .i64 0] 79)).alloc (.cells #[.slice none 0 0, .slice none 0 0, .int .i64 0, .string ⟨#[]⟩, .int .i64 0] 79))).mono (R' := GaveU (((w.alloc (.cells (op8C o).toArray 85)).alloc (.cells #[.slice none 0 0, .slice none 0 0, .int .i64 0, .string ⟨#[]⟩, .int .i64 0] 79)).alloc (.cells #[.slice none 0 0, .slice none 0 0, .int .i64 0, .string ⟨#[]⟩, .int .i64 0] 79)) l 2) (fun e w' q => by rw [q.1, hl0]; exact GaveU.none q.2))
  clear hl0
  have HK := Lib.hid h
  have HS3 := Lib.hid hs3
  have KW := Lib.hid kW
  have HDO := Lib.hid HD
  unfold op8C opC strV at *
  rw [hk] at *
  clear h hw hs3 ho hZ HD kW hS
  simp only [List.cons_append, List.nil_append] at *
  go_enter Tryz.func36, Tryz.ntmps36
  go_wp2_with fail
  refine C.out.mono ?_
  rintro e w1 ⟨A1, c1, rfl, hc1, o1, k1⟩
  obtain ⟨L, hL⟩ : ∃ L, l.length = L := ⟨_, rfl⟩
  rw [hL] at o1 hc1 ⊢
  have HL := Lib.hid hL
  have hcm := o1.capm
  have hLb : L ≤ maxLen := Nat.le_trans hc1 hcm
  have O1 := Lib.hid (o1.base_le (base' := w.heap.size + 3) (by rw [HS3.out]; exact Nat.le_refl _))
  have KK1 := Lib.hid k1
  have CB := Lib.hid (copyBytes_any A1 L c1 l w1 o1.at_ HL.out.symm hLb)
  unfold maxLen at hLb
  clear hL o1 k1 hc1 hcm
  go_wp2_with fail
  refine CB.out.mono ?_
  rintro e w2 ⟨v2, rfl, o2, k2⟩
  rw [HL.out] at o2
  obtain ⟨A2, c2, rfl, -⟩ := o2.form
  have KK2 := Lib.hid (keeps_trans KK1.out k2)
  have X2 := B2.out.keep KK2.out
  have Y2 := B1.out.keep KK2.out
  have c20 := X2.cell 0 rfl
  have c21 := X2.cell 1 rfl
  have c22 := X2.cell 2 rfl
  have c23 := X2.cell 3 rfl
  have c24 := X2.cell 4 rfl
  have f20 := X2.frozen 0
  have f24 := X2.frozen 4
  have LT1 := Lib.hid (show ∀ g, (Value.slice A1 L c1).ownBlock = some g → g < w1.heap.size from fun g hg => (O1.out.lt g hg).2)
  have O1B := Lib.hid (O1.out.keep k2)
  have O2 := Lib.hid o2
  have SZ1 := Lib.hid (show w.heap.size + 3 ≤ w1.heap.size by rw [← HS3.out]; exact KK1.out.size)
  clear o2 k2
  have X3 := Lib.hid (show Box (((w2).setCell ⟨w.heap.size + 1 + 1, 0, none⟩ (.slice A2 L c2)).setCell ⟨w.heap.size + 1 + 1, 4, none⟩ (.int .i64 2)) (w.heap.size + 1 + 1) 79 #[.slice A2 L c2, .slice none 0 0, .int .i64 0, .string ⟨#[]⟩, .int .i64 2] by simpa using ((X2.set 0 (.slice A2 L c2)).set 4 (.int .i64 2)))
  have Y3 := Lib.hid (show Box (((w2).setCell ⟨w.heap.size + 1 + 1, 0, none⟩ (.slice A2 L c2)).setCell ⟨w.heap.size + 1 + 1, 4, none⟩ (.int .i64 2)) (w.heap.size + 1) 79 #[.slice none 0 0, .slice none 0 0, .int .i64 0, .string ⟨#[]⟩, .int .i64 0] from ((Y2.far (p := ⟨w.heap.size + 1 + 1, 0, none⟩) (show w.heap.size + 1 ≠ w.heap.size + 1 + 1 by omega) (.slice A2 L c2)).far (p := ⟨w.heap.size + 1 + 1, 4, none⟩) (show w.heap.size + 1 ≠ w.heap.size + 1 + 1 by omega) (.int .i64 2)))
  have XO := Lib.hid (show Only w2 (((w2).setCell ⟨w.heap.size + 1 + 1, 0, none⟩ (.slice A2 L c2)).setCell ⟨w.heap.size + 1 + 1, 4, none⟩ (.int .i64 2)) (fun i => w.heap.size ≤ i ∧ i < w.heap.size + 3) from only_xt w2 (w.heap.size) (w.heap.size + 3) [((⟨w.heap.size + 1 + 1, 0, none⟩ : Addr), (.slice A2 L c2 : Value)), ((⟨w.heap.size + 1 + 1, 4, none⟩ : Addr), (.int .i64 2 : Value))] (by simp <;> omega))
  have O13 := Lib.hid (O1B.out.only_ XO.out (fun k hk hs => by have := (O1B.out.lt k hk).1; omega))
  have O23 := Lib.hid (O2.out.only_ XO.out (fun k hk hs => by have := (O2.out.lt k hk).1; have := SZ1.out; omega))
  have K3 := Lib.hid (show Keeps w (((w2).setCell ⟨w.heap.size + 1 + 1, 0, none⟩ (.slice A2 L c2)).setCell ⟨w.heap.size + 1 + 1, 4, none⟩ (.int .i64 2)) from Below.trans (keeps_trans KW.out KK2.out) (XO.out.below (fun i hi => hi.1) (Nat.le_trans KW.out.size KK2.out.size)))
  clear X2 Y2
  go_wp2_with fail
  go_loopw [15] (fun i wr => ∃ (j : Nat) (ys : List Value), j ≤ L ∧ i = .int .i64 j ∧ Hid (Own wr (w.heap.size + 3) 5 1 (.slice A1 L c1) L ys) ∧ Hid (Own wr w1.heap.size 5 1 (.slice A2 L c2) L (cel l)) ∧ Hid (Box wr (w.heap.size + 1 + 1) 79 #[.slice A2 L c2, .slice none 0 0, .int .i64 0, .string ⟨#[]⟩, .int .i64 2]) ∧ Hid (Box wr (w.heap.size + 1) 79 #[.slice none 0 0, .slice none 0 0, .int .i64 0, .string ⟨#[]⟩, .int .i64 0]) ∧ Hid (Keeps w wr)) (fun i _ => L - (intOf i).toNat)
  case atStart => exact ⟨0, _, Nat.zero_le _, rfl, O13, O23, X3, Y3, K3⟩
  case round =>
    clear O13 O23 X3 Y3 K3 O1B O2 O1 CB C
    obtain ⟨j, ys, hj, rfl, HO1, HO2, XB, YB, KR⟩ := hrel
    by_cases hlt : j < L
    · have hji : (j : Int) < (L : Int) := by omega
      have hlen : ys.length = L := by have := HO1.out.1; omega
      obtain ⟨g, rfl, hcc, hff, hgb⟩ := HO1.out.cell (j := j) (by omega)
      obtain ⟨u, hu⟩ : ∃ u, ys[j]? = some u := ⟨_, List.getElem?_eq_getElem (by omega)⟩
      rw [hu] at hcc
      have hg1 := LT1.out g rfl
      have N1 := Lib.hid (HO1.out.store (j := j) (by omega) (.int .u8 238))
      have N2 := Lib.hid (HO2.out.same (fun k hk => Below.heap_setCell wr ⟨g, j, none⟩ (.int .u8 238) k (fun e => by have := (HO2.out.lt k hk).1; simp only at e; omega)))
      have NX := Lib.hid (XB.out.far (p := ⟨g, j, none⟩) (show w.heap.size + 1 + 1 ≠ g by omega) (.int .u8 238))
      have NY := Lib.hid (YB.out.far (p := ⟨g, j, none⟩) (show w.heap.size + 1 ≠ g by omega) (.int .u8 238))
      have NK := Lib.hid (show Keeps w (wr.setCell ⟨g, j, none⟩ (.int .u8 238)) from Below.trans KR.out ⟨rfl, rfl, rfl, by simp [World.setCell], fun i hi => Below.heap_setCell _ _ _ _ (by simp only; omega)⟩)
      clear hu hlen hg1 hgb hlt
      go_wp2_with fail
      go_roundw
      case rel => exact ⟨j + 1, _, by omega, by go_num, N1, N2, NX, NY, NK⟩
      case measure => simp [intOf] <;> omega
    · obtain rfl : L = j := by omega
      have c20 := XB.out.cell 0 rfl
      have c21 := XB.out.cell 1 rfl
      have c22 := XB.out.cell 2 rfl
      have c23 := XB.out.cell 3 rfl
      have c24 := XB.out.cell 4 rfl
      have c10 := YB.out.cell 0 rfl
      have c11 := YB.out.cell 1 rfl
      have c12 := YB.out.cell 2 rfl
      have c13 := YB.out.cell 3 rfl
      have c14 := YB.out.cell 4 rfl
      have f10 := YB.out.frozen 0
      have f11 := YB.out.frozen 1
      have f12 := YB.out.frozen 2
      have f13 := YB.out.frozen 3
      have f14 := YB.out.frozen 4
      clear hlt hj
      go_wp2_with fail
      have ZB : Box ((((((wr).setCell ⟨w.heap.size + 1, 0, none⟩ (.slice A2 L c2)).setCell ⟨w.heap.size + 1, 1, none⟩ (.slice none 0 0)).setCell ⟨w.heap.size + 1, 2, none⟩ (.int .i64 0)).setCell ⟨w.heap.size + 1, 3, none⟩ (.string ⟨#[]⟩)).setCell ⟨w.heap.size + 1, 4, none⟩ (.int .i64 2)) (w.heap.size + 1) 79 #[.slice A2 L c2, .slice none 0 0, .int .i64 0, .string ⟨#[]⟩, .int .i64 2] := by simpa using (((((YB.out.set 0 (.slice A2 L c2)).set 1 (.slice none 0 0)).set 2 (.int .i64 0)).set 3 (.string ⟨#[]⟩)).set 4 (.int .i64 2))
      have ZO : Only wr ((((((wr).setCell ⟨w.heap.size + 1, 0, none⟩ (.slice A2 L c2)).setCell ⟨w.heap.size + 1, 1, none⟩ (.slice none 0 0)).setCell ⟨w.heap.size + 1, 2, none⟩ (.int .i64 0)).setCell ⟨w.heap.size + 1, 3, none⟩ (.string ⟨#[]⟩)).setCell ⟨w.heap.size + 1, 4, none⟩ (.int .i64 2)) (fun i => w.heap.size ≤ i ∧ i < w.heap.size + 3) := only_xt wr (w.heap.size) (w.heap.size + 3) [((⟨w.heap.size + 1, 0, none⟩ : Addr), (.slice A2 L c2 : Value)), ((⟨w.heap.size + 1, 1, none⟩ : Addr), (.slice none 0 0 : Value)), ((⟨w.heap.size + 1, 2, none⟩ : Addr), (.int .i64 0 : Value)), ((⟨w.heap.size + 1, 3, none⟩ : Addr), (.string ⟨#[]⟩ : Value)), ((⟨w.heap.size + 1, 4, none⟩ : Addr), (.int .i64 2 : Value))] (by simp <;> omega)
      generalize (((((wr).setCell ⟨w.heap.size + 1, 0, none⟩ (.slice A2 L c2)).setCell ⟨w.heap.size + 1, 1, none⟩ (.slice none 0 0)).setCell ⟨w.heap.size + 1, 2, none⟩ (.int .i64 0)).setCell ⟨w.heap.size + 1, 3, none⟩ (.string ⟨#[]⟩)).setCell ⟨w.heap.size + 1, 4, none⟩ (.int .i64 2) = W4 at *
      have d0 := ZB.cell 0 rfl
      have d1 := ZB.cell 1 rfl
      have d2 := ZB.cell 2 rfl
      have d3 := ZB.cell 3 rfl
      have d4 := ZB.cell 4 rfl
      refine bodyPost_ret (v := .tuple #[.agg #[.slice A2 L c2, .slice none 0 0, .int .i64 0, .string ⟨#[]⟩, .int .i64 2], .pointer none]) (by simp [results, Tryz.results36, go_sem, d0, d1, d2, d3, d4]) rfl ?_
      have K4 : Keeps w W4 := Below.trans KR.out (ZO.below (fun i hi => hi.1) KR.out.size)
      refine ⟨_, _, F, rfl, ?_, by rw [HDO.out]; exact HK.out.keep K4, Turns.of_keeps K4, (by rw [HDO.out]; rfl), .inl rfl⟩
      rw [HDO.out]
      refine ⟨.slice A2 L c2, .slice none 0 0, rfl, ?_, Own.nil _ _ _ _⟩
      rw [HL.out]
      exact (HO2.out.only_ ZO (fun k hk hs => by have := (HO2.out.lt k hk).1; have := SZ1.out; omega)).base_le (by have := SZ1.out; omega)

theorem Have.cell_ {K : DiskOk} {w0 w : World} {b : Nat} {F : Nat → Prop} {s : Ds} (h : Have K w0 w b F s) (p : Addr) (u : Value) (hn : ¬ F p.block) (hp : w0.heap.size ≤ p.block) : Have K w0 (w.setCell p u) b F s :=
  ⟨K.same h.D (fun i hi => Below.heap_setCell w p u i (fun e => hn (e ▸ hi))) (by simp), h.low, Below.trans h.kp ⟨rfl, rfl, rfl, by simp, fun i hi => Below.heap_setCell _ _ _ _ (by omega)⟩⟩
theorem Turns.cell_ {w w' : World} {F F' : Nat → Prop} (t : Turns w w' F F') (p : Addr) (u : Value) (hp : w.heap.size ≤ p.block) : Turns w (w'.setCell p u) F F' :=
  ⟨⟨t.only.os, t.only.tape, t.only.output, by simpa using t.only.size, fun i hi hn => (Below.heap_setCell _ _ _ _ (by omega)).trans (t.only.block i hi hn)⟩, t.next⟩
set_option maxHeartbeats 16000000 in
theorem does8_writeY {K : DiskOk} (PK : PageOk) {w0 w : World} {b : Nat} {F : Nat → Prop} {s : Ds} (hZ : K.Z w0) (hS : Sizes w0) (h : Have K w0 w b F s) (o : Op8) (ho : Op8Ok w0 o) {f : Nat} {nm : List UInt8} (hf : PfAt w f b nm) (hnf : ¬ F f) (hnm : nm.length ≤ 70000) (hk : o.kind = 3) :
    Calls Tryz.prog 36 #[.pointer (some ⟨b, 0, none⟩), .pointer (some ⟨f, 0, none⟩), .agg (op8C o).toArray] w (DoneV8 K w0 w b F s (some nm) o (.pointer (some ⟨f, 0, none⟩))) := by
  have kW : Keeps w (((w.alloc (.cells (op8C o).toArray 85)).alloc (.cells #[.slice none 0 0, .slice none 0 0, .int .i64 0, .string ⟨#[]⟩, .int .i64 0] 79)).alloc (.cells #[.slice none 0 0, .slice none 0 0, .int .i64 0, .string ⟨#[]⟩, .int .i64 0] 79)) := keeps_trans (keeps_trans (keeps_alloc _ _) (keeps_alloc _ _)) (keeps_alloc _ _)
  have hs3 : ((((w.alloc (.cells (op8C o).toArray 85)).alloc (.cells #[.slice none 0 0, .slice none 0 0, .int .i64 0, .string ⟨#[]⟩, .int .i64 0] 79)).alloc (.cells #[.slice none 0 0, .slice none 0 0, .int .i64 0, .string ⟨#[]⟩, .int .i64 0] 79))).heap.size = w.heap.size + 3 := by simp
  have B1 := Lib.hid (box_mid8 w (.cells (op8C o).toArray 85) 79 #[.slice none 0 0, .slice none 0 0, .int .i64 0, .string ⟨#[]⟩, .int .i64 0] (.cells #[.slice none 0 0, .slice none 0 0, .int .i64 0, .string ⟨#[]⟩, .int .i64 0] 79))
  have B2 := Lib.hid (box_third8 w (.cells (op8C o).toArray 85) (.cells #[.slice none 0 0, .slice none 0 0, .int .i64 0, .string ⟨#[]⟩, .int .i64 0] 79) 79 #[.slice none 0 0, .slice none 0 0, .int .i64 0, .string ⟨#[]⟩, .int .i64 0])
  have hw := h.keep kW
  obtain ⟨s1, E, hr⟩ : ∃ s1 E, writeP s nm o.k o.b = (s1, E) := ⟨_, _, rfl⟩
  have HD : doS8 s (some nm) o = (s1, some nm, ⟨o.b, [], 0, [], E⟩) := by
    unfold doS8
    rw [hk]
    show ((writeP s nm o.k o.b).1, some nm, (⟨o.b, [], 0, [], (writeP s nm o.k o.b).2⟩ : Told8)) = _
    rw [hr]
  have HH := Lib.hid (And.intro hf (And.intro hnf hnm))
  have HL := Lib.hid ho.len
  have hLb : o.len ≤ maxLen := Nat.le_trans ho.c ho.m
  have CB := Lib.hid (copyBytes_any o.A o.len o.c o.b (((w.alloc (.cells (op8C o).toArray 85)).alloc (.cells #[.slice none 0 0, .slice none 0 0, .int .i64 0, .string ⟨#[]⟩, .int .i64 0] 79)).alloc (.cells #[.slice none 0 0, .slice none 0 0, .int .i64 0, .string ⟨#[]⟩, .int .i64 0] 79)) (ho.b.low (keeps_trans h.kp kW)) HL.out hLb)
  have WR := Lib.hid (fun (V : World) (kk : Keeps (((w.alloc (.cells (op8C o).toArray 85)).alloc (.cells #[.slice none 0 0, .slice none 0 0, .int .i64 0, .string ⟨#[]⟩, .int .i64 0] 79)).alloc (.cells #[.slice none 0 0, .slice none 0 0, .int .i64 0, .string ⟨#[]⟩, .int .i64 0] 79)) V) (A1 : Option Addr) (c1 : Nat) (q : Own V ((((w.alloc (.cells (op8C o).toArray 85)).alloc (.cells #[.slice none 0 0, .slice none 0 0, .int .i64 0, .string ⟨#[]⟩, .int .i64 0] 79)).alloc (.cells #[.slice none 0 0, .slice none 0 0, .int .i64 0, .string ⟨#[]⟩, .int .i64 0] 79))).heap.size 5 1 (.slice A1 o.len c1) o.len (cel o.b)) (hc : o.len ≤ c1) => pfWrite_any PK (hw.keep kk) hZ hS (hf.keep (keeps_trans kW kk)) (by omega) o.k ho.k A1 o.len c1 o.b q.at_ HL.out hc q.capm hr)
  have OB := Lib.hid (show Box (((w.alloc (.cells (op8C o).toArray 85)).alloc (.cells #[.slice none 0 0, .slice none 0 0, .int .i64 0, .string ⟨#[]⟩, .int .i64 0] 79)).alloc (.cells #[.slice none 0 0, .slice none 0 0, .int .i64 0, .string ⟨#[]⟩, .int .i64 0] 79)) w.heap.size 85 (op8C o).toArray from (Box.new w 85 (op8C o).toArray).keep (keeps_trans (keeps_alloc _ _) (keeps_alloc _ _)))
  have HF := Lib.hid (fun i (hi : F i) => K.lt h.D i hi)
  have LOW := Lib.hid (show w0.heap.size ≤ w.heap.size + 1 from Nat.le_trans h.kp.size (Nat.le_succ _))
  have HS3 := Lib.hid hs3
  have KW := Lib.hid kW
  have HDO := Lib.hid HD
  unfold op8C opC strV at *
  rw [hk] at *
  unfold maxLen at hLb
  clear h hw hs3 ho hZ HD kW hS hr hf hnf hnm
  simp only [List.cons_append, List.nil_append] at *
  generalize hL : o.len = L at *
  clear hL
  go_enter Tryz.func36, Tryz.ntmps36
  go_wp2_with fail
  refine CB.out.mono ?_
  rintro e w1 ⟨v1, rfl, o1, k1⟩
  rw [← HL.out] at o1
  obtain ⟨A1, c1, rfl, hc1, -⟩ := o1.form
  have WR1 := Lib.hid (WR.out _ k1 A1 c1 o1 hc1)
  have O1 := Lib.hid (o1.base_le (base' := w.heap.size + 3) (by rw [HS3.out]; exact Nat.le_refl _))
  have K1 := Lib.hid k1
  have z2 := (OB.out.keep k1).cell 2 rfl
  clear o1 k1 hc1 CB WR
  go_wp2_with fail
  refine WR1.out.mono ?_
  rintro e w2 ⟨rfl, F', h2, t2⟩
  have SZ1 := Lib.hid (show w.heap.size + 3 ≤ w1.heap.size by rw [← HS3.out]; exact K1.out.size)
  have SZ2 := Lib.hid (show w.heap.size + 3 ≤ w2.heap.size from Nat.le_trans SZ1.out t2.only.size)
  have nX : ¬ F (w.heap.size + 1 + 1) := fun e => by have := HF.out _ e; omega
  have nY : ¬ F (w.heap.size + 1) := fun e => by have := HF.out _ e; omega
  have X2 := (B2.out.keep K1.out).turned t2 nX
  have Y2 := (B1.out.keep K1.out).turned t2 nY
  have NFX := Lib.hid (t2.notIn (show w.heap.size + 1 + 1 < w1.heap.size by have := SZ1.out; omega) nX)
  have NFY := Lib.hid (t2.notIn (show w.heap.size + 1 < w1.heap.size by have := SZ1.out; omega) nY)
  have nG : ∀ g, (Value.slice A1 L c1).ownBlock = some g → ¬ F g := fun g hg e => by have h1 := (O1.out.lt g hg).1; have h2 := HF.out _ e; omega
  have NFG := Lib.hid (show ∀ g, (Value.slice A1 L c1).ownBlock = some g → ¬ F' g from fun g hg => t2.notIn (O1.out.lt g hg).2 (nG g hg))
  have LT1 := Lib.hid (show ∀ g, (Value.slice A1 L c1).ownBlock = some g → g < w2.heap.size from fun g hg => Nat.lt_of_lt_of_le (O1.out.lt g hg).2 t2.only.size)
  have O12 := Lib.hid (O1.out.turns t2 nG)
  have c20 := X2.cell 0 rfl
  have c21 := X2.cell 1 rfl
  have c22 := X2.cell 2 rfl
  have c23 := X2.cell 3 rfl
  have c24 := X2.cell 4 rfl
  have f20 := X2.frozen 0
  have f24 := X2.frozen 4
  have X3 := Lib.hid (show Box (w2.setCell ⟨w.heap.size + 1 + 1, 4, none⟩ (.int .i64 (E : Int))) (w.heap.size + 1 + 1) 79 #[.slice none 0 0, .slice none 0 0, .int .i64 0, .string ⟨#[]⟩, .int .i64 (E : Int)] by simpa using X2.set 4 (.int .i64 (E : Int)))
  have Y3 := Lib.hid (Y2.far (p := ⟨w.heap.size + 1 + 1, 4, none⟩) (show w.heap.size + 1 ≠ w.heap.size + 1 + 1 by omega) (.int .i64 (E : Int)))
  have O13 := Lib.hid (O12.out.same (fun k hk => Below.heap_setCell w2 ⟨w.heap.size + 1 + 1, 4, none⟩ (.int .i64 (E : Int)) k (fun e => by have := (O12.out.lt k hk).1; simp only at e; omega)))
  have H3 := Lib.hid (h2.cell_ ⟨w.heap.size + 1 + 1, 4, none⟩ (.int .i64 (E : Int)) NFX.out (Nat.le_succ_of_le LOW.out))
  have T3 := Lib.hid (((Turns.of_keeps (keeps_trans KW.out K1.out)).trans t2).cell_ ⟨w.heap.size + 1 + 1, 4, none⟩ (.int .i64 (E : Int)) (by show w.heap.size ≤ w.heap.size + 1 + 1; omega))
  have CB2 := Lib.hid (copyBytes_any A1 L c1 o.b (w2.setCell ⟨w.heap.size + 1 + 1, 4, none⟩ (.int .i64 (E : Int))) O13.out.at_ HL.out (by unfold maxLen; omega))
  have SZ3 := Lib.hid (show w2.heap.size ≤ (w2.setCell ⟨w.heap.size + 1 + 1, 4, none⟩ (.int .i64 (E : Int))).heap.size by simp)
  clear h2 t2 nX nY nG X2 Y2 z2
  go_wp2_with fail
  generalize w2.setCell ⟨w.heap.size + 1 + 1, 4, none⟩ (.int .i64 (E : Int)) = w3 at *
  refine CB2.out.mono ?_
  rintro e w4 ⟨v4, rfl, o4, k4⟩
  rw [← HL.out] at o4
  obtain ⟨A2, c2, rfl, -⟩ := o4.form
  have X4 := X3.out.keep k4
  have Y4 := Y3.out.keep k4
  clear c20 c21 c22 c23 c24 f20 f24
  have c20 := X4.cell 0 rfl
  have c21 := X4.cell 1 rfl
  have c22 := X4.cell 2 rfl
  have c23 := X4.cell 3 rfl
  have c24 := X4.cell 4 rfl
  have f20 := X4.frozen 0
  have O14 := Lib.hid (O13.out.keep k4)
  have SZ33 := Lib.hid (show w.heap.size + 3 ≤ w3.heap.size from Nat.le_trans SZ2.out SZ3.out)
  have O4 := Lib.hid o4
  have X5 := Lib.hid (show Box (w4.setCell ⟨w.heap.size + 1 + 1, 0, none⟩ (.slice A2 L c2)) (w.heap.size + 1 + 1) 79 #[.slice A2 L c2, .slice none 0 0, .int .i64 0, .string ⟨#[]⟩, .int .i64 (E : Int)] by simpa using X4.set 0 (.slice A2 L c2))
  have Y5 := Lib.hid (Y4.far (p := ⟨w.heap.size + 1 + 1, 0, none⟩) (show w.heap.size + 1 ≠ w.heap.size + 1 + 1 by omega) (.slice A2 L c2))
  have O15 := Lib.hid (O14.out.same (fun k hk => Below.heap_setCell w4 ⟨w.heap.size + 1 + 1, 0, none⟩ (.slice A2 L c2) k (fun e => by have := (O14.out.lt k hk).1; simp only at e; omega)))
  have O25 := Lib.hid (O4.out.same (fun k hk => Below.heap_setCell w4 ⟨w.heap.size + 1 + 1, 0, none⟩ (.slice A2 L c2) k (fun e => by have := (O4.out.lt k hk).1; have := SZ33.out; simp only at e; omega)))
  have H5 := Lib.hid ((H3.out.keep k4).cell_ ⟨w.heap.size + 1 + 1, 0, none⟩ (.slice A2 L c2) NFX.out (Nat.le_succ_of_le LOW.out))
  have T5 := Lib.hid ((T3.out.trans (Turns.of_keeps k4)).cell_ ⟨w.heap.size + 1 + 1, 0, none⟩ (.slice A2 L c2) (by show w.heap.size ≤ w.heap.size + 1 + 1; omega))
  have LT3 := Lib.hid (show ∀ g, (Value.slice A1 L c1).ownBlock = some g → g < w3.heap.size from fun g hg => Nat.lt_of_lt_of_le (LT1.out g hg) SZ3.out)
  clear o4 k4 X4 Y4
  go_wp2_with fail
  go_loopw [17] (fun i wr => ∃ (j : Nat) (ys : List Value), j ≤ L ∧ i = .int .i64 j ∧ Hid (Own wr (w.heap.size + 3) 5 1 (.slice A1 L c1) L ys) ∧ Hid (Own wr w3.heap.size 5 1 (.slice A2 L c2) L (cel o.b)) ∧ Hid (Box wr (w.heap.size + 1 + 1) 79 #[.slice A2 L c2, .slice none 0 0, .int .i64 0, .string ⟨#[]⟩, .int .i64 (E : Int)]) ∧ Hid (Box wr (w.heap.size + 1) 79 #[.slice none 0 0, .slice none 0 0, .int .i64 0, .string ⟨#[]⟩, .int .i64 0]) ∧ Hid (Have K w0 wr b F' s1) ∧ Hid (Turns w wr F F')) (fun i _ => L - (intOf i).toNat)
  case atStart => exact ⟨0, _, Nat.zero_le _, rfl, O15, O25, X5, Y5, H5, T5⟩
  case round =>
    clear O15 O25 X5 Y5 H5 T5 O14 O4 O13 O12 O1 H3 T3 X3 Y3 CB2 WR1
    obtain ⟨j, ys, hj, rfl, HO1, HO2, XB, YB, HVR, TR⟩ := hrel
    by_cases hlt : j < L
    · have hji : (j : Int) < (L : Int) := by omega
      have hlen : ys.length = L := by have := HO1.out.1; omega
      obtain ⟨g, rfl, hcc, hff, hgb⟩ := HO1.out.cell (j := j) (by omega)
      obtain ⟨u, hu⟩ : ∃ u, ys[j]? = some u := ⟨_, List.getElem?_eq_getElem (by omega)⟩
      rw [hu] at hcc
      have hg1 := LT3.out g rfl
      have N1 := Lib.hid (HO1.out.store (j := j) (by omega) (.int .u8 237))
      have N2 := Lib.hid (HO2.out.same (fun k hk => Below.heap_setCell wr ⟨g, j, none⟩ (.int .u8 237) k (fun e => by have := (HO2.out.lt k hk).1; simp only at e; omega)))
      have NX := Lib.hid (XB.out.far (p := ⟨g, j, none⟩) (show w.heap.size + 1 + 1 ≠ g by omega) (.int .u8 237))
      have NY := Lib.hid (YB.out.far (p := ⟨g, j, none⟩) (show w.heap.size + 1 ≠ g by omega) (.int .u8 237))
      have NH := Lib.hid (HVR.out.cell_ ⟨g, j, none⟩ (.int .u8 237) (NFG.out g rfl) (by have := LOW.out; show w0.heap.size ≤ g; omega))
      have NT := Lib.hid (TR.out.cell_ ⟨g, j, none⟩ (.int .u8 237) (by show w.heap.size ≤ g; omega))
      clear hu hlen hg1 hgb hlt
      go_wp2_with fail
      go_roundw
      case rel => exact ⟨j + 1, _, by omega, by go_num, N1, N2, NX, NY, NH, NT⟩
      case measure => simp [intOf] <;> omega
    · obtain rfl : L = j := by omega
      have c20 := XB.out.cell 0 rfl
      have c21 := XB.out.cell 1 rfl
      have c22 := XB.out.cell 2 rfl
      have c23 := XB.out.cell 3 rfl
      have c24 := XB.out.cell 4 rfl
      have c10 := YB.out.cell 0 rfl
      have c11 := YB.out.cell 1 rfl
      have c12 := YB.out.cell 2 rfl
      have c13 := YB.out.cell 3 rfl
      have c14 := YB.out.cell 4 rfl
      have f10 := YB.out.frozen 0
      have f11 := YB.out.frozen 1
      have f12 := YB.out.frozen 2
      have f13 := YB.out.frozen 3
      have f14 := YB.out.frozen 4
      clear hlt hj
      go_wp2_with fail
      have ZB : Box ((((((wr).setCell ⟨w.heap.size + 1, 0, none⟩ (.slice A2 L c2)).setCell ⟨w.heap.size + 1, 1, none⟩ (.slice none 0 0)).setCell ⟨w.heap.size + 1, 2, none⟩ (.int .i64 0)).setCell ⟨w.heap.size + 1, 3, none⟩ (.string ⟨#[]⟩)).setCell ⟨w.heap.size + 1, 4, none⟩ (.int .i64 (E : Int))) (w.heap.size + 1) 79 #[.slice A2 L c2, .slice none 0 0, .int .i64 0, .string ⟨#[]⟩, .int .i64 (E : Int)] := by simpa using (((((YB.out.set 0 (.slice A2 L c2)).set 1 (.slice none 0 0)).set 2 (.int .i64 0)).set 3 (.string ⟨#[]⟩)).set 4 (.int .i64 (E : Int)))
      have ZO : Only wr ((((((wr).setCell ⟨w.heap.size + 1, 0, none⟩ (.slice A2 L c2)).setCell ⟨w.heap.size + 1, 1, none⟩ (.slice none 0 0)).setCell ⟨w.heap.size + 1, 2, none⟩ (.int .i64 0)).setCell ⟨w.heap.size + 1, 3, none⟩ (.string ⟨#[]⟩)).setCell ⟨w.heap.size + 1, 4, none⟩ (.int .i64 (E : Int))) (fun i => w.heap.size ≤ i ∧ i < w.heap.size + 3) := only_xt wr (w.heap.size) (w.heap.size + 3) [((⟨w.heap.size + 1, 0, none⟩ : Addr), (.slice A2 L c2 : Value)), ((⟨w.heap.size + 1, 1, none⟩ : Addr), (.slice none 0 0 : Value)), ((⟨w.heap.size + 1, 2, none⟩ : Addr), (.int .i64 0 : Value)), ((⟨w.heap.size + 1, 3, none⟩ : Addr), (.string ⟨#[]⟩ : Value)), ((⟨w.heap.size + 1, 4, none⟩ : Addr), (.int .i64 (E : Int) : Value))] (by simp <;> omega)
      have ZH := (((((HVR.out.cell_ ⟨w.heap.size + 1, 0, none⟩ (.slice A2 L c2) NFY.out LOW.out).cell_ ⟨w.heap.size + 1, 1, none⟩ (.slice none 0 0) NFY.out LOW.out).cell_ ⟨w.heap.size + 1, 2, none⟩ (.int .i64 0) NFY.out LOW.out).cell_ ⟨w.heap.size + 1, 3, none⟩ (.string ⟨#[]⟩) NFY.out LOW.out).cell_ ⟨w.heap.size + 1, 4, none⟩ (.int .i64 (E : Int)) NFY.out LOW.out)
      have ZT := (((((TR.out.cell_ ⟨w.heap.size + 1, 0, none⟩ (.slice A2 L c2) (Nat.le_succ _)).cell_ ⟨w.heap.size + 1, 1, none⟩ (.slice none 0 0) (Nat.le_succ _)).cell_ ⟨w.heap.size + 1, 2, none⟩ (.int .i64 0) (Nat.le_succ _)).cell_ ⟨w.heap.size + 1, 3, none⟩ (.string ⟨#[]⟩) (Nat.le_succ _)).cell_ ⟨w.heap.size + 1, 4, none⟩ (.int .i64 (E : Int)) (Nat.le_succ _))
      generalize (((((wr).setCell ⟨w.heap.size + 1, 0, none⟩ (.slice A2 L c2)).setCell ⟨w.heap.size + 1, 1, none⟩ (.slice none 0 0)).setCell ⟨w.heap.size + 1, 2, none⟩ (.int .i64 0)).setCell ⟨w.heap.size + 1, 3, none⟩ (.string ⟨#[]⟩)).setCell ⟨w.heap.size + 1, 4, none⟩ (.int .i64 (E : Int)) = W4 at *
      have d0 := ZB.cell 0 rfl
      have d1 := ZB.cell 1 rfl
      have d2 := ZB.cell 2 rfl
      have d3 := ZB.cell 3 rfl
      have d4 := ZB.cell 4 rfl
      refine bodyPost_ret (v := .tuple #[.agg #[.slice A2 L c2, .slice none 0 0, .int .i64 0, .string ⟨#[]⟩, .int .i64 (E : Int)], .pointer (some ⟨f, 0, none⟩)]) (by simp [results, Tryz.results36, go_sem, d0, d1, d2, d3, d4]) rfl ?_
      refine ⟨_, _, F', rfl, ?_, by rw [HDO.out]; exact ZH, ZT, (by rw [HDO.out]; exact ⟨f, rfl, (HH.out.1.turn ZT HH.out.2.1).1, (HH.out.1.turn ZT HH.out.2.1).2, HH.out.2.2⟩), .inl rfl⟩
      rw [HDO.out]
      refine ⟨.slice A2 L c2, .slice none 0 0, rfl, ?_, Own.nil _ _ _ _⟩
      show Own W4 w.heap.size 5 1 (.slice A2 L c2) o.b.length (cel o.b)
      rw [← HL.out]
      exact (HO2.out.only_ ZO (fun k hk hs => by have := (HO2.out.lt k hk).1; have := SZ33.out; omega)).base_le (by have := SZ33.out; omega)
set_option maxHeartbeats 16000000 in
theorem does8_writeN {K : DiskOk} (PK : PageOk) {w0 w : World} {b : Nat} {F : Nat → Prop} {s : Ds} (hZ : K.Z w0) (hS : Sizes w0) (h : Have K w0 w b F s) (o : Op8) (ho : Op8Ok w0 o)  (hk : o.kind = 3) :
    Calls Tryz.prog 36 #[.pointer (some ⟨b, 0, none⟩), .pointer none, .agg (op8C o).toArray] w (DoneV8 K w0 w b F s none o (.pointer none)) := by
  have kW : Keeps w (((w.alloc (.cells (op8C o).toArray 85)).alloc (.cells #[.slice none 0 0, .slice none 0 0, .int .i64 0, .string ⟨#[]⟩, .int .i64 0] 79)).alloc (.cells #[.slice none 0 0, .slice none 0 0, .int .i64 0, .string ⟨#[]⟩, .int .i64 0] 79)) := keeps_trans (keeps_trans (keeps_alloc _ _) (keeps_alloc _ _)) (keeps_alloc _ _)
  have hs3 : ((((w.alloc (.cells (op8C o).toArray 85)).alloc (.cells #[.slice none 0 0, .slice none 0 0, .int .i64 0, .string ⟨#[]⟩, .int .i64 0] 79)).alloc (.cells #[.slice none 0 0, .slice none 0 0, .int .i64 0, .string ⟨#[]⟩, .int .i64 0] 79))).heap.size = w.heap.size + 3 := by simp
  have B1 := Lib.hid (box_mid8 w (.cells (op8C o).toArray 85) 79 #[.slice none 0 0, .slice none 0 0, .int .i64 0, .string ⟨#[]⟩, .int .i64 0] (.cells #[.slice none 0 0, .slice none 0 0, .int .i64 0, .string ⟨#[]⟩, .int .i64 0] 79))
  have B2 := Lib.hid (box_third8 w (.cells (op8C o).toArray 85) (.cells #[.slice none 0 0, .slice none 0 0, .int .i64 0, .string ⟨#[]⟩, .int .i64 0] 79) 79 #[.slice none 0 0, .slice none 0 0, .int .i64 0, .string ⟨#[]⟩, .int .i64 0])
  have hw := h.keep kW
  obtain ⟨E, hE⟩ : ∃ E : Nat, E = 2 := ⟨_, rfl⟩
  obtain ⟨s1, hs1⟩ : ∃ s1, s1 = s := ⟨_, rfl⟩
  have HD : doS8 s none o = (s1, none, ⟨o.b, [], 0, [], E⟩) := by unfold doS8; rw [hk, hE, hs1]; rfl
  have HL := Lib.hid ho.len
  have hLb : o.len ≤ maxLen := Nat.le_trans ho.c ho.m
  have CB := Lib.hid (copyBytes_any o.A o.len o.c o.b (((w.alloc (.cells (op8C o).toArray 85)).alloc (.cells #[.slice none 0 0, .slice none 0 0, .int .i64 0, .string ⟨#[]⟩, .int .i64 0] 79)).alloc (.cells #[.slice none 0 0, .slice none 0 0, .int .i64 0, .string ⟨#[]⟩, .int .i64 0] 79)) (ho.b.low (keeps_trans h.kp kW)) HL.out hLb)
  have WR := Lib.hid (fun (V : World) (kk : Keeps (((w.alloc (.cells (op8C o).toArray 85)).alloc (.cells #[.slice none 0 0, .slice none 0 0, .int .i64 0, .string ⟨#[]⟩, .int .i64 0] 79)).alloc (.cells #[.slice none 0 0, .slice none 0 0, .int .i64 0, .string ⟨#[]⟩, .int .i64 0] 79)) V) (A1 : Option Addr) (c1 : Nat) => (nil8_Write o.k A1 o.len c1 V).mono (R' := WentU K w0 V b F s1 E) (fun e w' q => by rw [q.1, hE, hs1]; exact went_keep (hw.keep kk) q.2))
  clear hE hs1
  have OB := Lib.hid (show Box (((w.alloc (.cells (op8C o).toArray 85)).alloc (.cells #[.slice none 0 0, .slice none 0 0, .int .i64 0, .string ⟨#[]⟩, .int .i64 0] 79)).alloc (.cells #[.slice none 0 0, .slice none 0 0, .int .i64 0, .string ⟨#[]⟩, .int .i64 0] 79)) w.heap.size 85 (op8C o).toArray from (Box.new w 85 (op8C o).toArray).keep (keeps_trans (keeps_alloc _ _) (keeps_alloc _ _)))
  have HF := Lib.hid (fun i (hi : F i) => K.lt h.D i hi)
  have LOW := Lib.hid (show w0.heap.size ≤ w.heap.size + 1 from Nat.le_trans h.kp.size (Nat.le_succ _))
  have HS3 := Lib.hid hs3
  have KW := Lib.hid kW
  have HDO := Lib.hid HD
  unfold op8C opC strV at *
  rw [hk] at *
  unfold maxLen at hLb
  clear h hw hs3 ho hZ HD kW hS
  simp only [List.cons_append, List.nil_append] at *
  generalize hL : o.len = L at *
  clear hL
  go_enter Tryz.func36, Tryz.ntmps36
  go_wp2_with fail
  refine CB.out.mono ?_
  rintro e w1 ⟨v1, rfl, o1, k1⟩
  rw [← HL.out] at o1
  obtain ⟨A1, c1, rfl, hc1, -⟩ := o1.form
  have WR1 := Lib.hid (WR.out _ k1 A1 c1)
  have O1 := Lib.hid (o1.base_le (base' := w.heap.size + 3) (by rw [HS3.out]; exact Nat.le_refl _))
  have K1 := Lib.hid k1
  have z2 := (OB.out.keep k1).cell 2 rfl
  clear o1 k1 hc1 CB WR
  go_wp2_with fail
  refine WR1.out.mono ?_
  rintro e w2 ⟨rfl, F', h2, t2⟩
  have SZ1 := Lib.hid (show w.heap.size + 3 ≤ w1.heap.size by rw [← HS3.out]; exact K1.out.size)
  have SZ2 := Lib.hid (show w.heap.size + 3 ≤ w2.heap.size from Nat.le_trans SZ1.out t2.only.size)
  have nX : ¬ F (w.heap.size + 1 + 1) := fun e => by have := HF.out _ e; omega
  have nY : ¬ F (w.heap.size + 1) := fun e => by have := HF.out _ e; omega
  have X2 := (B2.out.keep K1.out).turned t2 nX
  have Y2 := (B1.out.keep K1.out).turned t2 nY
  have NFX := Lib.hid (t2.notIn (show w.heap.size + 1 + 1 < w1.heap.size by have := SZ1.out; omega) nX)
  have NFY := Lib.hid (t2.notIn (show w.heap.size + 1 < w1.heap.size by have := SZ1.out; omega) nY)
  have nG : ∀ g, (Value.slice A1 L c1).ownBlock = some g → ¬ F g := fun g hg e => by have h1 := (O1.out.lt g hg).1; have h2 := HF.out _ e; omega
  have NFG := Lib.hid (show ∀ g, (Value.slice A1 L c1).ownBlock = some g → ¬ F' g from fun g hg => t2.notIn (O1.out.lt g hg).2 (nG g hg))
  have LT1 := Lib.hid (show ∀ g, (Value.slice A1 L c1).ownBlock = some g → g < w2.heap.size from fun g hg => Nat.lt_of_lt_of_le (O1.out.lt g hg).2 t2.only.size)
  have O12 := Lib.hid (O1.out.turns t2 nG)
  have c20 := X2.cell 0 rfl
  have c21 := X2.cell 1 rfl
  have c22 := X2.cell 2 rfl
  have c23 := X2.cell 3 rfl
  have c24 := X2.cell 4 rfl
  have f20 := X2.frozen 0
  have f24 := X2.frozen 4
  have X3 := Lib.hid (show Box (w2.setCell ⟨w.heap.size + 1 + 1, 4, none⟩ (.int .i64 (E : Int))) (w.heap.size + 1 + 1) 79 #[.slice none 0 0, .slice none 0 0, .int .i64 0, .string ⟨#[]⟩, .int .i64 (E : Int)] by simpa using X2.set 4 (.int .i64 (E : Int)))
  have Y3 := Lib.hid (Y2.far (p := ⟨w.heap.size + 1 + 1, 4, none⟩) (show w.heap.size + 1 ≠ w.heap.size + 1 + 1 by omega) (.int .i64 (E : Int)))
  have O13 := Lib.hid (O12.out.same (fun k hk => Below.heap_setCell w2 ⟨w.heap.size + 1 + 1, 4, none⟩ (.int .i64 (E : Int)) k (fun e => by have := (O12.out.lt k hk).1; simp only at e; omega)))
  have H3 := Lib.hid (h2.cell_ ⟨w.heap.size + 1 + 1, 4, none⟩ (.int .i64 (E : Int)) NFX.out (Nat.le_succ_of_le LOW.out))
  have T3 := Lib.hid (((Turns.of_keeps (keeps_trans KW.out K1.out)).trans t2).cell_ ⟨w.heap.size + 1 + 1, 4, none⟩ (.int .i64 (E : Int)) (by show w.heap.size ≤ w.heap.size + 1 + 1; omega))
  have CB2 := Lib.hid (copyBytes_any A1 L c1 o.b (w2.setCell ⟨w.heap.size + 1 + 1, 4, none⟩ (.int .i64 (E : Int))) O13.out.at_ HL.out (by unfold maxLen; omega))
  have SZ3 := Lib.hid (show w2.heap.size ≤ (w2.setCell ⟨w.heap.size + 1 + 1, 4, none⟩ (.int .i64 (E : Int))).heap.size by simp)
  clear h2 t2 nX nY nG X2 Y2 z2
  go_wp2_with fail
  generalize w2.setCell ⟨w.heap.size + 1 + 1, 4, none⟩ (.int .i64 (E : Int)) = w3 at *
  refine CB2.out.mono ?_
  rintro e w4 ⟨v4, rfl, o4, k4⟩
  rw [← HL.out] at o4
  obtain ⟨A2, c2, rfl, -⟩ := o4.form
  have X4 := X3.out.keep k4
  have Y4 := Y3.out.keep k4
  clear c20 c21 c22 c23 c24 f20 f24
  have c20 := X4.cell 0 rfl
  have c21 := X4.cell 1 rfl
  have c22 := X4.cell 2 rfl
  have c23 := X4.cell 3 rfl
  have c24 := X4.cell 4 rfl
  have f20 := X4.frozen 0
  have O14 := Lib.hid (O13.out.keep k4)
  have SZ33 := Lib.hid (show w.heap.size + 3 ≤ w3.heap.size from Nat.le_trans SZ2.out SZ3.out)
  have O4 := Lib.hid o4
  have X5 := Lib.hid (show Box (w4.setCell ⟨w.heap.size + 1 + 1, 0, none⟩ (.slice A2 L c2)) (w.heap.size + 1 + 1) 79 #[.slice A2 L c2, .slice none 0 0, .int .i64 0, .string ⟨#[]⟩, .int .i64 (E : Int)] by simpa using X4.set 0 (.slice A2 L c2))
  have Y5 := Lib.hid (Y4.far (p := ⟨w.heap.size + 1 + 1, 0, none⟩) (show w.heap.size + 1 ≠ w.heap.size + 1 + 1 by omega) (.slice A2 L c2))
  have O15 := Lib.hid (O14.out.same (fun k hk => Below.heap_setCell w4 ⟨w.heap.size + 1 + 1, 0, none⟩ (.slice A2 L c2) k (fun e => by have := (O14.out.lt k hk).1; simp only at e; omega)))
  have O25 := Lib.hid (O4.out.same (fun k hk => Below.heap_setCell w4 ⟨w.heap.size + 1 + 1, 0, none⟩ (.slice A2 L c2) k (fun e => by have := (O4.out.lt k hk).1; have := SZ33.out; simp only at e; omega)))
  have H5 := Lib.hid ((H3.out.keep k4).cell_ ⟨w.heap.size + 1 + 1, 0, none⟩ (.slice A2 L c2) NFX.out (Nat.le_succ_of_le LOW.out))
  have T5 := Lib.hid ((T3.out.trans (Turns.of_keeps k4)).cell_ ⟨w.heap.size + 1 + 1, 0, none⟩ (.slice A2 L c2) (by show w.heap.size ≤ w.heap.size + 1 + 1; omega))
  have LT3 := Lib.hid (show ∀ g, (Value.slice A1 L c1).ownBlock = some g → g < w3.heap.size from fun g hg => Nat.lt_of_lt_of_le (LT1.out g hg) SZ3.out)
  clear o4 k4 X4 Y4
  go_wp2_with fail
  go_loopw [17] (fun i wr => ∃ (j : Nat) (ys : List Value), j ≤ L ∧ i = .int .i64 j ∧ Hid (Own wr (w.heap.size + 3) 5 1 (.slice A1 L c1) L ys) ∧ Hid (Own wr w3.heap.size 5 1 (.slice A2 L c2) L (cel o.b)) ∧ Hid (Box wr (w.heap.size + 1 + 1) 79 #[.slice A2 L c2, .slice none 0 0, .int .i64 0, .string ⟨#[]⟩, .int .i64 (E : Int)]) ∧ Hid (Box wr (w.heap.size + 1) 79 #[.slice none 0 0, .slice none 0 0, .int .i64 0, .string ⟨#[]⟩, .int .i64 0]) ∧ Hid (Have K w0 wr b F' s1) ∧ Hid (Turns w wr F F')) (fun i _ => L - (intOf i).toNat)
  case atStart => exact ⟨0, _, Nat.zero_le _, rfl, O15, O25, X5, Y5, H5, T5⟩
  case round =>
    clear O15 O25 X5 Y5 H5 T5 O14 O4 O13 O12 O1 H3 T3 X3 Y3 CB2 WR1
    obtain ⟨j, ys, hj, rfl, HO1, HO2, XB, YB, HVR, TR⟩ := hrel
    by_cases hlt : j < L
    · have hji : (j : Int) < (L : Int) := by omega
      have hlen : ys.length = L := by have := HO1.out.1; omega
      obtain ⟨g, rfl, hcc, hff, hgb⟩ := HO1.out.cell (j := j) (by omega)
      obtain ⟨u, hu⟩ : ∃ u, ys[j]? = some u := ⟨_, List.getElem?_eq_getElem (by omega)⟩
      rw [hu] at hcc
      have hg1 := LT3.out g rfl
      have N1 := Lib.hid (HO1.out.store (j := j) (by omega) (.int .u8 237))
      have N2 := Lib.hid (HO2.out.same (fun k hk => Below.heap_setCell wr ⟨g, j, none⟩ (.int .u8 237) k (fun e => by have := (HO2.out.lt k hk).1; simp only at e; omega)))
      have NX := Lib.hid (XB.out.far (p := ⟨g, j, none⟩) (show w.heap.size + 1 + 1 ≠ g by omega) (.int .u8 237))
      have NY := Lib.hid (YB.out.far (p := ⟨g, j, none⟩) (show w.heap.size + 1 ≠ g by omega) (.int .u8 237))
      have NH := Lib.hid (HVR.out.cell_ ⟨g, j, none⟩ (.int .u8 237) (NFG.out g rfl) (by have := LOW.out; show w0.heap.size ≤ g; omega))
      have NT := Lib.hid (TR.out.cell_ ⟨g, j, none⟩ (.int .u8 237) (by show w.heap.size ≤ g; omega))
      clear hu hlen hg1 hgb hlt
      go_wp2_with fail
      go_roundw
      case rel => exact ⟨j + 1, _, by omega, by go_num, N1, N2, NX, NY, NH, NT⟩
      case measure => simp [intOf] <;> omega
    · obtain rfl : L = j := by omega
      have c20 := XB.out.cell 0 rfl
      have c21 := XB.out.cell 1 rfl
      have c22 := XB.out.cell 2 rfl
      have c23 := XB.out.cell 3 rfl
      have c24 := XB.out.cell 4 rfl
      have c10 := YB.out.cell 0 rfl
      have c11 := YB.out.cell 1 rfl
      have c12 := YB.out.cell 2 rfl
      have c13 := YB.out.cell 3 rfl
      have c14 := YB.out.cell 4 rfl
      have f10 := YB.out.frozen 0
      have f11 := YB.out.frozen 1
      have f12 := YB.out.frozen 2
      have f13 := YB.out.frozen 3
      have f14 := YB.out.frozen 4
      clear hlt hj
      go_wp2_with fail
      have ZB : Box ((((((wr).setCell ⟨w.heap.size + 1, 0, none⟩ (.slice A2 L c2)).setCell ⟨w.heap.size + 1, 1, none⟩ (.slice none 0 0)).setCell ⟨w.heap.size + 1, 2, none⟩ (.int .i64 0)).setCell ⟨w.heap.size + 1, 3, none⟩ (.string ⟨#[]⟩)).setCell ⟨w.heap.size + 1, 4, none⟩ (.int .i64 (E : Int))) (w.heap.size + 1) 79 #[.slice A2 L c2, .slice none 0 0, .int .i64 0, .string ⟨#[]⟩, .int .i64 (E : Int)] := by simpa using (((((YB.out.set 0 (.slice A2 L c2)).set 1 (.slice none 0 0)).set 2 (.int .i64 0)).set 3 (.string ⟨#[]⟩)).set 4 (.int .i64 (E : Int)))
      have ZO : Only wr ((((((wr).setCell ⟨w.heap.size + 1, 0, none⟩ (.slice A2 L c2)).setCell ⟨w.heap.size + 1, 1, none⟩ (.slice none 0 0)).setCell ⟨w.heap.size + 1, 2, none⟩ (.int .i64 0)).setCell ⟨w.heap.size + 1, 3, none⟩ (.string ⟨#[]⟩)).setCell ⟨w.heap.size + 1, 4, none⟩ (.int .i64 (E : Int))) (fun i => w.heap.size ≤ i ∧ i < w.heap.size + 3) := only_xt wr (w.heap.size) (w.heap.size + 3) [((⟨w.heap.size + 1, 0, none⟩ : Addr), (.slice A2 L c2 : Value)), ((⟨w.heap.size + 1, 1, none⟩ : Addr), (.slice none 0 0 : Value)), ((⟨w.heap.size + 1, 2, none⟩ : Addr), (.int .i64 0 : Value)), ((⟨w.heap.size + 1, 3, none⟩ : Addr), (.string ⟨#[]⟩ : Value)), ((⟨w.heap.size + 1, 4, none⟩ : Addr), (.int .i64 (E : Int) : Value))] (by simp <;> omega)
      have ZH := (((((HVR.out.cell_ ⟨w.heap.size + 1, 0, none⟩ (.slice A2 L c2) NFY.out LOW.out).cell_ ⟨w.heap.size + 1, 1, none⟩ (.slice none 0 0) NFY.out LOW.out).cell_ ⟨w.heap.size + 1, 2, none⟩ (.int .i64 0) NFY.out LOW.out).cell_ ⟨w.heap.size + 1, 3, none⟩ (.string ⟨#[]⟩) NFY.out LOW.out).cell_ ⟨w.heap.size + 1, 4, none⟩ (.int .i64 (E : Int)) NFY.out LOW.out)
      have ZT := (((((TR.out.cell_ ⟨w.heap.size + 1, 0, none⟩ (.slice A2 L c2) (Nat.le_succ _)).cell_ ⟨w.heap.size + 1, 1, none⟩ (.slice none 0 0) (Nat.le_succ _)).cell_ ⟨w.heap.size + 1, 2, none⟩ (.int .i64 0) (Nat.le_succ _)).cell_ ⟨w.heap.size + 1, 3, none⟩ (.string ⟨#[]⟩) (Nat.le_succ _)).cell_ ⟨w.heap.size + 1, 4, none⟩ (.int .i64 (E : Int)) (Nat.le_succ _))
      generalize (((((wr).setCell ⟨w.heap.size + 1, 0, none⟩ (.slice A2 L c2)).setCell ⟨w.heap.size + 1, 1, none⟩ (.slice none 0 0)).setCell ⟨w.heap.size + 1, 2, none⟩ (.int .i64 0)).setCell ⟨w.heap.size + 1, 3, none⟩ (.string ⟨#[]⟩)).setCell ⟨w.heap.size + 1, 4, none⟩ (.int .i64 (E : Int)) = W4 at *
      have d0 := ZB.cell 0 rfl
      have d1 := ZB.cell 1 rfl
      have d2 := ZB.cell 2 rfl
      have d3 := ZB.cell 3 rfl
      have d4 := ZB.cell 4 rfl
      refine bodyPost_ret (v := .tuple #[.agg #[.slice A2 L c2, .slice none 0 0, .int .i64 0, .string ⟨#[]⟩, .int .i64 (E : Int)], .pointer none]) (by simp [results, Tryz.results36, go_sem, d0, d1, d2, d3, d4]) rfl ?_
      refine ⟨_, _, F', rfl, ?_, by rw [HDO.out]; exact ZH, ZT, (by rw [HDO.out]; rfl), .inl rfl⟩
      rw [HDO.out]
      refine ⟨.slice A2 L c2, .slice none 0 0, rfl, ?_, Own.nil _ _ _ _⟩
      show Own W4 w.heap.size 5 1 (.slice A2 L c2) o.b.length (cel o.b)
      rw [← HL.out]
      exact (HO2.out.only_ ZO (fun k hk hs => by have := (HO2.out.lt k hk).1; have := SZ33.out; omega)).base_le (by have := SZ33.out; omega)
set_option maxHeartbeats 8000000 in
theorem does8_other {K : DiskOk} {w0 w : World} {b : Nat} {F : Nat → Prop} {s : Ds} (h : Have K w0 w b F s) (o : Op8) {g : Option (List UInt8)} {fv : Value} (hg : HeldAt w b F g fv) (hk : ¬ (0 ≤ o.kind ∧ o.kind ≤ 7)) :
    Calls Tryz.prog 36 #[.pointer (some ⟨b, 0, none⟩), fv, .agg (op8C o).toArray] w (DoneV8 K w0 w b F s g o fv) := by
  have kW : Keeps w (((w.alloc (.cells (op8C o).toArray 85)).alloc (.cells #[.slice none 0 0, .slice none 0 0, .int .i64 0, .string ⟨#[]⟩, .int .i64 0] 79)).alloc (.cells #[.slice none 0 0, .slice none 0 0, .int .i64 0, .string ⟨#[]⟩, .int .i64 0] 79)) := keeps_trans (keeps_trans (keeps_alloc _ _) (keeps_alloc _ _)) (keeps_alloc _ _)
  have B1 := box_mid8 w (.cells (op8C o).toArray 85) 79 #[.slice none 0 0, .slice none 0 0, .int .i64 0, .string ⟨#[]⟩, .int .i64 0] (.cells #[.slice none 0 0, .slice none 0 0, .int .i64 0, .string ⟨#[]⟩, .int .i64 0] 79)
  have HD : doS8 s g o = (s, g, ⟨[], [], 0, [], 0⟩) := by
    unfold doS8
    rw [if_neg (by omega), if_neg (by omega), if_neg (by omega), if_neg (by omega), if_neg (by omega), if_neg (by omega), if_neg (by omega), if_neg (by omega)]
  have HDO := Lib.hid HD
  have HK := Lib.hid h
  have HG := Lib.hid hg
  have KW := Lib.hid kW
  have YB := Lib.hid B1
  have e0 : (o.kind == 0) = false := by rw [beq_eq_false_iff_ne]; omega
  have e1 : (o.kind == 1) = false := by rw [beq_eq_false_iff_ne]; omega
  have e2 : (o.kind == 2) = false := by rw [beq_eq_false_iff_ne]; omega
  have e3 : (o.kind == 3) = false := by rw [beq_eq_false_iff_ne]; omega
  have e4 : (o.kind == 4) = false := by rw [beq_eq_false_iff_ne]; omega
  have e5 : (o.kind == 5) = false := by rw [beq_eq_false_iff_ne]; omega
  have e6 : (o.kind == 6) = false := by rw [beq_eq_false_iff_ne]; omega
  have e7 : (o.kind == 7) = false := by rw [beq_eq_false_iff_ne]; omega
  unfold op8C opC strV at *
  clear h hg HD B1 kW hk
  simp only [List.cons_append, List.nil_append] at *
  go_enter Tryz.func36, Tryz.ntmps36
  go_wp2_with fail
  have d0 := YB.out.cell 0 rfl
  have d1 := YB.out.cell 1 rfl
  have d2 := YB.out.cell 2 rfl
  have d3 := YB.out.cell 3 rfl
  have d4 := YB.out.cell 4 rfl
  refine bodyPost_ret (v := .tuple #[.agg #[.slice none 0 0, .slice none 0 0, .int .i64 0, .string ⟨#[]⟩, .int .i64 0], fv]) (by simp [results, Tryz.results36, go_sem, d0, d1, d2, d3, d4]) rfl ?_
  refine ⟨_, _, F, rfl, ?_, by rw [HDO.out]; exact HK.out.keep KW.out, Turns.of_keeps KW.out, (by rw [HDO.out]; exact HG.out.keep KW.out), .inl rfl⟩
  rw [HDO.out]
  exact ⟨.slice none 0 0, .slice none 0 0, rfl, Own.nil _ _ _ _, Own.nil _ _ _ _⟩
theorem does8_any {K : DiskOk} (PK : PageOk) {w0 w : World} {b : Nat} {F : Nat → Prop} {s : Ds} (hZ : K.Z w0) (hS : Sizes w0) (h : Have K w0 w b F s) (o : Op8) (ho : Op8Ok w0 o) {g : Option (List UInt8)} {fv : Value} (hg : HeldAt w b F g fv) (hnm : o.name.length ≤ 70000) (hm : o.d.len ≤ 70000) (hm2 : o.d.len2 ≤ 70000) :
    Calls Tryz.prog 36 #[.pointer (some ⟨b, 0, none⟩), fv, .agg (op8C o).toArray] w (DoneV8 K w0 w b F s g o fv) := by
  by_cases h0 : o.kind = 0
  · by_cases e : (createS s o.name).2 = 0
    · exact does8_createY hZ h o ho fv g hnm e h0
    · exact does8_createN hZ h o ho fv g hnm e h0
  by_cases h1 : o.kind = 1
  · by_cases e : openE s o.name = 0
    · exact does8_openY hZ h o ho fv g hnm e h1
    · exact does8_openN hZ h o ho fv g hnm e h1
  by_cases h6 : o.kind = 6
  · exact does8_bad hZ h o ho PK hS hg hnm h6
  by_cases h7 : o.kind = 7
  · exact does8_raw hZ h o ho hg hm hm2 h7
  by_cases h8 : 0 ≤ o.kind ∧ o.kind ≤ 7
  · cases g with
    | none =>
      obtain rfl : fv = .pointer none := hg
      by_cases h2 : o.kind = 2
      · exact does8_readN PK hZ hS h o ho h2
      by_cases h3 : o.kind = 3
      · exact does8_writeN PK hZ hS h o ho h3
      by_cases h4 : o.kind = 4
      · exact does8_syncN hZ h o ho h4
      · exact does8_pagesN hZ h o ho (by omega)
    | some nm =>
      obtain ⟨f, rfl, hf, hnf, hn⟩ := hg
      by_cases h2 : o.kind = 2
      · exact does8_readY PK hZ hS h o ho hf hnf hn h2
      by_cases h3 : o.kind = 3
      · exact does8_writeY PK hZ hS h o ho hf hnf hn h3
      by_cases h4 : o.kind = 4
      · exact does8_sync hZ h o ho hf hnf hn h4
      · exact does8_pages hZ h o ho hf hnf hn (by omega)
  · exact does8_other h o hg h8
end Go.Proofs.YtkhfffflegiapaaGreatDoor
