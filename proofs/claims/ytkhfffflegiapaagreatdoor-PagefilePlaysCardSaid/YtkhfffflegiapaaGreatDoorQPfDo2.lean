/- What milepostlaw08.does does. (Written by mkdo8.py.) -/
import Derived.Test.YtkhfffflegiapaaGreatDoorQDkNil
namespace Go.Proofs.YtkhfffflegiapaaGreatDoor
open Go.RowKit
set_option linter.unusedSimpArgs false
set_option linter.unusedVariables false
set_option maxRecDepth 100000

set_option maxHeartbeats 8000000 in
theorem does8_sync {K : DiskOk} {w0 w : World} {b : Nat} {F : Nat → Prop} {s : Ds} (hZ : K.Z w0) (h : Have K w0 w b F s) (o : Op8) (ho : Op8Ok w0 o) {f : Nat} {nm : List UInt8} (hf : PfAt w f b nm) (hnf : ¬ F f) (hnm : nm.length ≤ 70000) (hk : o.kind = 4) :
    Calls Tryz.prog 36 #[.pointer (some ⟨b, 0, none⟩), .pointer (some ⟨f, 0, none⟩), .agg (op8C o).toArray] w (DoneV8 K w0 w b F s (some nm) o (.pointer (some ⟨f, 0, none⟩))) := by
  have hF := K.lt h.D
  have kW : Keeps w (((w.alloc (.cells (op8C o).toArray 85)).alloc (.cells #[.slice none 0 0, .slice none 0 0, .int .i64 0, .string ⟨#[]⟩, .int .i64 0] 79)).alloc (.cells #[.slice none 0 0, .slice none 0 0, .int .i64 0, .string ⟨#[]⟩, .int .i64 0] 79)) := keeps_trans (keeps_trans (keeps_alloc _ _) (keeps_alloc _ _)) (keeps_alloc _ _)
  have hs3 : (((w.alloc (.cells (op8C o).toArray 85)).alloc (.cells #[.slice none 0 0, .slice none 0 0, .int .i64 0, .string ⟨#[]⟩, .int .i64 0] 79)).alloc (.cells #[.slice none 0 0, .slice none 0 0, .int .i64 0, .string ⟨#[]⟩, .int .i64 0] 79)).heap.size = w.heap.size + 3 := by simp
  have B1 := box_mid8 w (.cells (op8C o).toArray 85) 79 #[.slice none 0 0, .slice none 0 0, .int .i64 0, .string ⟨#[]⟩, .int .i64 0] (.cells #[.slice none 0 0, .slice none 0 0, .int .i64 0, .string ⟨#[]⟩, .int .i64 0] 79)
  have B2 := box_third8 w (.cells (op8C o).toArray 85) (.cells #[.slice none 0 0, .slice none 0 0, .int .i64 0, .string ⟨#[]⟩, .int .i64 0] 79) 79 #[.slice none 0 0, .slice none 0 0, .int .i64 0, .string ⟨#[]⟩, .int .i64 0]
  have hw := h.keep kW
  have HD : doS8 s (some nm) o = ((syncS s nm).1, some nm, ⟨[], [], 0, [], (syncS s nm).2⟩) := by unfold doS8; rw [hk]; rfl
  have C := Lib.hid (pfSync_any hw hZ (hf.keep kW) (by unfold maxLen; omega) (s' := (syncS s nm).1) (E := (syncS s nm).2) rfl)
  have HF := Lib.hid hF
  have HK := Lib.hid h.kp
  have HS3 := Lib.hid hs3
  have KW := Lib.hid kW
  have HH := Lib.hid (And.intro hf (And.intro hnf hnm))
  unfold op8C opC strV at *
  rw [hk] at *
  clear hF h hw hs3 ho hZ
  simp only [List.cons_append, List.nil_append] at *
  go_enter Tryz.func36, Tryz.ntmps36
  go_wp2_with fail
  refine C.out.mono ?_
  rintro e w1 ⟨rfl, F', hD, hT⟩
  have n1 : ¬ F (w.heap.size + 1) := fun e => by have := HF.out _ e; omega
  have n2 : ¬ F (w.heap.size + 1 + 1) := fun e => by have := HF.out _ e; omega
  have X1 := B1.turned hT n1
  have X2 := B2.turned hT n2
  have c10 := X1.cell 0 rfl
  have c11 := X1.cell 1 rfl
  have c12 := X1.cell 2 rfl
  have c13 := X1.cell 3 rfl
  have c14 := X1.cell 4 rfl
  have f10 := X1.frozen 0
  have f11 := X1.frozen 1
  have f12 := X1.frozen 2
  have f13 := X1.frozen 3
  have f14 := X1.frozen 4
  have c20 := X2.cell 0 rfl
  have c21 := X2.cell 1 rfl
  have c22 := X2.cell 2 rfl
  have c23 := X2.cell 3 rfl
  have c24 := X2.cell 4 rfl
  have f24 := X2.frozen 4
  have HDD := Lib.hid hD
  have HT := Lib.hid hT
  have HDO := Lib.hid HD
  clear hD hT B1 B2 X2 n1 n2 HD
  obtain ⟨E, hE⟩ : ∃ E : Int, (((syncS s nm).2 : Nat) : Int) = E := ⟨_, rfl⟩
  rw [hE]
  have HE := Lib.hid hE.symm
  clear hE
  go_wp2_with fail
  have XB : Box (((((((w1).setCell ⟨w.heap.size + 1 + 1, 4, none⟩ (.int .i64 E)).setCell ⟨w.heap.size + 1, 0, none⟩ (.slice none 0 0)).setCell ⟨w.heap.size + 1, 1, none⟩ (.slice none 0 0)).setCell ⟨w.heap.size + 1, 2, none⟩ (.int .i64 0)).setCell ⟨w.heap.size + 1, 3, none⟩ (.string ⟨#[]⟩)).setCell ⟨w.heap.size + 1, 4, none⟩ (.int .i64 E)) (w.heap.size + 1) 79 #[.slice none 0 0, .slice none 0 0, .int .i64 0, .string ⟨#[]⟩, .int .i64 E] := by simpa using ((((((X1.far (p := ⟨w.heap.size + 1 + 1, 4, none⟩) (show w.heap.size + 1 ≠ w.heap.size + 1 + 1 by omega) (.int .i64 E)).set 0 (.slice none 0 0)).set 1 (.slice none 0 0)).set 2 (.int .i64 0)).set 3 (.string ⟨#[]⟩)).set 4 (.int .i64 E))
  have XO : Only w1 (((((((w1).setCell ⟨w.heap.size + 1 + 1, 4, none⟩ (.int .i64 E)).setCell ⟨w.heap.size + 1, 0, none⟩ (.slice none 0 0)).setCell ⟨w.heap.size + 1, 1, none⟩ (.slice none 0 0)).setCell ⟨w.heap.size + 1, 2, none⟩ (.int .i64 0)).setCell ⟨w.heap.size + 1, 3, none⟩ (.string ⟨#[]⟩)).setCell ⟨w.heap.size + 1, 4, none⟩ (.int .i64 E)) (fun i => w.heap.size ≤ i ∧ i < w.heap.size + 3) := only_xt w1 (w.heap.size) (w.heap.size + 3) [((⟨w.heap.size + 1 + 1, 4, none⟩ : Addr), (.int .i64 E : Value)), ((⟨w.heap.size + 1, 0, none⟩ : Addr), (.slice none 0 0 : Value)), ((⟨w.heap.size + 1, 1, none⟩ : Addr), (.slice none 0 0 : Value)), ((⟨w.heap.size + 1, 2, none⟩ : Addr), (.int .i64 0 : Value)), ((⟨w.heap.size + 1, 3, none⟩ : Addr), (.string ⟨#[]⟩ : Value)), ((⟨w.heap.size + 1, 4, none⟩ : Addr), (.int .i64 E : Value))] (by simp <;> omega)
  generalize ((((((w1).setCell ⟨w.heap.size + 1 + 1, 4, none⟩ (.int .i64 E)).setCell ⟨w.heap.size + 1, 0, none⟩ (.slice none 0 0)).setCell ⟨w.heap.size + 1, 1, none⟩ (.slice none 0 0)).setCell ⟨w.heap.size + 1, 2, none⟩ (.int .i64 0)).setCell ⟨w.heap.size + 1, 3, none⟩ (.string ⟨#[]⟩)).setCell ⟨w.heap.size + 1, 4, none⟩ (.int .i64 E) = W4 at *
  have d0 := XB.cell 0 rfl
  have d1 := XB.cell 1 rfl
  have d2 := XB.cell 2 rfl
  have d3 := XB.cell 3 rfl
  have d4 := XB.cell 4 rfl
  refine bodyPost_ret (v := .tuple #[.agg #[.slice none 0 0, .slice none 0 0, .int .i64 0, .string ⟨#[]⟩, .int .i64 E], .pointer (some ⟨f, 0, none⟩)]) (by simp [results, Tryz.results36, go_sem, d0, d1, d2, d3, d4]) rfl ?_
  have hlt := HF.out
  have h4 : Have K w0 W4 b F' ((syncS s nm).1) := ⟨K.same HDD.out.D (fun i hi => XO.block i (K.lt HDD.out.D i hi) (fun hh => by
    rcases HT.out.next i hi with q | q
    · have := hlt i q; omega
    · rw [HS3.out] at q; omega)) XO.size, HDD.out.low, Below.trans HDD.out.kp (XO.below (fun i hi => Nat.le_trans HK.out.size hi.1) (Nat.le_trans HK.out.size (Nat.le_trans KW.out.size HT.out.only.size)))⟩
  have t4 : Turns w W4 F F' := HT.out.wrap KW.out hlt (XO.weak (fun i hi => hi.1))
  exact ⟨_, _, F', rfl, by
    rw [HDO.out]
    exact ⟨.slice none 0 0, .slice none 0 0, by rw [← HE.out]; rfl, Own.nil _ _ _ _, Own.nil _ _ _ _⟩, by rw [HDO.out]; exact h4, t4, (by rw [HDO.out]; exact ⟨f, rfl, (HH.out.1.turn t4 HH.out.2.1).1, (HH.out.1.turn t4 HH.out.2.1).2, HH.out.2.2⟩), .inl rfl⟩

set_option maxHeartbeats 8000000 in
theorem does8_syncN {K : DiskOk} {w0 w : World} {b : Nat} {F : Nat → Prop} {s : Ds} (hZ : K.Z w0) (h : Have K w0 w b F s) (o : Op8) (ho : Op8Ok w0 o)  (hk : o.kind = 4) :
    Calls Tryz.prog 36 #[.pointer (some ⟨b, 0, none⟩), .pointer none, .agg (op8C o).toArray] w (DoneV8 K w0 w b F s none o (.pointer none)) := by
  have hF := K.lt h.D
  have kW : Keeps w (((w.alloc (.cells (op8C o).toArray 85)).alloc (.cells #[.slice none 0 0, .slice none 0 0, .int .i64 0, .string ⟨#[]⟩, .int .i64 0] 79)).alloc (.cells #[.slice none 0 0, .slice none 0 0, .int .i64 0, .string ⟨#[]⟩, .int .i64 0] 79)) := keeps_trans (keeps_trans (keeps_alloc _ _) (keeps_alloc _ _)) (keeps_alloc _ _)
  have hs3 : (((w.alloc (.cells (op8C o).toArray 85)).alloc (.cells #[.slice none 0 0, .slice none 0 0, .int .i64 0, .string ⟨#[]⟩, .int .i64 0] 79)).alloc (.cells #[.slice none 0 0, .slice none 0 0, .int .i64 0, .string ⟨#[]⟩, .int .i64 0] 79)).heap.size = w.heap.size + 3 := by simp
  have B1 := box_mid8 w (.cells (op8C o).toArray 85) 79 #[.slice none 0 0, .slice none 0 0, .int .i64 0, .string ⟨#[]⟩, .int .i64 0] (.cells #[.slice none 0 0, .slice none 0 0, .int .i64 0, .string ⟨#[]⟩, .int .i64 0] 79)
  have B2 := box_third8 w (.cells (op8C o).toArray 85) (.cells #[.slice none 0 0, .slice none 0 0, .int .i64 0, .string ⟨#[]⟩, .int .i64 0] 79) 79 #[.slice none 0 0, .slice none 0 0, .int .i64 0, .string ⟨#[]⟩, .int .i64 0]
  have hw := h.keep kW
  have HD : doS8 s none o = (s, none, ⟨[], [], 0, [], 2⟩) := by unfold doS8; rw [hk]; rfl
  have C := Lib.hid ((nil8_Sync (((w.alloc (.cells (op8C o).toArray 85)).alloc (.cells #[.slice none 0 0, .slice none 0 0, .int .i64 0, .string ⟨#[]⟩, .int .i64 0] 79)).alloc (.cells #[.slice none 0 0, .slice none 0 0, .int .i64 0, .string ⟨#[]⟩, .int .i64 0] 79))).mono (R' := WentU K w0 (((w.alloc (.cells (op8C o).toArray 85)).alloc (.cells #[.slice none 0 0, .slice none 0 0, .int .i64 0, .string ⟨#[]⟩, .int .i64 0] 79)).alloc (.cells #[.slice none 0 0, .slice none 0 0, .int .i64 0, .string ⟨#[]⟩, .int .i64 0] 79)) b F s 2) (fun e w' q => by rw [q.1]; exact went_keep hw q.2))
  have HF := Lib.hid hF
  have HK := Lib.hid h.kp
  have HS3 := Lib.hid hs3
  have KW := Lib.hid kW
  
  unfold op8C opC strV at *
  rw [hk] at *
  clear hF h hw hs3 ho hZ
  simp only [List.cons_append, List.nil_append] at *
  go_enter Tryz.func36, Tryz.ntmps36
  go_wp2_with fail
  refine C.out.mono ?_
  rintro e w1 ⟨rfl, F', hD, hT⟩
  have n1 : ¬ F (w.heap.size + 1) := fun e => by have := HF.out _ e; omega
  have n2 : ¬ F (w.heap.size + 1 + 1) := fun e => by have := HF.out _ e; omega
  have X1 := B1.turned hT n1
  have X2 := B2.turned hT n2
  have c10 := X1.cell 0 rfl
  have c11 := X1.cell 1 rfl
  have c12 := X1.cell 2 rfl
  have c13 := X1.cell 3 rfl
  have c14 := X1.cell 4 rfl
  have f10 := X1.frozen 0
  have f11 := X1.frozen 1
  have f12 := X1.frozen 2
  have f13 := X1.frozen 3
  have f14 := X1.frozen 4
  have c20 := X2.cell 0 rfl
  have c21 := X2.cell 1 rfl
  have c22 := X2.cell 2 rfl
  have c23 := X2.cell 3 rfl
  have c24 := X2.cell 4 rfl
  have f24 := X2.frozen 4
  have HDD := Lib.hid hD
  have HT := Lib.hid hT
  have HDO := Lib.hid HD
  clear hD hT B1 B2 X2 n1 n2 HD
  obtain ⟨E, hE⟩ : ∃ E : Int, (((2 : Nat) : Nat) : Int) = E := ⟨_, rfl⟩
  rw [hE]
  have HE := Lib.hid hE.symm
  clear hE
  go_wp2_with fail
  have XB : Box (((((((w1).setCell ⟨w.heap.size + 1 + 1, 4, none⟩ (.int .i64 E)).setCell ⟨w.heap.size + 1, 0, none⟩ (.slice none 0 0)).setCell ⟨w.heap.size + 1, 1, none⟩ (.slice none 0 0)).setCell ⟨w.heap.size + 1, 2, none⟩ (.int .i64 0)).setCell ⟨w.heap.size + 1, 3, none⟩ (.string ⟨#[]⟩)).setCell ⟨w.heap.size + 1, 4, none⟩ (.int .i64 E)) (w.heap.size + 1) 79 #[.slice none 0 0, .slice none 0 0, .int .i64 0, .string ⟨#[]⟩, .int .i64 E] := by simpa using ((((((X1.far (p := ⟨w.heap.size + 1 + 1, 4, none⟩) (show w.heap.size + 1 ≠ w.heap.size + 1 + 1 by omega) (.int .i64 E)).set 0 (.slice none 0 0)).set 1 (.slice none 0 0)).set 2 (.int .i64 0)).set 3 (.string ⟨#[]⟩)).set 4 (.int .i64 E))
  have XO : Only w1 (((((((w1).setCell ⟨w.heap.size + 1 + 1, 4, none⟩ (.int .i64 E)).setCell ⟨w.heap.size + 1, 0, none⟩ (.slice none 0 0)).setCell ⟨w.heap.size + 1, 1, none⟩ (.slice none 0 0)).setCell ⟨w.heap.size + 1, 2, none⟩ (.int .i64 0)).setCell ⟨w.heap.size + 1, 3, none⟩ (.string ⟨#[]⟩)).setCell ⟨w.heap.size + 1, 4, none⟩ (.int .i64 E)) (fun i => w.heap.size ≤ i ∧ i < w.heap.size + 3) := only_xt w1 (w.heap.size) (w.heap.size + 3) [((⟨w.heap.size + 1 + 1, 4, none⟩ : Addr), (.int .i64 E : Value)), ((⟨w.heap.size + 1, 0, none⟩ : Addr), (.slice none 0 0 : Value)), ((⟨w.heap.size + 1, 1, none⟩ : Addr), (.slice none 0 0 : Value)), ((⟨w.heap.size + 1, 2, none⟩ : Addr), (.int .i64 0 : Value)), ((⟨w.heap.size + 1, 3, none⟩ : Addr), (.string ⟨#[]⟩ : Value)), ((⟨w.heap.size + 1, 4, none⟩ : Addr), (.int .i64 E : Value))] (by simp <;> omega)
  generalize ((((((w1).setCell ⟨w.heap.size + 1 + 1, 4, none⟩ (.int .i64 E)).setCell ⟨w.heap.size + 1, 0, none⟩ (.slice none 0 0)).setCell ⟨w.heap.size + 1, 1, none⟩ (.slice none 0 0)).setCell ⟨w.heap.size + 1, 2, none⟩ (.int .i64 0)).setCell ⟨w.heap.size + 1, 3, none⟩ (.string ⟨#[]⟩)).setCell ⟨w.heap.size + 1, 4, none⟩ (.int .i64 E) = W4 at *
  have d0 := XB.cell 0 rfl
  have d1 := XB.cell 1 rfl
  have d2 := XB.cell 2 rfl
  have d3 := XB.cell 3 rfl
  have d4 := XB.cell 4 rfl
  refine bodyPost_ret (v := .tuple #[.agg #[.slice none 0 0, .slice none 0 0, .int .i64 0, .string ⟨#[]⟩, .int .i64 E], .pointer none]) (by simp [results, Tryz.results36, go_sem, d0, d1, d2, d3, d4]) rfl ?_
  have hlt := HF.out
  have h4 : Have K w0 W4 b F' (s) := ⟨K.same HDD.out.D (fun i hi => XO.block i (K.lt HDD.out.D i hi) (fun hh => by
    rcases HT.out.next i hi with q | q
    · have := hlt i q; omega
    · rw [HS3.out] at q; omega)) XO.size, HDD.out.low, Below.trans HDD.out.kp (XO.below (fun i hi => Nat.le_trans HK.out.size hi.1) (Nat.le_trans HK.out.size (Nat.le_trans KW.out.size HT.out.only.size)))⟩
  have t4 : Turns w W4 F F' := HT.out.wrap KW.out hlt (XO.weak (fun i hi => hi.1))
  exact ⟨_, _, F', rfl, by
    rw [HDO.out]
    exact ⟨.slice none 0 0, .slice none 0 0, by rw [← HE.out]; rfl, Own.nil _ _ _ _, Own.nil _ _ _ _⟩, by rw [HDO.out]; exact h4, t4, (by rw [HDO.out]; rfl), .inl rfl⟩

set_option maxHeartbeats 8000000 in
theorem does8_raw {K : DiskOk} {w0 w : World} {b : Nat} {F : Nat → Prop} {s : Ds} (hZ : K.Z w0) (h : Have K w0 w b F s) (o : Op8) (ho : Op8Ok w0 o) {g : Option (List UInt8)} {fv : Value} (hg : HeldAt w b F g fv) (hm : o.d.len ≤ 70000) (hm2 : o.d.len2 ≤ 70000) (hk : o.kind = 7) :
    Calls Tryz.prog 36 #[.pointer (some ⟨b, 0, none⟩), fv, .agg (op8C o).toArray] w (DoneV8 K w0 w b F s g o (fv)) := by
  have hF := K.lt h.D
  have kW : Keeps w (((w.alloc (.cells (op8C o).toArray 85)).alloc (.cells #[.slice none 0 0, .slice none 0 0, .int .i64 0, .string ⟨#[]⟩, .int .i64 0] 79)).alloc (.cells #[.slice none 0 0, .slice none 0 0, .int .i64 0, .string ⟨#[]⟩, .int .i64 0] 79)) := keeps_trans (keeps_trans (keeps_alloc _ _) (keeps_alloc _ _)) (keeps_alloc _ _)
  have hs3 : (((w.alloc (.cells (op8C o).toArray 85)).alloc (.cells #[.slice none 0 0, .slice none 0 0, .int .i64 0, .string ⟨#[]⟩, .int .i64 0] 79)).alloc (.cells #[.slice none 0 0, .slice none 0 0, .int .i64 0, .string ⟨#[]⟩, .int .i64 0] 79)).heap.size = w.heap.size + 3 := by simp
  have B1 := box_mid8 w (.cells (op8C o).toArray 85) 79 #[.slice none 0 0, .slice none 0 0, .int .i64 0, .string ⟨#[]⟩, .int .i64 0] (.cells #[.slice none 0 0, .slice none 0 0, .int .i64 0, .string ⟨#[]⟩, .int .i64 0] 79)
  have B2 := box_third8 w (.cells (op8C o).toArray 85) (.cells #[.slice none 0 0, .slice none 0 0, .int .i64 0, .string ⟨#[]⟩, .int .i64 0] 79) 79 #[.slice none 0 0, .slice none 0 0, .int .i64 0, .string ⟨#[]⟩, .int .i64 0]
  have hw := h.keep kW
  have HD : doS8 s g o = ((rawS s o.d.x).1, g, ⟨[], [], 0, [], (rawS s o.d.x).2⟩) := by unfold doS8; rw [hk]; rfl
  have C := Lib.hid (raw_any hw hZ o.d ho.d hm hm2)
  have HF := Lib.hid hF
  have HK := Lib.hid h.kp
  have HS3 := Lib.hid hs3
  have KW := Lib.hid kW
  have HH := Lib.hid hg
  unfold opA at C
  unfold op8C opC strV at *
  rw [hk] at *
  clear hF h hw hs3 ho hZ
  simp only [List.cons_append, List.nil_append] at *
  go_enter Tryz.func36, Tryz.ntmps36
  go_wp2_with fail
  refine C.out.mono ?_
  rintro e w1 ⟨rfl, F', hD, hT⟩
  have n1 : ¬ F (w.heap.size + 1) := fun e => by have := HF.out _ e; omega
  have n2 : ¬ F (w.heap.size + 1 + 1) := fun e => by have := HF.out _ e; omega
  have X1 := B1.turned hT n1
  have X2 := B2.turned hT n2
  have c10 := X1.cell 0 rfl
  have c11 := X1.cell 1 rfl
  have c12 := X1.cell 2 rfl
  have c13 := X1.cell 3 rfl
  have c14 := X1.cell 4 rfl
  have f10 := X1.frozen 0
  have f11 := X1.frozen 1
  have f12 := X1.frozen 2
  have f13 := X1.frozen 3
  have f14 := X1.frozen 4
  have c20 := X2.cell 0 rfl
  have c21 := X2.cell 1 rfl
  have c22 := X2.cell 2 rfl
  have c23 := X2.cell 3 rfl
  have c24 := X2.cell 4 rfl
  have f24 := X2.frozen 4
  have HDD := Lib.hid hD
  have HT := Lib.hid hT
  have HDO := Lib.hid HD
  clear hD hT B1 B2 X2 n1 n2 HD
  obtain ⟨E, hE⟩ : ∃ E : Int, (((rawS s o.d.x).2 : Nat) : Int) = E := ⟨_, rfl⟩
  rw [hE]
  have HE := Lib.hid hE.symm
  clear hE
  go_wp2_with fail
  have XB : Box (((((((w1).setCell ⟨w.heap.size + 1 + 1, 4, none⟩ (.int .i64 E)).setCell ⟨w.heap.size + 1, 0, none⟩ (.slice none 0 0)).setCell ⟨w.heap.size + 1, 1, none⟩ (.slice none 0 0)).setCell ⟨w.heap.size + 1, 2, none⟩ (.int .i64 0)).setCell ⟨w.heap.size + 1, 3, none⟩ (.string ⟨#[]⟩)).setCell ⟨w.heap.size + 1, 4, none⟩ (.int .i64 E)) (w.heap.size + 1) 79 #[.slice none 0 0, .slice none 0 0, .int .i64 0, .string ⟨#[]⟩, .int .i64 E] := by simpa using ((((((X1.far (p := ⟨w.heap.size + 1 + 1, 4, none⟩) (show w.heap.size + 1 ≠ w.heap.size + 1 + 1 by omega) (.int .i64 E)).set 0 (.slice none 0 0)).set 1 (.slice none 0 0)).set 2 (.int .i64 0)).set 3 (.string ⟨#[]⟩)).set 4 (.int .i64 E))
  have XO : Only w1 (((((((w1).setCell ⟨w.heap.size + 1 + 1, 4, none⟩ (.int .i64 E)).setCell ⟨w.heap.size + 1, 0, none⟩ (.slice none 0 0)).setCell ⟨w.heap.size + 1, 1, none⟩ (.slice none 0 0)).setCell ⟨w.heap.size + 1, 2, none⟩ (.int .i64 0)).setCell ⟨w.heap.size + 1, 3, none⟩ (.string ⟨#[]⟩)).setCell ⟨w.heap.size + 1, 4, none⟩ (.int .i64 E)) (fun i => w.heap.size ≤ i ∧ i < w.heap.size + 3) := only_xt w1 (w.heap.size) (w.heap.size + 3) [((⟨w.heap.size + 1 + 1, 4, none⟩ : Addr), (.int .i64 E : Value)), ((⟨w.heap.size + 1, 0, none⟩ : Addr), (.slice none 0 0 : Value)), ((⟨w.heap.size + 1, 1, none⟩ : Addr), (.slice none 0 0 : Value)), ((⟨w.heap.size + 1, 2, none⟩ : Addr), (.int .i64 0 : Value)), ((⟨w.heap.size + 1, 3, none⟩ : Addr), (.string ⟨#[]⟩ : Value)), ((⟨w.heap.size + 1, 4, none⟩ : Addr), (.int .i64 E : Value))] (by simp <;> omega)
  generalize ((((((w1).setCell ⟨w.heap.size + 1 + 1, 4, none⟩ (.int .i64 E)).setCell ⟨w.heap.size + 1, 0, none⟩ (.slice none 0 0)).setCell ⟨w.heap.size + 1, 1, none⟩ (.slice none 0 0)).setCell ⟨w.heap.size + 1, 2, none⟩ (.int .i64 0)).setCell ⟨w.heap.size + 1, 3, none⟩ (.string ⟨#[]⟩)).setCell ⟨w.heap.size + 1, 4, none⟩ (.int .i64 E) = W4 at *
  have d0 := XB.cell 0 rfl
  have d1 := XB.cell 1 rfl
  have d2 := XB.cell 2 rfl
  have d3 := XB.cell 3 rfl
  have d4 := XB.cell 4 rfl
  refine bodyPost_ret (v := .tuple #[.agg #[.slice none 0 0, .slice none 0 0, .int .i64 0, .string ⟨#[]⟩, .int .i64 E], fv]) (by simp [results, Tryz.results36, go_sem, d0, d1, d2, d3, d4]) rfl ?_
  have hlt := HF.out
  have h4 : Have K w0 W4 b F' ((rawS s o.d.x).1) := ⟨K.same HDD.out.D (fun i hi => XO.block i (K.lt HDD.out.D i hi) (fun hh => by
    rcases HT.out.next i hi with q | q
    · have := hlt i q; omega
    · rw [HS3.out] at q; omega)) XO.size, HDD.out.low, Below.trans HDD.out.kp (XO.below (fun i hi => Nat.le_trans HK.out.size hi.1) (Nat.le_trans HK.out.size (Nat.le_trans KW.out.size HT.out.only.size)))⟩
  have t4 : Turns w W4 F F' := HT.out.wrap KW.out hlt (XO.weak (fun i hi => hi.1))
  exact ⟨_, _, F', rfl, by
    rw [HDO.out]
    exact ⟨.slice none 0 0, .slice none 0 0, by rw [← HE.out]; rfl, Own.nil _ _ _ _, Own.nil _ _ _ _⟩, by rw [HDO.out]; exact h4, t4, (by rw [HDO.out]; exact HH.out.turn t4), .inl rfl⟩

set_option maxHeartbeats 8000000 in
theorem does8_pages {K : DiskOk} {w0 w : World} {b : Nat} {F : Nat → Prop} {s : Ds} (hZ : K.Z w0) (h : Have K w0 w b F s) (o : Op8) (ho : Op8Ok w0 o) {f : Nat} {nm : List UInt8} (hf : PfAt w f b nm) (hnf : ¬ F f) (hnm : nm.length ≤ 70000) (hk : o.kind = 5) :
    Calls Tryz.prog 36 #[.pointer (some ⟨b, 0, none⟩), .pointer (some ⟨f, 0, none⟩), .agg (op8C o).toArray] w (DoneV8 K w0 w b F s (some nm) o (.pointer (some ⟨f, 0, none⟩))) := by
  have hF := K.lt h.D
  have kW : Keeps w (((w.alloc (.cells (op8C o).toArray 85)).alloc (.cells #[.slice none 0 0, .slice none 0 0, .int .i64 0, .string ⟨#[]⟩, .int .i64 0] 79)).alloc (.cells #[.slice none 0 0, .slice none 0 0, .int .i64 0, .string ⟨#[]⟩, .int .i64 0] 79)) := keeps_trans (keeps_trans (keeps_alloc _ _) (keeps_alloc _ _)) (keeps_alloc _ _)
  have hs3 : (((w.alloc (.cells (op8C o).toArray 85)).alloc (.cells #[.slice none 0 0, .slice none 0 0, .int .i64 0, .string ⟨#[]⟩, .int .i64 0] 79)).alloc (.cells #[.slice none 0 0, .slice none 0 0, .int .i64 0, .string ⟨#[]⟩, .int .i64 0] 79)).heap.size = w.heap.size + 3 := by simp
  have B1 := box_mid8 w (.cells (op8C o).toArray 85) 79 #[.slice none 0 0, .slice none 0 0, .int .i64 0, .string ⟨#[]⟩, .int .i64 0] (.cells #[.slice none 0 0, .slice none 0 0, .int .i64 0, .string ⟨#[]⟩, .int .i64 0] 79)
  have B2 := box_third8 w (.cells (op8C o).toArray 85) (.cells #[.slice none 0 0, .slice none 0 0, .int .i64 0, .string ⟨#[]⟩, .int .i64 0] 79) 79 #[.slice none 0 0, .slice none 0 0, .int .i64 0, .string ⟨#[]⟩, .int .i64 0]
  have hw := h.keep kW
  have HD : doS8 s (some nm) o = (s, some nm, ⟨[], [], ((sizeS s nm).1 / 256 : Nat), [], (sizeS s nm).2⟩) := by unfold doS8; rw [hk]; rfl
  
  have C := Lib.hid (pfPages_any hw hZ (hf.keep kW) (by unfold maxLen; omega) (n := (sizeS s nm).1) (E := (sizeS s nm).2) rfl (size_le (K.ok h.D) nm))
  have HF := Lib.hid hF
  have HK := Lib.hid h
  have HS3 := Lib.hid hs3
  have KW := Lib.hid kW
  have HDO := Lib.hid HD
  have HH := Lib.hid (And.intro hf (And.intro hnf hnm))
  generalize (sizeS s nm).1 / 256 = N at *
  generalize (sizeS s nm).2 = E at *
  unfold op8C opC strV at *
  rw [hk] at *
  clear hF h hw hs3 ho hZ HD
  simp only [List.cons_append, List.nil_append] at *
  go_enter Tryz.func36, Tryz.ntmps36
  go_wp2_with fail
  refine C.out.mono ?_
  rintro e w1 ⟨rfl, kk⟩
  have X1 := B1.keep kk
  have X2 := B2.keep kk
  have c10 := X1.cell 0 rfl
  have c11 := X1.cell 1 rfl
  have c12 := X1.cell 2 rfl
  have c13 := X1.cell 3 rfl
  have c14 := X1.cell 4 rfl
  have f10 := X1.frozen 0
  have f11 := X1.frozen 1
  have f12 := X1.frozen 2
  have f13 := X1.frozen 3
  have f14 := X1.frozen 4
  have c20 := X2.cell 0 rfl
  have c21 := X2.cell 1 rfl
  have c22 := X2.cell 2 rfl
  have c23 := X2.cell 3 rfl
  have c24 := X2.cell 4 rfl
  have f22 := X2.frozen 2
  have f24 := X2.frozen 4
  have KK := Lib.hid kk
  clear kk B1 B2 X2
  go_wp2_with fail
  have XB : Box ((((((((w1).setCell ⟨w.heap.size + 1 + 1, 2, none⟩ (.int .i64 (N : Int))).setCell ⟨w.heap.size + 1 + 1, 4, none⟩ (.int .i64 (E : Int))).setCell ⟨w.heap.size + 1, 0, none⟩ (.slice none 0 0)).setCell ⟨w.heap.size + 1, 1, none⟩ (.slice none 0 0)).setCell ⟨w.heap.size + 1, 2, none⟩ (.int .i64 (N : Int))).setCell ⟨w.heap.size + 1, 3, none⟩ (.string ⟨#[]⟩)).setCell ⟨w.heap.size + 1, 4, none⟩ (.int .i64 (E : Int))) (w.heap.size + 1) 79 #[.slice none 0 0, .slice none 0 0, .int .i64 (N : Int), .string ⟨#[]⟩, .int .i64 (E : Int)] := by simpa using (((((((X1.far (p := ⟨w.heap.size + 1 + 1, 2, none⟩) (show w.heap.size + 1 ≠ w.heap.size + 1 + 1 by omega) (.int .i64 (N : Int))).far (p := ⟨w.heap.size + 1 + 1, 4, none⟩) (show w.heap.size + 1 ≠ w.heap.size + 1 + 1 by omega) (.int .i64 (E : Int))).set 0 (.slice none 0 0)).set 1 (.slice none 0 0)).set 2 (.int .i64 (N : Int))).set 3 (.string ⟨#[]⟩)).set 4 (.int .i64 (E : Int)))
  have XO : Only w1 ((((((((w1).setCell ⟨w.heap.size + 1 + 1, 2, none⟩ (.int .i64 (N : Int))).setCell ⟨w.heap.size + 1 + 1, 4, none⟩ (.int .i64 (E : Int))).setCell ⟨w.heap.size + 1, 0, none⟩ (.slice none 0 0)).setCell ⟨w.heap.size + 1, 1, none⟩ (.slice none 0 0)).setCell ⟨w.heap.size + 1, 2, none⟩ (.int .i64 (N : Int))).setCell ⟨w.heap.size + 1, 3, none⟩ (.string ⟨#[]⟩)).setCell ⟨w.heap.size + 1, 4, none⟩ (.int .i64 (E : Int))) (fun i => w.heap.size ≤ i ∧ i < w.heap.size + 3) := only_xt w1 (w.heap.size) (w.heap.size + 3) [((⟨w.heap.size + 1 + 1, 2, none⟩ : Addr), (.int .i64 (N : Int) : Value)), ((⟨w.heap.size + 1 + 1, 4, none⟩ : Addr), (.int .i64 (E : Int) : Value)), ((⟨w.heap.size + 1, 0, none⟩ : Addr), (.slice none 0 0 : Value)), ((⟨w.heap.size + 1, 1, none⟩ : Addr), (.slice none 0 0 : Value)), ((⟨w.heap.size + 1, 2, none⟩ : Addr), (.int .i64 (N : Int) : Value)), ((⟨w.heap.size + 1, 3, none⟩ : Addr), (.string ⟨#[]⟩ : Value)), ((⟨w.heap.size + 1, 4, none⟩ : Addr), (.int .i64 (E : Int) : Value))] (by simp <;> omega)
  generalize (((((((w1).setCell ⟨w.heap.size + 1 + 1, 2, none⟩ (.int .i64 (N : Int))).setCell ⟨w.heap.size + 1 + 1, 4, none⟩ (.int .i64 (E : Int))).setCell ⟨w.heap.size + 1, 0, none⟩ (.slice none 0 0)).setCell ⟨w.heap.size + 1, 1, none⟩ (.slice none 0 0)).setCell ⟨w.heap.size + 1, 2, none⟩ (.int .i64 (N : Int))).setCell ⟨w.heap.size + 1, 3, none⟩ (.string ⟨#[]⟩)).setCell ⟨w.heap.size + 1, 4, none⟩ (.int .i64 (E : Int)) = W4 at *
  have d0 := XB.cell 0 rfl
  have d1 := XB.cell 1 rfl
  have d2 := XB.cell 2 rfl
  have d3 := XB.cell 3 rfl
  have d4 := XB.cell 4 rfl
  refine bodyPost_ret (v := .tuple #[.agg #[.slice none 0 0, .slice none 0 0, .int .i64 (N : Int), .string ⟨#[]⟩, .int .i64 (E : Int)], .pointer (some ⟨f, 0, none⟩)]) (by simp [results, Tryz.results36, go_sem, d0, d1, d2, d3, d4]) rfl ?_
  have K4 : Keeps w W4 := Below.trans (keeps_trans KW.out KK.out) (XO.below (fun i hi => hi.1) (Nat.le_trans KW.out.size KK.out.size))
  refine ⟨_, _, F, rfl, ?_, by rw [HDO.out]; exact HK.out.keep K4, Turns.of_keeps K4, (by rw [HDO.out]; exact ⟨f, rfl, HH.out.1.keep K4, HH.out.2.1, HH.out.2.2⟩), .inl rfl⟩
  rw [HDO.out]
  exact ⟨.slice none 0 0, .slice none 0 0, rfl, Own.nil _ _ _ _, Own.nil _ _ _ _⟩

set_option maxHeartbeats 8000000 in
theorem does8_pagesN {K : DiskOk} {w0 w : World} {b : Nat} {F : Nat → Prop} {s : Ds} (hZ : K.Z w0) (h : Have K w0 w b F s) (o : Op8) (ho : Op8Ok w0 o)  (hk : o.kind = 5) :
    Calls Tryz.prog 36 #[.pointer (some ⟨b, 0, none⟩), .pointer none, .agg (op8C o).toArray] w (DoneV8 K w0 w b F s none o (.pointer none)) := by
  have hF := K.lt h.D
  have kW : Keeps w (((w.alloc (.cells (op8C o).toArray 85)).alloc (.cells #[.slice none 0 0, .slice none 0 0, .int .i64 0, .string ⟨#[]⟩, .int .i64 0] 79)).alloc (.cells #[.slice none 0 0, .slice none 0 0, .int .i64 0, .string ⟨#[]⟩, .int .i64 0] 79)) := keeps_trans (keeps_trans (keeps_alloc _ _) (keeps_alloc _ _)) (keeps_alloc _ _)
  have hs3 : (((w.alloc (.cells (op8C o).toArray 85)).alloc (.cells #[.slice none 0 0, .slice none 0 0, .int .i64 0, .string ⟨#[]⟩, .int .i64 0] 79)).alloc (.cells #[.slice none 0 0, .slice none 0 0, .int .i64 0, .string ⟨#[]⟩, .int .i64 0] 79)).heap.size = w.heap.size + 3 := by simp
  have B1 := box_mid8 w (.cells (op8C o).toArray 85) 79 #[.slice none 0 0, .slice none 0 0, .int .i64 0, .string ⟨#[]⟩, .int .i64 0] (.cells #[.slice none 0 0, .slice none 0 0, .int .i64 0, .string ⟨#[]⟩, .int .i64 0] 79)
  have B2 := box_third8 w (.cells (op8C o).toArray 85) (.cells #[.slice none 0 0, .slice none 0 0, .int .i64 0, .string ⟨#[]⟩, .int .i64 0] 79) 79 #[.slice none 0 0, .slice none 0 0, .int .i64 0, .string ⟨#[]⟩, .int .i64 0]
  have hw := h.keep kW
  have HD : doS8 s none o = (s, none, ⟨[], [], 0, [], 2⟩) := by unfold doS8; rw [hk]; rfl
  
  have C := Lib.hid (nil8_Pages (((w.alloc (.cells (op8C o).toArray 85)).alloc (.cells #[.slice none 0 0, .slice none 0 0, .int .i64 0, .string ⟨#[]⟩, .int .i64 0] 79)).alloc (.cells #[.slice none 0 0, .slice none 0 0, .int .i64 0, .string ⟨#[]⟩, .int .i64 0] 79)))
  have HF := Lib.hid hF
  have HK := Lib.hid h
  have HS3 := Lib.hid hs3
  have KW := Lib.hid kW
  have HDO := Lib.hid HD
  
  
  unfold op8C opC strV at *
  rw [hk] at *
  clear hF h hw hs3 ho hZ HD
  simp only [List.cons_append, List.nil_append] at *
  go_enter Tryz.func36, Tryz.ntmps36
  go_wp2_with fail
  refine C.out.mono ?_
  rintro e w1 ⟨rfl, kk⟩
  have X1 := B1.keep kk
  have X2 := B2.keep kk
  have c10 := X1.cell 0 rfl
  have c11 := X1.cell 1 rfl
  have c12 := X1.cell 2 rfl
  have c13 := X1.cell 3 rfl
  have c14 := X1.cell 4 rfl
  have f10 := X1.frozen 0
  have f11 := X1.frozen 1
  have f12 := X1.frozen 2
  have f13 := X1.frozen 3
  have f14 := X1.frozen 4
  have c20 := X2.cell 0 rfl
  have c21 := X2.cell 1 rfl
  have c22 := X2.cell 2 rfl
  have c23 := X2.cell 3 rfl
  have c24 := X2.cell 4 rfl
  have f22 := X2.frozen 2
  have f24 := X2.frozen 4
  have KK := Lib.hid kk
  clear kk B1 B2 X2
  go_wp2_with fail
  have XB : Box ((((((((w1).setCell ⟨w.heap.size + 1 + 1, 2, none⟩ (.int .i64 0)).setCell ⟨w.heap.size + 1 + 1, 4, none⟩ (.int .i64 2)).setCell ⟨w.heap.size + 1, 0, none⟩ (.slice none 0 0)).setCell ⟨w.heap.size + 1, 1, none⟩ (.slice none 0 0)).setCell ⟨w.heap.size + 1, 2, none⟩ (.int .i64 0)).setCell ⟨w.heap.size + 1, 3, none⟩ (.string ⟨#[]⟩)).setCell ⟨w.heap.size + 1, 4, none⟩ (.int .i64 2)) (w.heap.size + 1) 79 #[.slice none 0 0, .slice none 0 0, .int .i64 0, .string ⟨#[]⟩, .int .i64 2] := by simpa using (((((((X1.far (p := ⟨w.heap.size + 1 + 1, 2, none⟩) (show w.heap.size + 1 ≠ w.heap.size + 1 + 1 by omega) (.int .i64 0)).far (p := ⟨w.heap.size + 1 + 1, 4, none⟩) (show w.heap.size + 1 ≠ w.heap.size + 1 + 1 by omega) (.int .i64 2)).set 0 (.slice none 0 0)).set 1 (.slice none 0 0)).set 2 (.int .i64 0)).set 3 (.string ⟨#[]⟩)).set 4 (.int .i64 2))
  have XO : Only w1 ((((((((w1).setCell ⟨w.heap.size + 1 + 1, 2, none⟩ (.int .i64 0)).setCell ⟨w.heap.size + 1 + 1, 4, none⟩ (.int .i64 2)).setCell ⟨w.heap.size + 1, 0, none⟩ (.slice none 0 0)).setCell ⟨w.heap.size + 1, 1, none⟩ (.slice none 0 0)).setCell ⟨w.heap.size + 1, 2, none⟩ (.int .i64 0)).setCell ⟨w.heap.size + 1, 3, none⟩ (.string ⟨#[]⟩)).setCell ⟨w.heap.size + 1, 4, none⟩ (.int .i64 2)) (fun i => w.heap.size ≤ i ∧ i < w.heap.size + 3) := only_xt w1 (w.heap.size) (w.heap.size + 3) [((⟨w.heap.size + 1 + 1, 2, none⟩ : Addr), (.int .i64 0 : Value)), ((⟨w.heap.size + 1 + 1, 4, none⟩ : Addr), (.int .i64 2 : Value)), ((⟨w.heap.size + 1, 0, none⟩ : Addr), (.slice none 0 0 : Value)), ((⟨w.heap.size + 1, 1, none⟩ : Addr), (.slice none 0 0 : Value)), ((⟨w.heap.size + 1, 2, none⟩ : Addr), (.int .i64 0 : Value)), ((⟨w.heap.size + 1, 3, none⟩ : Addr), (.string ⟨#[]⟩ : Value)), ((⟨w.heap.size + 1, 4, none⟩ : Addr), (.int .i64 2 : Value))] (by simp <;> omega)
  generalize (((((((w1).setCell ⟨w.heap.size + 1 + 1, 2, none⟩ (.int .i64 0)).setCell ⟨w.heap.size + 1 + 1, 4, none⟩ (.int .i64 2)).setCell ⟨w.heap.size + 1, 0, none⟩ (.slice none 0 0)).setCell ⟨w.heap.size + 1, 1, none⟩ (.slice none 0 0)).setCell ⟨w.heap.size + 1, 2, none⟩ (.int .i64 0)).setCell ⟨w.heap.size + 1, 3, none⟩ (.string ⟨#[]⟩)).setCell ⟨w.heap.size + 1, 4, none⟩ (.int .i64 2) = W4 at *
  have d0 := XB.cell 0 rfl
  have d1 := XB.cell 1 rfl
  have d2 := XB.cell 2 rfl
  have d3 := XB.cell 3 rfl
  have d4 := XB.cell 4 rfl
  refine bodyPost_ret (v := .tuple #[.agg #[.slice none 0 0, .slice none 0 0, .int .i64 0, .string ⟨#[]⟩, .int .i64 2], .pointer none]) (by simp [results, Tryz.results36, go_sem, d0, d1, d2, d3, d4]) rfl ?_
  have K4 : Keeps w W4 := Below.trans (keeps_trans KW.out KK.out) (XO.below (fun i hi => hi.1) (Nat.le_trans KW.out.size KK.out.size))
  refine ⟨_, _, F, rfl, ?_, by rw [HDO.out]; exact HK.out.keep K4, Turns.of_keeps K4, (by rw [HDO.out]; rfl), .inl rfl⟩
  rw [HDO.out]
  exact ⟨.slice none 0 0, .slice none 0 0, rfl, Own.nil _ _ _ _, Own.nil _ _ _ _⟩

set_option maxHeartbeats 8000000 in
theorem does8_bad {K : DiskOk} {w0 w : World} {b : Nat} {F : Nat → Prop} {s : Ds} (hZ : K.Z w0) (h : Have K w0 w b F s) (o : Op8) (ho : Op8Ok w0 o) (PK : PageOk) (hS : Sizes w0) {g : Option (List UInt8)} {fv : Value} (hg : HeldAt w b F g fv) (hnm : o.name.length ≤ 70000) (hk : o.kind = 6) :
    Calls Tryz.prog 36 #[.pointer (some ⟨b, 0, none⟩), fv, .agg (op8C o).toArray] w (DoneV8 K w0 w b F s g o (fv)) := by
  have hF := K.lt h.D
  have kW : Keeps w (((w.alloc (.cells (op8C o).toArray 85)).alloc (.cells #[.slice none 0 0, .slice none 0 0, .int .i64 0, .string ⟨#[]⟩, .int .i64 0] 79)).alloc (.cells #[.slice none 0 0, .slice none 0 0, .int .i64 0, .string ⟨#[]⟩, .int .i64 0] 79)) := keeps_trans (keeps_trans (keeps_alloc _ _) (keeps_alloc _ _)) (keeps_alloc _ _)
  have hs3 : (((w.alloc (.cells (op8C o).toArray 85)).alloc (.cells #[.slice none 0 0, .slice none 0 0, .int .i64 0, .string ⟨#[]⟩, .int .i64 0] 79)).alloc (.cells #[.slice none 0 0, .slice none 0 0, .int .i64 0, .string ⟨#[]⟩, .int .i64 0] 79)).heap.size = w.heap.size + 3 := by simp
  have B1 := box_mid8 w (.cells (op8C o).toArray 85) 79 #[.slice none 0 0, .slice none 0 0, .int .i64 0, .string ⟨#[]⟩, .int .i64 0] (.cells #[.slice none 0 0, .slice none 0 0, .int .i64 0, .string ⟨#[]⟩, .int .i64 0] 79)
  have B2 := box_third8 w (.cells (op8C o).toArray 85) (.cells #[.slice none 0 0, .slice none 0 0, .int .i64 0, .string ⟨#[]⟩, .int .i64 0] 79) 79 #[.slice none 0 0, .slice none 0 0, .int .i64 0, .string ⟨#[]⟩, .int .i64 0]
  have hw := h.keep kW
  have HD : doS8 s g o = (s, g, ⟨[], (badP s o.name).1.map fun (k : Nat) => (k : Int), 0, [], (badP s o.name).2⟩) := by unfold doS8; rw [hk]; rfl
  
  have C := Lib.hid (pfBad_any PK hw hZ hS (nm := o.name) (by omega))
  have HF := Lib.hid hF
  have HK := Lib.hid h
  have HS3 := Lib.hid hs3
  have KW := Lib.hid kW
  have HDO := Lib.hid HD
  have HH := Lib.hid hg
  have LL := Lib.hid (show ((badP s o.name).1.map fun (k : Nat) => (k : Int)).length = (badP s o.name).1.length by simp)
  generalize ((badP s o.name).1.map fun (k : Nat) => (k : Int)) = l at *
  generalize (badP s o.name).1.length = L at *
  generalize (badP s o.name).2 = E at *
  unfold op8C opC strV at *
  rw [hk] at *
  clear hF h hw hs3 ho hZ HD
  simp only [List.cons_append, List.nil_append] at *
  go_enter Tryz.func36, Tryz.ntmps36
  go_wp2_with fail
  refine C.out.mono ?_
  rintro e w1 ⟨vv, rfl, oo, kk⟩
  obtain ⟨A1, c1, rfl, -⟩ := oo.form
  have OO := Lib.hid oo
  clear oo
  have X1 := B1.keep kk
  have X2 := B2.keep kk
  have c10 := X1.cell 0 rfl
  have c11 := X1.cell 1 rfl
  have c12 := X1.cell 2 rfl
  have c13 := X1.cell 3 rfl
  have c14 := X1.cell 4 rfl
  have f10 := X1.frozen 0
  have f11 := X1.frozen 1
  have f12 := X1.frozen 2
  have f13 := X1.frozen 3
  have f14 := X1.frozen 4
  have c20 := X2.cell 0 rfl
  have c21 := X2.cell 1 rfl
  have c22 := X2.cell 2 rfl
  have c23 := X2.cell 3 rfl
  have c24 := X2.cell 4 rfl
  have f21 := X2.frozen 1
  have f24 := X2.frozen 4
  have KK := Lib.hid kk
  clear kk B1 B2 X2
  go_wp2_with fail
  have XB : Box ((((((((w1).setCell ⟨w.heap.size + 1 + 1, 1, none⟩ (.slice A1 L c1)).setCell ⟨w.heap.size + 1 + 1, 4, none⟩ (.int .i64 (E : Int))).setCell ⟨w.heap.size + 1, 0, none⟩ (.slice none 0 0)).setCell ⟨w.heap.size + 1, 1, none⟩ (.slice A1 L c1)).setCell ⟨w.heap.size + 1, 2, none⟩ (.int .i64 0)).setCell ⟨w.heap.size + 1, 3, none⟩ (.string ⟨#[]⟩)).setCell ⟨w.heap.size + 1, 4, none⟩ (.int .i64 (E : Int))) (w.heap.size + 1) 79 #[.slice none 0 0, .slice A1 L c1, .int .i64 0, .string ⟨#[]⟩, .int .i64 (E : Int)] := by simpa using (((((((X1.far (p := ⟨w.heap.size + 1 + 1, 1, none⟩) (show w.heap.size + 1 ≠ w.heap.size + 1 + 1 by omega) (.slice A1 L c1)).far (p := ⟨w.heap.size + 1 + 1, 4, none⟩) (show w.heap.size + 1 ≠ w.heap.size + 1 + 1 by omega) (.int .i64 (E : Int))).set 0 (.slice none 0 0)).set 1 (.slice A1 L c1)).set 2 (.int .i64 0)).set 3 (.string ⟨#[]⟩)).set 4 (.int .i64 (E : Int)))
  have XO : Only w1 ((((((((w1).setCell ⟨w.heap.size + 1 + 1, 1, none⟩ (.slice A1 L c1)).setCell ⟨w.heap.size + 1 + 1, 4, none⟩ (.int .i64 (E : Int))).setCell ⟨w.heap.size + 1, 0, none⟩ (.slice none 0 0)).setCell ⟨w.heap.size + 1, 1, none⟩ (.slice A1 L c1)).setCell ⟨w.heap.size + 1, 2, none⟩ (.int .i64 0)).setCell ⟨w.heap.size + 1, 3, none⟩ (.string ⟨#[]⟩)).setCell ⟨w.heap.size + 1, 4, none⟩ (.int .i64 (E : Int))) (fun i => w.heap.size ≤ i ∧ i < w.heap.size + 3) := only_xt w1 (w.heap.size) (w.heap.size + 3) [((⟨w.heap.size + 1 + 1, 1, none⟩ : Addr), (.slice A1 L c1 : Value)), ((⟨w.heap.size + 1 + 1, 4, none⟩ : Addr), (.int .i64 (E : Int) : Value)), ((⟨w.heap.size + 1, 0, none⟩ : Addr), (.slice none 0 0 : Value)), ((⟨w.heap.size + 1, 1, none⟩ : Addr), (.slice A1 L c1 : Value)), ((⟨w.heap.size + 1, 2, none⟩ : Addr), (.int .i64 0 : Value)), ((⟨w.heap.size + 1, 3, none⟩ : Addr), (.string ⟨#[]⟩ : Value)), ((⟨w.heap.size + 1, 4, none⟩ : Addr), (.int .i64 (E : Int) : Value))] (by simp <;> omega)
  generalize (((((((w1).setCell ⟨w.heap.size + 1 + 1, 1, none⟩ (.slice A1 L c1)).setCell ⟨w.heap.size + 1 + 1, 4, none⟩ (.int .i64 (E : Int))).setCell ⟨w.heap.size + 1, 0, none⟩ (.slice none 0 0)).setCell ⟨w.heap.size + 1, 1, none⟩ (.slice A1 L c1)).setCell ⟨w.heap.size + 1, 2, none⟩ (.int .i64 0)).setCell ⟨w.heap.size + 1, 3, none⟩ (.string ⟨#[]⟩)).setCell ⟨w.heap.size + 1, 4, none⟩ (.int .i64 (E : Int)) = W4 at *
  have d0 := XB.cell 0 rfl
  have d1 := XB.cell 1 rfl
  have d2 := XB.cell 2 rfl
  have d3 := XB.cell 3 rfl
  have d4 := XB.cell 4 rfl
  refine bodyPost_ret (v := .tuple #[.agg #[.slice none 0 0, .slice A1 L c1, .int .i64 0, .string ⟨#[]⟩, .int .i64 (E : Int)], fv]) (by simp [results, Tryz.results36, go_sem, d0, d1, d2, d3, d4]) rfl ?_
  have K4 : Keeps w W4 := Below.trans (keeps_trans KW.out KK.out) (XO.below (fun i hi => hi.1) (Nat.le_trans KW.out.size KK.out.size))
  refine ⟨_, _, F, rfl, ?_, by rw [HDO.out]; exact HK.out.keep K4, Turns.of_keeps K4, (by rw [HDO.out]; exact HH.out.keep K4), .inl rfl⟩
  rw [HDO.out]
  refine ⟨.slice none 0 0, .slice A1 L c1, rfl, Own.nil _ _ _ _, ?_⟩
  rw [LL.out]
  exact (OO.out.only_ XO (fun k hk hs => by have := (OO.out.lt k hk).1; rw [HS3.out] at this; omega)).base_le (by rw [HS3.out]; omega)

set_option maxHeartbeats 8000000 in
theorem does8_createY {K : DiskOk} {w0 w : World} {b : Nat} {F : Nat → Prop} {s : Ds} (hZ : K.Z w0) (h : Have K w0 w b F s) (o : Op8) (ho : Op8Ok w0 o) (fv : Value) (g : Option (List UInt8)) (hnm : o.name.length ≤ 70000) (hE : (createS s o.name).2 = 0) (hk : o.kind = 0) :
    Calls Tryz.prog 36 #[.pointer (some ⟨b, 0, none⟩), fv, .agg (op8C o).toArray] w (DoneV8 K w0 w b F s g o fv) := by
  have hF := K.lt h.D
  have kW : Keeps w (((w.alloc (.cells (op8C o).toArray 85)).alloc (.cells #[.slice none 0 0, .slice none 0 0, .int .i64 0, .string ⟨#[]⟩, .int .i64 0] 79)).alloc (.cells #[.slice none 0 0, .slice none 0 0, .int .i64 0, .string ⟨#[]⟩, .int .i64 0] 79)) := keeps_trans (keeps_trans (keeps_alloc _ _) (keeps_alloc _ _)) (keeps_alloc _ _)
  have hs3 : (((w.alloc (.cells (op8C o).toArray 85)).alloc (.cells #[.slice none 0 0, .slice none 0 0, .int .i64 0, .string ⟨#[]⟩, .int .i64 0] 79)).alloc (.cells #[.slice none 0 0, .slice none 0 0, .int .i64 0, .string ⟨#[]⟩, .int .i64 0] 79)).heap.size = w.heap.size + 3 := by simp
  have B1 := box_mid8 w (.cells (op8C o).toArray 85) 79 #[.slice none 0 0, .slice none 0 0, .int .i64 0, .string ⟨#[]⟩, .int .i64 0] (.cells #[.slice none 0 0, .slice none 0 0, .int .i64 0, .string ⟨#[]⟩, .int .i64 0] 79)
  have hw := h.keep kW
  have HD : doS8 s g o = ((createS s o.name).1, some o.name, ⟨[], [], 0, o.name, 0⟩) := by unfold doS8; rw [hk]; rw [if_pos rfl, hE, if_pos rfl, if_pos rfl]
  
  have C := Lib.hid (pfCreate_any hw hZ o.name ho.nm (s' := (createS s o.name).1) (E := 0) (by rw [← hE]))
  have HF := Lib.hid hF
  have HK := Lib.hid h
  have HS3 := Lib.hid hs3
  have KW := Lib.hid kW
  have HDO := Lib.hid HD
  have HNM := Lib.hid hnm
  have hml := Lib.hid ho.nm
  unfold op8C opC strV at *
  rw [hk] at *
  clear hF h hw hs3 ho hZ HD hnm
  simp only [List.cons_append, List.nil_append] at *
  go_enter Tryz.func36, Tryz.ntmps36
  go_wp2_with fail
  refine C.out.mono ?_
  rintro e w1 ⟨F', h1, t1, ⟨-, f, rfl, hf, hlo, hnf⟩ | ⟨hbad, -⟩⟩
  rotate_left
  · exact absurd rfl hbad
  have NM := Lib.hid (pfName_any hf)
  have n1 : ¬ F (w.heap.size + 1) := fun e => by have := HF.out _ e; omega
  have X0 := B1.turned t1 n1
  have H1 := Lib.hid h1
  have T1 := Lib.hid t1
  have HA := Lib.hid (And.intro hf (And.intro hlo hnf))
  clear h1 t1 hf hlo hnf n1 B1
  go_wp2_with fail
  refine NM.out.mono ?_
  rintro e w2 ⟨rfl, k2⟩
  have X1 := X0.keep k2
  have H2 := Lib.hid (H1.out.keep k2)
  have T2 := Lib.hid (T1.out.trans (Turns.of_keeps k2))
  have A2 := Lib.hid (HA.out.1.keep k2)
  clear k2 X0
  have c10 := X1.cell 0 rfl
  have c11 := X1.cell 1 rfl
  have c12 := X1.cell 2 rfl
  have c13 := X1.cell 3 rfl
  have c14 := X1.cell 4 rfl
  have f10 := X1.frozen 0
  have f11 := X1.frozen 1
  have f12 := X1.frozen 2
  have f13 := X1.frozen 3
  have f14 := X1.frozen 4
  go_wp2_with fail
  have XB : Box ((((((w2).setCell ⟨w.heap.size + 1, 0, none⟩ (.slice none 0 0)).setCell ⟨w.heap.size + 1, 1, none⟩ (.slice none 0 0)).setCell ⟨w.heap.size + 1, 2, none⟩ (.int .i64 0)).setCell ⟨w.heap.size + 1, 3, none⟩ (.string (str o.name))).setCell ⟨w.heap.size + 1, 4, none⟩ (.int .i64 0)) (w.heap.size + 1) 79 #[.slice none 0 0, .slice none 0 0, .int .i64 0, .string (str o.name), .int .i64 0] := by simpa using (((((X1.set 0 (.slice none 0 0)).set 1 (.slice none 0 0)).set 2 (.int .i64 0)).set 3 (.string (str o.name))).set 4 (.int .i64 0))
  have XO : Only w2 ((((((w2).setCell ⟨w.heap.size + 1, 0, none⟩ (.slice none 0 0)).setCell ⟨w.heap.size + 1, 1, none⟩ (.slice none 0 0)).setCell ⟨w.heap.size + 1, 2, none⟩ (.int .i64 0)).setCell ⟨w.heap.size + 1, 3, none⟩ (.string (str o.name))).setCell ⟨w.heap.size + 1, 4, none⟩ (.int .i64 0)) (fun i => w.heap.size ≤ i ∧ i < w.heap.size + 3) := only_xt w2 (w.heap.size) (w.heap.size + 3) [((⟨w.heap.size + 1, 0, none⟩ : Addr), (.slice none 0 0 : Value)), ((⟨w.heap.size + 1, 1, none⟩ : Addr), (.slice none 0 0 : Value)), ((⟨w.heap.size + 1, 2, none⟩ : Addr), (.int .i64 0 : Value)), ((⟨w.heap.size + 1, 3, none⟩ : Addr), (.string (str o.name) : Value)), ((⟨w.heap.size + 1, 4, none⟩ : Addr), (.int .i64 0 : Value))] (by simp <;> omega)
  generalize (((((w2).setCell ⟨w.heap.size + 1, 0, none⟩ (.slice none 0 0)).setCell ⟨w.heap.size + 1, 1, none⟩ (.slice none 0 0)).setCell ⟨w.heap.size + 1, 2, none⟩ (.int .i64 0)).setCell ⟨w.heap.size + 1, 3, none⟩ (.string (str o.name))).setCell ⟨w.heap.size + 1, 4, none⟩ (.int .i64 0) = W4 at *
  have d0 := XB.cell 0 rfl
  have d1 := XB.cell 1 rfl
  have d2 := XB.cell 2 rfl
  have d3 := XB.cell 3 rfl
  have d4 := XB.cell 4 rfl
  refine bodyPost_ret (v := .tuple #[.agg #[.slice none 0 0, .slice none 0 0, .int .i64 0, .string (str o.name), .int .i64 0], .pointer (some ⟨f, 0, none⟩)]) (by simp [results, Tryz.results36, go_sem, d0, d1, d2, d3, d4]) rfl ?_
  have hlt := HF.out
  have h4 : Have K w0 W4 b F' ((createS s o.name).1) := ⟨K.same H2.out.D (fun i hi => XO.block i (K.lt H2.out.D i hi) (fun hh => by
    rcases T2.out.next i hi with q | q
    · have := hlt i q; omega
    · rw [HS3.out] at q; omega)) XO.size, H2.out.low, Below.trans H2.out.kp (XO.below (fun i hi => Nat.le_trans HK.out.kp.size hi.1) H2.out.kp.size)⟩
  have t4 : Turns w W4 F F' := T2.out.wrap KW.out hlt (XO.weak (fun i hi => hi.1))
  exact ⟨_, _, F', rfl, by
    rw [HDO.out]
    exact ⟨.slice none 0 0, .slice none 0 0, rfl, Own.nil _ _ _ _, Own.nil _ _ _ _⟩, by rw [HDO.out]; exact h4, t4, (by rw [HDO.out]; exact ⟨f, rfl, (XO.block f A2.out.lt (fun hh => by have := HA.out.2.1; rw [HS3.out] at this; omega)).trans A2.out, HA.out.2.2, HNM.out⟩), .inr (fun a e => by first | (cases e; done) | (cases e; have := HA.out.2.1; rw [HS3.out] at this; show w.heap.size ≤ f; omega))⟩

set_option maxHeartbeats 8000000 in
theorem does8_createN {K : DiskOk} {w0 w : World} {b : Nat} {F : Nat → Prop} {s : Ds} (hZ : K.Z w0) (h : Have K w0 w b F s) (o : Op8) (ho : Op8Ok w0 o) (fv : Value) (g : Option (List UInt8)) (hnm : o.name.length ≤ 70000) (hE : ¬ (createS s o.name).2 = 0) (hk : o.kind = 0) :
    Calls Tryz.prog 36 #[.pointer (some ⟨b, 0, none⟩), fv, .agg (op8C o).toArray] w (DoneV8 K w0 w b F s g o fv) := by
  have hF := K.lt h.D
  have kW : Keeps w (((w.alloc (.cells (op8C o).toArray 85)).alloc (.cells #[.slice none 0 0, .slice none 0 0, .int .i64 0, .string ⟨#[]⟩, .int .i64 0] 79)).alloc (.cells #[.slice none 0 0, .slice none 0 0, .int .i64 0, .string ⟨#[]⟩, .int .i64 0] 79)) := keeps_trans (keeps_trans (keeps_alloc _ _) (keeps_alloc _ _)) (keeps_alloc _ _)
  have hs3 : (((w.alloc (.cells (op8C o).toArray 85)).alloc (.cells #[.slice none 0 0, .slice none 0 0, .int .i64 0, .string ⟨#[]⟩, .int .i64 0] 79)).alloc (.cells #[.slice none 0 0, .slice none 0 0, .int .i64 0, .string ⟨#[]⟩, .int .i64 0] 79)).heap.size = w.heap.size + 3 := by simp
  have B1 := box_mid8 w (.cells (op8C o).toArray 85) 79 #[.slice none 0 0, .slice none 0 0, .int .i64 0, .string ⟨#[]⟩, .int .i64 0] (.cells #[.slice none 0 0, .slice none 0 0, .int .i64 0, .string ⟨#[]⟩, .int .i64 0] 79)
  have hw := h.keep kW
  have HD : doS8 s g o = ((createS s o.name).1, none, ⟨[], [], 0, [], (createS s o.name).2⟩) := by unfold doS8; rw [hk]; rw [if_pos rfl, if_neg hE, if_neg hE]
  have HE0 := Lib.hid hE
  have C := Lib.hid (pfCreate_any hw hZ o.name ho.nm (s' := (createS s o.name).1) (E := (createS s o.name).2) rfl)
  have HF := Lib.hid hF
  have HK := Lib.hid h
  have HS3 := Lib.hid hs3
  have KW := Lib.hid kW
  have HDO := Lib.hid HD
  have HNM := Lib.hid hnm
  have hml := Lib.hid ho.nm
  unfold op8C opC strV at *
  rw [hk] at *
  clear hF h hw hs3 ho hZ HD hnm
  simp only [List.cons_append, List.nil_append] at *
  go_enter Tryz.func36, Tryz.ntmps36
  go_wp2_with fail
  refine C.out.mono ?_
  rintro e w1 ⟨F', h1, t1, ⟨hbad, -⟩ | ⟨-, rfl⟩⟩
  · exact absurd hbad HE0.out
  have NM := Lib.hid (nil8_Name w1)
  have n1 : ¬ F (w.heap.size + 1) := fun e => by have := HF.out _ e; omega
  have X0 := B1.turned t1 n1
  have H1 := Lib.hid h1
  have T1 := Lib.hid t1
  clear h1 t1 n1 B1
  go_wp2_with fail
  refine NM.out.mono ?_
  rintro e w2 ⟨rfl, k2⟩
  have X1 := X0.keep k2
  have H2 := Lib.hid (H1.out.keep k2)
  have T2 := Lib.hid (T1.out.trans (Turns.of_keeps k2))
  clear k2 X0
  have c10 := X1.cell 0 rfl
  have c11 := X1.cell 1 rfl
  have c12 := X1.cell 2 rfl
  have c13 := X1.cell 3 rfl
  have c14 := X1.cell 4 rfl
  have f10 := X1.frozen 0
  have f11 := X1.frozen 1
  have f12 := X1.frozen 2
  have f13 := X1.frozen 3
  have f14 := X1.frozen 4
  go_wp2_with fail
  have XB : Box ((((((w2).setCell ⟨w.heap.size + 1, 0, none⟩ (.slice none 0 0)).setCell ⟨w.heap.size + 1, 1, none⟩ (.slice none 0 0)).setCell ⟨w.heap.size + 1, 2, none⟩ (.int .i64 0)).setCell ⟨w.heap.size + 1, 3, none⟩ (.string ⟨#[]⟩)).setCell ⟨w.heap.size + 1, 4, none⟩ (.int .i64 ((createS s o.name).2 : Int))) (w.heap.size + 1) 79 #[.slice none 0 0, .slice none 0 0, .int .i64 0, .string ⟨#[]⟩, .int .i64 ((createS s o.name).2 : Int)] := by simpa using (((((X1.set 0 (.slice none 0 0)).set 1 (.slice none 0 0)).set 2 (.int .i64 0)).set 3 (.string ⟨#[]⟩)).set 4 (.int .i64 ((createS s o.name).2 : Int)))
  have XO : Only w2 ((((((w2).setCell ⟨w.heap.size + 1, 0, none⟩ (.slice none 0 0)).setCell ⟨w.heap.size + 1, 1, none⟩ (.slice none 0 0)).setCell ⟨w.heap.size + 1, 2, none⟩ (.int .i64 0)).setCell ⟨w.heap.size + 1, 3, none⟩ (.string ⟨#[]⟩)).setCell ⟨w.heap.size + 1, 4, none⟩ (.int .i64 ((createS s o.name).2 : Int))) (fun i => w.heap.size ≤ i ∧ i < w.heap.size + 3) := only_xt w2 (w.heap.size) (w.heap.size + 3) [((⟨w.heap.size + 1, 0, none⟩ : Addr), (.slice none 0 0 : Value)), ((⟨w.heap.size + 1, 1, none⟩ : Addr), (.slice none 0 0 : Value)), ((⟨w.heap.size + 1, 2, none⟩ : Addr), (.int .i64 0 : Value)), ((⟨w.heap.size + 1, 3, none⟩ : Addr), (.string ⟨#[]⟩ : Value)), ((⟨w.heap.size + 1, 4, none⟩ : Addr), (.int .i64 ((createS s o.name).2 : Int) : Value))] (by simp <;> omega)
  generalize (((((w2).setCell ⟨w.heap.size + 1, 0, none⟩ (.slice none 0 0)).setCell ⟨w.heap.size + 1, 1, none⟩ (.slice none 0 0)).setCell ⟨w.heap.size + 1, 2, none⟩ (.int .i64 0)).setCell ⟨w.heap.size + 1, 3, none⟩ (.string ⟨#[]⟩)).setCell ⟨w.heap.size + 1, 4, none⟩ (.int .i64 ((createS s o.name).2 : Int)) = W4 at *
  have d0 := XB.cell 0 rfl
  have d1 := XB.cell 1 rfl
  have d2 := XB.cell 2 rfl
  have d3 := XB.cell 3 rfl
  have d4 := XB.cell 4 rfl
  refine bodyPost_ret (v := .tuple #[.agg #[.slice none 0 0, .slice none 0 0, .int .i64 0, .string ⟨#[]⟩, .int .i64 ((createS s o.name).2 : Int)], .pointer none]) (by simp [results, Tryz.results36, go_sem, d0, d1, d2, d3, d4]) rfl ?_
  have hlt := HF.out
  have h4 : Have K w0 W4 b F' ((createS s o.name).1) := ⟨K.same H2.out.D (fun i hi => XO.block i (K.lt H2.out.D i hi) (fun hh => by
    rcases T2.out.next i hi with q | q
    · have := hlt i q; omega
    · rw [HS3.out] at q; omega)) XO.size, H2.out.low, Below.trans H2.out.kp (XO.below (fun i hi => Nat.le_trans HK.out.kp.size hi.1) H2.out.kp.size)⟩
  have t4 : Turns w W4 F F' := T2.out.wrap KW.out hlt (XO.weak (fun i hi => hi.1))
  exact ⟨_, _, F', rfl, by
    rw [HDO.out]
    exact ⟨.slice none 0 0, .slice none 0 0, rfl, Own.nil _ _ _ _, Own.nil _ _ _ _⟩, by rw [HDO.out]; exact h4, t4, (by rw [HDO.out]; rfl), .inr (fun a e => by first | (cases e; done) | (cases e; have := HA.out.2.1; rw [HS3.out] at this; show w.heap.size ≤ f; omega))⟩

theorem pfOpen_made {K : DiskOk} {w0 w : World} {b : Nat} {F : Nat → Prop} {s : Ds} (h : Have K w0 w b F s) (hZ : K.Z w0) (nm : List UInt8) (hnm : nm.length ≤ maxLen) {E : Nat} (hE : openE s nm = E) :
    Calls Tryz.prog 71 #[.pointer (some ⟨b, 0, none⟩), .string (str nm)] w (MadeF w0 w K b F s E nm) := by
  subst hE
  refine (pfOpen_any h hZ nm hnm (n := (sizeS s nm).1) (E := (sizeS s nm).2) rfl (size_le (K.ok h.D) nm)).mono fun e w' q => ⟨F, h.keep q.1, Turns.of_keeps q.1, ?_⟩
  rcases q.2 with ⟨e0, f, he, hf, hl⟩ | ⟨e0, he⟩
  · exact .inl ⟨e0, f, he, hf, hl, fun hh => by have := K.lt h.D f hh; omega⟩
  · exact .inr ⟨e0, he⟩

set_option maxHeartbeats 8000000 in
theorem does8_openY {K : DiskOk} {w0 w : World} {b : Nat} {F : Nat → Prop} {s : Ds} (hZ : K.Z w0) (h : Have K w0 w b F s) (o : Op8) (ho : Op8Ok w0 o) (fv : Value) (g : Option (List UInt8)) (hnm : o.name.length ≤ 70000) (hE : openE s o.name = 0) (hk : o.kind = 1) :
    Calls Tryz.prog 36 #[.pointer (some ⟨b, 0, none⟩), fv, .agg (op8C o).toArray] w (DoneV8 K w0 w b F s g o fv) := by
  have hF := K.lt h.D
  have kW : Keeps w (((w.alloc (.cells (op8C o).toArray 85)).alloc (.cells #[.slice none 0 0, .slice none 0 0, .int .i64 0, .string ⟨#[]⟩, .int .i64 0] 79)).alloc (.cells #[.slice none 0 0, .slice none 0 0, .int .i64 0, .string ⟨#[]⟩, .int .i64 0] 79)) := keeps_trans (keeps_trans (keeps_alloc _ _) (keeps_alloc _ _)) (keeps_alloc _ _)
  have hs3 : (((w.alloc (.cells (op8C o).toArray 85)).alloc (.cells #[.slice none 0 0, .slice none 0 0, .int .i64 0, .string ⟨#[]⟩, .int .i64 0] 79)).alloc (.cells #[.slice none 0 0, .slice none 0 0, .int .i64 0, .string ⟨#[]⟩, .int .i64 0] 79)).heap.size = w.heap.size + 3 := by simp
  have B1 := box_mid8 w (.cells (op8C o).toArray 85) 79 #[.slice none 0 0, .slice none 0 0, .int .i64 0, .string ⟨#[]⟩, .int .i64 0] (.cells #[.slice none 0 0, .slice none 0 0, .int .i64 0, .string ⟨#[]⟩, .int .i64 0] 79)
  have hw := h.keep kW
  have HD : doS8 s g o = (s, some o.name, ⟨[], [], 0, o.name, 0⟩) := by unfold doS8; rw [hk]; rw [if_neg (by decide), if_pos rfl, hE, if_pos rfl, if_pos rfl]
  
  have C := Lib.hid (pfOpen_made hw hZ o.name ho.nm hE)
  have HF := Lib.hid hF
  have HK := Lib.hid h
  have HS3 := Lib.hid hs3
  have KW := Lib.hid kW
  have HDO := Lib.hid HD
  have HNM := Lib.hid hnm
  have hml := Lib.hid ho.nm
  unfold op8C opC strV at *
  rw [hk] at *
  clear hF h hw hs3 ho hZ HD hnm
  simp only [List.cons_append, List.nil_append] at *
  go_enter Tryz.func36, Tryz.ntmps36
  go_wp2_with fail
  refine C.out.mono ?_
  rintro e w1 ⟨F', h1, t1, ⟨-, f, rfl, hf, hlo, hnf⟩ | ⟨hbad, -⟩⟩
  rotate_left
  · exact absurd rfl hbad
  have NM := Lib.hid (pfName_any hf)
  have n1 : ¬ F (w.heap.size + 1) := fun e => by have := HF.out _ e; omega
  have X0 := B1.turned t1 n1
  have H1 := Lib.hid h1
  have T1 := Lib.hid t1
  have HA := Lib.hid (And.intro hf (And.intro hlo hnf))
  clear h1 t1 hf hlo hnf n1 B1
  go_wp2_with fail
  refine NM.out.mono ?_
  rintro e w2 ⟨rfl, k2⟩
  have X1 := X0.keep k2
  have H2 := Lib.hid (H1.out.keep k2)
  have T2 := Lib.hid (T1.out.trans (Turns.of_keeps k2))
  have A2 := Lib.hid (HA.out.1.keep k2)
  clear k2 X0
  have c10 := X1.cell 0 rfl
  have c11 := X1.cell 1 rfl
  have c12 := X1.cell 2 rfl
  have c13 := X1.cell 3 rfl
  have c14 := X1.cell 4 rfl
  have f10 := X1.frozen 0
  have f11 := X1.frozen 1
  have f12 := X1.frozen 2
  have f13 := X1.frozen 3
  have f14 := X1.frozen 4
  go_wp2_with fail
  have XB : Box ((((((w2).setCell ⟨w.heap.size + 1, 0, none⟩ (.slice none 0 0)).setCell ⟨w.heap.size + 1, 1, none⟩ (.slice none 0 0)).setCell ⟨w.heap.size + 1, 2, none⟩ (.int .i64 0)).setCell ⟨w.heap.size + 1, 3, none⟩ (.string (str o.name))).setCell ⟨w.heap.size + 1, 4, none⟩ (.int .i64 0)) (w.heap.size + 1) 79 #[.slice none 0 0, .slice none 0 0, .int .i64 0, .string (str o.name), .int .i64 0] := by simpa using (((((X1.set 0 (.slice none 0 0)).set 1 (.slice none 0 0)).set 2 (.int .i64 0)).set 3 (.string (str o.name))).set 4 (.int .i64 0))
  have XO : Only w2 ((((((w2).setCell ⟨w.heap.size + 1, 0, none⟩ (.slice none 0 0)).setCell ⟨w.heap.size + 1, 1, none⟩ (.slice none 0 0)).setCell ⟨w.heap.size + 1, 2, none⟩ (.int .i64 0)).setCell ⟨w.heap.size + 1, 3, none⟩ (.string (str o.name))).setCell ⟨w.heap.size + 1, 4, none⟩ (.int .i64 0)) (fun i => w.heap.size ≤ i ∧ i < w.heap.size + 3) := only_xt w2 (w.heap.size) (w.heap.size + 3) [((⟨w.heap.size + 1, 0, none⟩ : Addr), (.slice none 0 0 : Value)), ((⟨w.heap.size + 1, 1, none⟩ : Addr), (.slice none 0 0 : Value)), ((⟨w.heap.size + 1, 2, none⟩ : Addr), (.int .i64 0 : Value)), ((⟨w.heap.size + 1, 3, none⟩ : Addr), (.string (str o.name) : Value)), ((⟨w.heap.size + 1, 4, none⟩ : Addr), (.int .i64 0 : Value))] (by simp <;> omega)
  generalize (((((w2).setCell ⟨w.heap.size + 1, 0, none⟩ (.slice none 0 0)).setCell ⟨w.heap.size + 1, 1, none⟩ (.slice none 0 0)).setCell ⟨w.heap.size + 1, 2, none⟩ (.int .i64 0)).setCell ⟨w.heap.size + 1, 3, none⟩ (.string (str o.name))).setCell ⟨w.heap.size + 1, 4, none⟩ (.int .i64 0) = W4 at *
  have d0 := XB.cell 0 rfl
  have d1 := XB.cell 1 rfl
  have d2 := XB.cell 2 rfl
  have d3 := XB.cell 3 rfl
  have d4 := XB.cell 4 rfl
  refine bodyPost_ret (v := .tuple #[.agg #[.slice none 0 0, .slice none 0 0, .int .i64 0, .string (str o.name), .int .i64 0], .pointer (some ⟨f, 0, none⟩)]) (by simp [results, Tryz.results36, go_sem, d0, d1, d2, d3, d4]) rfl ?_
  have hlt := HF.out
  have h4 : Have K w0 W4 b F' (s) := ⟨K.same H2.out.D (fun i hi => XO.block i (K.lt H2.out.D i hi) (fun hh => by
    rcases T2.out.next i hi with q | q
    · have := hlt i q; omega
    · rw [HS3.out] at q; omega)) XO.size, H2.out.low, Below.trans H2.out.kp (XO.below (fun i hi => Nat.le_trans HK.out.kp.size hi.1) H2.out.kp.size)⟩
  have t4 : Turns w W4 F F' := T2.out.wrap KW.out hlt (XO.weak (fun i hi => hi.1))
  exact ⟨_, _, F', rfl, by
    rw [HDO.out]
    exact ⟨.slice none 0 0, .slice none 0 0, rfl, Own.nil _ _ _ _, Own.nil _ _ _ _⟩, by rw [HDO.out]; exact h4, t4, (by rw [HDO.out]; exact ⟨f, rfl, (XO.block f A2.out.lt (fun hh => by have := HA.out.2.1; rw [HS3.out] at this; omega)).trans A2.out, HA.out.2.2, HNM.out⟩), .inr (fun a e => by first | (cases e; done) | (cases e; have := HA.out.2.1; rw [HS3.out] at this; show w.heap.size ≤ f; omega))⟩

set_option maxHeartbeats 8000000 in
theorem does8_openN {K : DiskOk} {w0 w : World} {b : Nat} {F : Nat → Prop} {s : Ds} (hZ : K.Z w0) (h : Have K w0 w b F s) (o : Op8) (ho : Op8Ok w0 o) (fv : Value) (g : Option (List UInt8)) (hnm : o.name.length ≤ 70000) (hE : ¬ openE s o.name = 0) (hk : o.kind = 1) :
    Calls Tryz.prog 36 #[.pointer (some ⟨b, 0, none⟩), fv, .agg (op8C o).toArray] w (DoneV8 K w0 w b F s g o fv) := by
  have hF := K.lt h.D
  have kW : Keeps w (((w.alloc (.cells (op8C o).toArray 85)).alloc (.cells #[.slice none 0 0, .slice none 0 0, .int .i64 0, .string ⟨#[]⟩, .int .i64 0] 79)).alloc (.cells #[.slice none 0 0, .slice none 0 0, .int .i64 0, .string ⟨#[]⟩, .int .i64 0] 79)) := keeps_trans (keeps_trans (keeps_alloc _ _) (keeps_alloc _ _)) (keeps_alloc _ _)
  have hs3 : (((w.alloc (.cells (op8C o).toArray 85)).alloc (.cells #[.slice none 0 0, .slice none 0 0, .int .i64 0, .string ⟨#[]⟩, .int .i64 0] 79)).alloc (.cells #[.slice none 0 0, .slice none 0 0, .int .i64 0, .string ⟨#[]⟩, .int .i64 0] 79)).heap.size = w.heap.size + 3 := by simp
  have B1 := box_mid8 w (.cells (op8C o).toArray 85) 79 #[.slice none 0 0, .slice none 0 0, .int .i64 0, .string ⟨#[]⟩, .int .i64 0] (.cells #[.slice none 0 0, .slice none 0 0, .int .i64 0, .string ⟨#[]⟩, .int .i64 0] 79)
  have hw := h.keep kW
  have HD : doS8 s g o = (s, none, ⟨[], [], 0, [], openE s o.name⟩) := by unfold doS8; rw [hk]; rw [if_neg (by decide), if_pos rfl, if_neg hE, if_neg hE]
  have HE0 := Lib.hid hE
  have C := Lib.hid (pfOpen_made hw hZ o.name ho.nm rfl)
  have HF := Lib.hid hF
  have HK := Lib.hid h
  have HS3 := Lib.hid hs3
  have KW := Lib.hid kW
  have HDO := Lib.hid HD
  have HNM := Lib.hid hnm
  have hml := Lib.hid ho.nm
  unfold op8C opC strV at *
  rw [hk] at *
  clear hF h hw hs3 ho hZ HD hnm
  simp only [List.cons_append, List.nil_append] at *
  go_enter Tryz.func36, Tryz.ntmps36
  go_wp2_with fail
  refine C.out.mono ?_
  rintro e w1 ⟨F', h1, t1, ⟨hbad, -⟩ | ⟨-, rfl⟩⟩
  · exact absurd hbad HE0.out
  have NM := Lib.hid (nil8_Name w1)
  have n1 : ¬ F (w.heap.size + 1) := fun e => by have := HF.out _ e; omega
  have X0 := B1.turned t1 n1
  have H1 := Lib.hid h1
  have T1 := Lib.hid t1
  clear h1 t1 n1 B1
  go_wp2_with fail
  refine NM.out.mono ?_
  rintro e w2 ⟨rfl, k2⟩
  have X1 := X0.keep k2
  have H2 := Lib.hid (H1.out.keep k2)
  have T2 := Lib.hid (T1.out.trans (Turns.of_keeps k2))
  clear k2 X0
  have c10 := X1.cell 0 rfl
  have c11 := X1.cell 1 rfl
  have c12 := X1.cell 2 rfl
  have c13 := X1.cell 3 rfl
  have c14 := X1.cell 4 rfl
  have f10 := X1.frozen 0
  have f11 := X1.frozen 1
  have f12 := X1.frozen 2
  have f13 := X1.frozen 3
  have f14 := X1.frozen 4
  go_wp2_with fail
  have XB : Box ((((((w2).setCell ⟨w.heap.size + 1, 0, none⟩ (.slice none 0 0)).setCell ⟨w.heap.size + 1, 1, none⟩ (.slice none 0 0)).setCell ⟨w.heap.size + 1, 2, none⟩ (.int .i64 0)).setCell ⟨w.heap.size + 1, 3, none⟩ (.string ⟨#[]⟩)).setCell ⟨w.heap.size + 1, 4, none⟩ (.int .i64 (openE s o.name : Int))) (w.heap.size + 1) 79 #[.slice none 0 0, .slice none 0 0, .int .i64 0, .string ⟨#[]⟩, .int .i64 (openE s o.name : Int)] := by simpa using (((((X1.set 0 (.slice none 0 0)).set 1 (.slice none 0 0)).set 2 (.int .i64 0)).set 3 (.string ⟨#[]⟩)).set 4 (.int .i64 (openE s o.name : Int)))
  have XO : Only w2 ((((((w2).setCell ⟨w.heap.size + 1, 0, none⟩ (.slice none 0 0)).setCell ⟨w.heap.size + 1, 1, none⟩ (.slice none 0 0)).setCell ⟨w.heap.size + 1, 2, none⟩ (.int .i64 0)).setCell ⟨w.heap.size + 1, 3, none⟩ (.string ⟨#[]⟩)).setCell ⟨w.heap.size + 1, 4, none⟩ (.int .i64 (openE s o.name : Int))) (fun i => w.heap.size ≤ i ∧ i < w.heap.size + 3) := only_xt w2 (w.heap.size) (w.heap.size + 3) [((⟨w.heap.size + 1, 0, none⟩ : Addr), (.slice none 0 0 : Value)), ((⟨w.heap.size + 1, 1, none⟩ : Addr), (.slice none 0 0 : Value)), ((⟨w.heap.size + 1, 2, none⟩ : Addr), (.int .i64 0 : Value)), ((⟨w.heap.size + 1, 3, none⟩ : Addr), (.string ⟨#[]⟩ : Value)), ((⟨w.heap.size + 1, 4, none⟩ : Addr), (.int .i64 (openE s o.name : Int) : Value))] (by simp <;> omega)
  generalize (((((w2).setCell ⟨w.heap.size + 1, 0, none⟩ (.slice none 0 0)).setCell ⟨w.heap.size + 1, 1, none⟩ (.slice none 0 0)).setCell ⟨w.heap.size + 1, 2, none⟩ (.int .i64 0)).setCell ⟨w.heap.size + 1, 3, none⟩ (.string ⟨#[]⟩)).setCell ⟨w.heap.size + 1, 4, none⟩ (.int .i64 (openE s o.name : Int)) = W4 at *
  have d0 := XB.cell 0 rfl
  have d1 := XB.cell 1 rfl
  have d2 := XB.cell 2 rfl
  have d3 := XB.cell 3 rfl
  have d4 := XB.cell 4 rfl
  refine bodyPost_ret (v := .tuple #[.agg #[.slice none 0 0, .slice none 0 0, .int .i64 0, .string ⟨#[]⟩, .int .i64 (openE s o.name : Int)], .pointer none]) (by simp [results, Tryz.results36, go_sem, d0, d1, d2, d3, d4]) rfl ?_
  have hlt := HF.out
  have h4 : Have K w0 W4 b F' (s) := ⟨K.same H2.out.D (fun i hi => XO.block i (K.lt H2.out.D i hi) (fun hh => by
    rcases T2.out.next i hi with q | q
    · have := hlt i q; omega
    · rw [HS3.out] at q; omega)) XO.size, H2.out.low, Below.trans H2.out.kp (XO.below (fun i hi => Nat.le_trans HK.out.kp.size hi.1) H2.out.kp.size)⟩
  have t4 : Turns w W4 F F' := T2.out.wrap KW.out hlt (XO.weak (fun i hi => hi.1))
  exact ⟨_, _, F', rfl, by
    rw [HDO.out]
    exact ⟨.slice none 0 0, .slice none 0 0, rfl, Own.nil _ _ _ _, Own.nil _ _ _ _⟩, by rw [HDO.out]; exact h4, t4, (by rw [HDO.out]; rfl), .inr (fun a e => by first | (cases e; done) | (cases e; have := HA.out.2.1; rw [HS3.out] at this; show w.heap.size ≤ f; omega))⟩
end Go.Proofs.YtkhfffflegiapaaGreatDoor
