/- What milepostlaw08.meant does, kind by kind. (Written by mkmeant8.py.) -/
import Derived.Test.YtkhfffflegiapaaGreatDoorQPfDo3
import Derived.Test.YtkhfffflegiapaaGreatDoorQRefPf
namespace Go.Proofs.YtkhfffflegiapaaGreatDoor.Ref
open Go.RowKit
set_option linter.unusedSimpArgs false
set_option linter.unusedVariables false
set_option maxRecDepth 100000

theorem nil8_Name (w : World) : Calls Tryz.prog 75 #[.pointer none] w fun e w' => e = .returned (.string ⟨#[]⟩) ∧ Keeps w w' := by
  go_enter Tryz.func75, Tryz.ntmps75
  go_wp2_with fail
  go_ret
  exact ⟨rfl, keeps_refl _⟩
theorem nil8_Pages (w : World) : Calls Tryz.prog 80 #[.pointer none] w fun e w' => e = .returned (.tuple #[.int .i64 0, .int .i64 2]) ∧ Keeps w w' := by
  go_enter Tryz.func80, Tryz.ntmps80
  go_wp2_with fail
  go_returns
  exact ⟨rfl, keeps_refl _⟩
theorem nil8_Read (k : Int) (w : World) : Calls Tryz.prog 77 #[.pointer none, .int .i64 k] w fun e w' => e = .returned (.tuple #[.slice none 0 0, .int .i64 2]) ∧ Keeps w w' := by
  go_enter Tryz.func77, Tryz.ntmps77
  go_wp2_with fail
  go_returns
  exact ⟨rfl, keeps_refl _⟩
theorem nil8_Write (k : Int) (A : Option Addr) (n c : Nat) (w : World) : Calls Tryz.prog 78 #[.pointer none, .int .i64 k, .slice A n c] w fun e w' => e = .returned (.int .i64 2) ∧ Keeps w w' := by
  go_enter Tryz.func78, Tryz.ntmps78
  go_wp2_with fail
  go_ret
  exact ⟨rfl, keeps_refl _⟩
theorem nil8_Sync (w : World) : Calls Tryz.prog 79 #[.pointer none] w fun e w' => e = .returned (.int .i64 2) ∧ Keeps w w' := by
  go_enter Tryz.func79, Tryz.ntmps79
  go_wp2_with fail
  go_ret
  exact ⟨rfl, keeps_refl _⟩
/-- the file that is held, or none -/
def HeldAt (w : World) (b : Nat) (F : Nat → Prop) : Option (List UInt8) → Value → Prop
  | none, fv => fv = .pointer none
  | some nm, fv => ∃ f, fv = .pointer (some ⟨f, 0, none⟩) ∧ PfAt w f b nm ∧ ¬ F f ∧ nm.length ≤ 70000
theorem HeldAt.turn {w w' : World} {b : Nat} {F F' : Nat → Prop} {g : Option (List UInt8)} {fv : Value} (h : HeldAt w b F g fv) (t : Turns w w' F F') : HeldAt w' b F' g fv := by
  cases g with
  | none => exact h
  | some nm =>
    obtain ⟨f, e, h1, h2, h3⟩ := h
    obtain ⟨k1, k2⟩ := h1.turn t h2
    exact ⟨f, e, k1, k2, h3⟩
theorem HeldAt.keep {w w' : World} {b : Nat} {F : Nat → Prop} {g : Option (List UInt8)} {fv : Value} (h : HeldAt w b F g fv) (k : Keeps w w') : HeldAt w' b F g fv := h.turn (Turns.of_keeps k)
def DoneV8 (K : DiskOk) (w0 w : World) (b : Nat) (F : Nat → Prop) (s : Ds) (g : Option (List UInt8)) (o : Op8) (fv0 : Value) (e : Ending) (w' : World) : Prop :=
  ∃ v fv F', e = .returned (.tuple #[v, fv]) ∧ ToldAt w' w.heap.size (doS8 s g o).2.2 v ∧ Have K w0 w' b F' (doS8 s g o).1 ∧ Turns w w' F F' ∧ HeldAt w' b F' (doS8 s g o).2.1 fv ∧ (fv = fv0 ∨ ∀ a, fv = .pointer (some a) → w.heap.size ≤ a.block)


set_option maxHeartbeats 8000000 in
theorem does8_sync {K : DiskOk} {w0 w : World} {b : Nat} {F : Nat → Prop} {s : Ds} (hZ : K.Z w0) (hs7 : s.l.length ≤ 70000) (h : Have K w0 w b F s) (o : Op8) (ho : Op8Ok w0 o) {f : Nat} {nm : List UInt8} (hf : PfAt w f b nm) (hnf : ¬ F f) (hnm : nm.length ≤ 70000) (hk : o.kind = 4) :
    Calls Tryz.prog 37 #[.pointer (some ⟨b, 0, none⟩), .pointer (some ⟨f, 0, none⟩), .agg (op8C o).toArray] w (DoneV8 K w0 w b F s (some nm) o (.pointer (some ⟨f, 0, none⟩))) := by
  have hF := K.lt h.D
  have kW : Keeps w (((w.alloc (.cells (op8C o).toArray 85)).alloc (.cells #[.slice none 0 0, .slice none 0 0, .int .i64 0, .string ⟨#[]⟩, .int .i64 0] 79)).alloc (.cells #[.slice none 0 0, .slice none 0 0, .int .i64 0, .string ⟨#[]⟩, .int .i64 0] 79)) := keeps_trans (keeps_trans (keeps_alloc _ _) (keeps_alloc _ _)) (keeps_alloc _ _)
  have hs3 : (((w.alloc (.cells (op8C o).toArray 85)).alloc (.cells #[.slice none 0 0, .slice none 0 0, .int .i64 0, .string ⟨#[]⟩, .int .i64 0] 79)).alloc (.cells #[.slice none 0 0, .slice none 0 0, .int .i64 0, .string ⟨#[]⟩, .int .i64 0] 79)).heap.size = w.heap.size + 3 := by simp
  have B1 := box_mid8 w (.cells (op8C o).toArray 85) 79 #[.slice none 0 0, .slice none 0 0, .int .i64 0, .string ⟨#[]⟩, .int .i64 0] (.cells #[.slice none 0 0, .slice none 0 0, .int .i64 0, .string ⟨#[]⟩, .int .i64 0] 79)
  have B2 := box_third8 w (.cells (op8C o).toArray 85) (.cells #[.slice none 0 0, .slice none 0 0, .int .i64 0, .string ⟨#[]⟩, .int .i64 0] 79) 79 #[.slice none 0 0, .slice none 0 0, .int .i64 0, .string ⟨#[]⟩, .int .i64 0]
  have hw := h.keep kW
  have HD : doS8 s (some nm) o = ((syncS s nm).1, some nm, ⟨[], [], 0, [], (syncS s nm).2⟩) := by unfold doS8; rw [hk]; rfl
  have C := Lib.hid (pfSync_any hw hZ hs7 (hf.keep kW) (by unfold maxLen; omega) (s' := (syncS s nm).1) (E := (syncS s nm).2) rfl)
  have HF := Lib.hid hF
  have HK := Lib.hid h.kp
  have HS3 := Lib.hid hs3
  have KW := Lib.hid kW
  have HH := Lib.hid (And.intro hf (And.intro hnf hnm))
  unfold op8C opC strV at *
  rw [hk] at *
  clear hF h hw hs3 ho hZ
  simp only [List.cons_append, List.nil_append] at *
  go_enter Tryz.func37, Tryz.ntmps37
  go_wp2_with fail
  refine C.out.mono ?_
  rintro e w1 ⟨rfl, F', hD, hT⟩
  have n1 : ¬ F (w.heap.size + 1) := fun e => by have := HF.out _ e; omega
  have n2 : ¬ F (w.heap.size + 1 + 1) := fun e => by have := HF.out _ e; omega
  have X1 := B1.turned hT n1
  have X2 := B2.turned hT n2
  have c10 := X1.cell 0 rfl
  have c11 := X1.cell 1 rfl
  have c12 := X1.cell 2 rfl
  have c13 := X1.cell 3 rfl
  have c14 := X1.cell 4 rfl
  have f10 := X1.frozen 0
  have f11 := X1.frozen 1
  have f12 := X1.frozen 2
  have f13 := X1.frozen 3
  have f14 := X1.frozen 4
  have c20 := X2.cell 0 rfl
  have c21 := X2.cell 1 rfl
  have c22 := X2.cell 2 rfl
  have c23 := X2.cell 3 rfl
  have c24 := X2.cell 4 rfl
  have f24 := X2.frozen 4
  have HDD := Lib.hid hD
  have HT := Lib.hid hT
  have HDO := Lib.hid HD
  clear hD hT B1 B2 X2 n1 n2 HD
  obtain ⟨E, hE⟩ : ∃ E : Int, (((syncS s nm).2 : Nat) : Int) = E := ⟨_, rfl⟩
  rw [hE]
  have HE := Lib.hid hE.symm
  clear hE
  go_wp2_with fail
  have XB : Box (((((((w1).setCell ⟨w.heap.size + 1 + 1, 4, none⟩ (.int .i64 E)).setCell ⟨w.heap.size + 1, 0, none⟩ (.slice none 0 0)).setCell ⟨w.heap.size + 1, 1, none⟩ (.slice none 0 0)).setCell ⟨w.heap.size + 1, 2, none⟩ (.int .i64 0)).setCell ⟨w.heap.size + 1, 3, none⟩ (.string ⟨#[]⟩)).setCell ⟨w.heap.size + 1, 4, none⟩ (.int .i64 E)) (w.heap.size + 1) 79 #[.slice none 0 0, .slice none 0 0, .int .i64 0, .string ⟨#[]⟩, .int .i64 E] := by simpa using ((((((X1.far (p := ⟨w.heap.size + 1 + 1, 4, none⟩) (show w.heap.size + 1 ≠ w.heap.size + 1 + 1 by omega) (.int .i64 E)).set 0 (.slice none 0 0)).set 1 (.slice none 0 0)).set 2 (.int .i64 0)).set 3 (.string ⟨#[]⟩)).set 4 (.int .i64 E))
  have XO : Only w1 (((((((w1).setCell ⟨w.heap.size + 1 + 1, 4, none⟩ (.int .i64 E)).setCell ⟨w.heap.size + 1, 0, none⟩ (.slice none 0 0)).setCell ⟨w.heap.size + 1, 1, none⟩ (.slice none 0 0)).setCell ⟨w.heap.size + 1, 2, none⟩ (.int .i64 0)).setCell ⟨w.heap.size + 1, 3, none⟩ (.string ⟨#[]⟩)).setCell ⟨w.heap.size + 1, 4, none⟩ (.int .i64 E)) (fun i => w.heap.size ≤ i ∧ i < w.heap.size + 3) := only_xt w1 (w.heap.size) (w.heap.size + 3) [((⟨w.heap.size + 1 + 1, 4, none⟩ : Addr), (.int .i64 E : Value)), ((⟨w.heap.size + 1, 0, none⟩ : Addr), (.slice none 0 0 : Value)), ((⟨w.heap.size + 1, 1, none⟩ : Addr), (.slice none 0 0 : Value)), ((⟨w.heap.size + 1, 2, none⟩ : Addr), (.int .i64 0 : Value)), ((⟨w.heap.size + 1, 3, none⟩ : Addr), (.string ⟨#[]⟩ : Value)), ((⟨w.heap.size + 1, 4, none⟩ : Addr), (.int .i64 E : Value))] (by simp <;> omega)
  generalize ((((((w1).setCell ⟨w.heap.size + 1 + 1, 4, none⟩ (.int .i64 E)).setCell ⟨w.heap.size + 1, 0, none⟩ (.slice none 0 0)).setCell ⟨w.heap.size + 1, 1, none⟩ (.slice none 0 0)).setCell ⟨w.heap.size + 1, 2, none⟩ (.int .i64 0)).setCell ⟨w.heap.size + 1, 3, none⟩ (.string ⟨#[]⟩)).setCell ⟨w.heap.size + 1, 4, none⟩ (.int .i64 E) = W4 at *
  have d0 := XB.cell 0 rfl
  have d1 := XB.cell 1 rfl
  have d2 := XB.cell 2 rfl
  have d3 := XB.cell 3 rfl
  have d4 := XB.cell 4 rfl
  refine bodyPost_ret (v := .tuple #[.agg #[.slice none 0 0, .slice none 0 0, .int .i64 0, .string ⟨#[]⟩, .int .i64 E], .pointer (some ⟨f, 0, none⟩)]) (by simp [results, Tryz.results37, go_sem, d0, d1, d2, d3, d4]) rfl ?_
  have hlt := HF.out
  have h4 : Have K w0 W4 b F' ((syncS s nm).1) := ⟨K.same HDD.out.D (fun i hi => XO.block i (K.lt HDD.out.D i hi) (fun hh => by
    rcases HT.out.next i hi with q | q
    · have := hlt i q; omega
    · rw [HS3.out] at q; omega)) XO.size, HDD.out.low, Below.trans HDD.out.kp (XO.below (fun i hi => Nat.le_trans HK.out.size hi.1) (Nat.le_trans HK.out.size (Nat.le_trans KW.out.size HT.out.only.size)))⟩
  have t4 : Turns w W4 F F' := HT.out.wrap KW.out hlt (XO.weak (fun i hi => hi.1))
  exact ⟨_, _, F', rfl, by
    rw [HDO.out]
    exact ⟨.slice none 0 0, .slice none 0 0, by rw [← HE.out]; rfl, Own.nil _ _ _ _, Own.nil _ _ _ _⟩, by rw [HDO.out]; exact h4, t4, (by rw [HDO.out]; exact ⟨f, rfl, (HH.out.1.turn t4 HH.out.2.1).1, (HH.out.1.turn t4 HH.out.2.1).2, HH.out.2.2⟩), .inl rfl⟩

set_option maxHeartbeats 8000000 in
theorem does8_syncN {K : DiskOk} {w0 w : World} {b : Nat} {F : Nat → Prop} {s : Ds} (hZ : K.Z w0) (hs7 : s.l.length ≤ 70000) (h : Have K w0 w b F s) (o : Op8) (ho : Op8Ok w0 o)  (hk : o.kind = 4) :
    Calls Tryz.prog 37 #[.pointer (some ⟨b, 0, none⟩), .pointer none, .agg (op8C o).toArray] w (DoneV8 K w0 w b F s none o (.pointer none)) := by
  have hF := K.lt h.D
  have kW : Keeps w (((w.alloc (.cells (op8C o).toArray 85)).alloc (.cells #[.slice none 0 0, .slice none 0 0, .int .i64 0, .string ⟨#[]⟩, .int .i64 0] 79)).alloc (.cells #[.slice none 0 0, .slice none 0 0, .int .i64 0, .string ⟨#[]⟩, .int .i64 0] 79)) := keeps_trans (keeps_trans (keeps_alloc _ _) (keeps_alloc _ _)) (keeps_alloc _ _)
  have hs3 : (((w.alloc (.cells (op8C o).toArray 85)).alloc (.cells #[.slice none 0 0, .slice none 0 0, .int .i64 0, .string ⟨#[]⟩, .int .i64 0] 79)).alloc (.cells #[.slice none 0 0, .slice none 0 0, .int .i64 0, .string ⟨#[]⟩, .int .i64 0] 79)).heap.size = w.heap.size + 3 := by simp
  have B1 := box_mid8 w (.cells (op8C o).toArray 85) 79 #[.slice none 0 0, .slice none 0 0, .int .i64 0, .string ⟨#[]⟩, .int .i64 0] (.cells #[.slice none 0 0, .slice none 0 0, .int .i64 0, .string ⟨#[]⟩, .int .i64 0] 79)
  have B2 := box_third8 w (.cells (op8C o).toArray 85) (.cells #[.slice none 0 0, .slice none 0 0, .int .i64 0, .string ⟨#[]⟩, .int .i64 0] 79) 79 #[.slice none 0 0, .slice none 0 0, .int .i64 0, .string ⟨#[]⟩, .int .i64 0]
  have hw := h.keep kW
  have HD : doS8 s none o = (s, none, ⟨[], [], 0, [], 2⟩) := by unfold doS8; rw [hk]; rfl
  have C := Lib.hid ((nil8_Sync (((w.alloc (.cells (op8C o).toArray 85)).alloc (.cells #[.slice none 0 0, .slice none 0 0, .int .i64 0, .string ⟨#[]⟩, .int .i64 0] 79)).alloc (.cells #[.slice none 0 0, .slice none 0 0, .int .i64 0, .string ⟨#[]⟩, .int .i64 0] 79))).mono (R' := WentU K w0 (((w.alloc (.cells (op8C o).toArray 85)).alloc (.cells #[.slice none 0 0, .slice none 0 0, .int .i64 0, .string ⟨#[]⟩, .int .i64 0] 79)).alloc (.cells #[.slice none 0 0, .slice none 0 0, .int .i64 0, .string ⟨#[]⟩, .int .i64 0] 79)) b F s 2) (fun e w' q => by rw [q.1]; exact went_keep hw q.2))
  have HF := Lib.hid hF
  have HK := Lib.hid h.kp
  have HS3 := Lib.hid hs3
  have KW := Lib.hid kW
  
  unfold op8C opC strV at *
  rw [hk] at *
  clear hF h hw hs3 ho hZ
  simp only [List.cons_append, List.nil_append] at *
  go_enter Tryz.func37, Tryz.ntmps37
  go_wp2_with fail
  refine C.out.mono ?_
  rintro e w1 ⟨rfl, F', hD, hT⟩
  have n1 : ¬ F (w.heap.size + 1) := fun e => by have := HF.out _ e; omega
  have n2 : ¬ F (w.heap.size + 1 + 1) := fun e => by have := HF.out _ e; omega
  have X1 := B1.turned hT n1
  have X2 := B2.turned hT n2
  have c10 := X1.cell 0 rfl
  have c11 := X1.cell 1 rfl
  have c12 := X1.cell 2 rfl
  have c13 := X1.cell 3 rfl
  have c14 := X1.cell 4 rfl
  have f10 := X1.frozen 0
  have f11 := X1.frozen 1
  have f12 := X1.frozen 2
  have f13 := X1.frozen 3
  have f14 := X1.frozen 4
  have c20 := X2.cell 0 rfl
  have c21 := X2.cell 1 rfl
  have c22 := X2.cell 2 rfl
  have c23 := X2.cell 3 rfl
  have c24 := X2.cell 4 rfl
  have f24 := X2.frozen 4
  have HDD := Lib.hid hD
  have HT := Lib.hid hT
  have HDO := Lib.hid HD
  clear hD hT B1 B2 X2 n1 n2 HD
  obtain ⟨E, hE⟩ : ∃ E : Int, (((2 : Nat) : Nat) : Int) = E := ⟨_, rfl⟩
  rw [hE]
  have HE := Lib.hid hE.symm
  clear hE
  go_wp2_with fail
  have XB : Box (((((((w1).setCell ⟨w.heap.size + 1 + 1, 4, none⟩ (.int .i64 E)).setCell ⟨w.heap.size + 1, 0, none⟩ (.slice none 0 0)).setCell ⟨w.heap.size + 1, 1, none⟩ (.slice none 0 0)).setCell ⟨w.heap.size + 1, 2, none⟩ (.int .i64 0)).setCell ⟨w.heap.size + 1, 3, none⟩ (.string ⟨#[]⟩)).setCell ⟨w.heap.size + 1, 4, none⟩ (.int .i64 E)) (w.heap.size + 1) 79 #[.slice none 0 0, .slice none 0 0, .int .i64 0, .string ⟨#[]⟩, .int .i64 E] := by simpa using ((((((X1.far (p := ⟨w.heap.size + 1 + 1, 4, none⟩) (show w.heap.size + 1 ≠ w.heap.size + 1 + 1 by omega) (.int .i64 E)).set 0 (.slice none 0 0)).set 1 (.slice none 0 0)).set 2 (.int .i64 0)).set 3 (.string ⟨#[]⟩)).set 4 (.int .i64 E))
  have XO : Only w1 (((((((w1).setCell ⟨w.heap.size + 1 + 1, 4, none⟩ (.int .i64 E)).setCell ⟨w.heap.size + 1, 0, none⟩ (.slice none 0 0)).setCell ⟨w.heap.size + 1, 1, none⟩ (.slice none 0 0)).setCell ⟨w.heap.size + 1, 2, none⟩ (.int .i64 0)).setCell ⟨w.heap.size + 1, 3, none⟩ (.string ⟨#[]⟩)).setCell ⟨w.heap.size + 1, 4, none⟩ (.int .i64 E)) (fun i => w.heap.size ≤ i ∧ i < w.heap.size + 3) := only_xt w1 (w.heap.size) (w.heap.size + 3) [((⟨w.heap.size + 1 + 1, 4, none⟩ : Addr), (.int .i64 E : Value)), ((⟨w.heap.size + 1, 0, none⟩ : Addr), (.slice none 0 0 : Value)), ((⟨w.heap.size + 1, 1, none⟩ : Addr), (.slice none 0 0 : Value)), ((⟨w.heap.size + 1, 2, none⟩ : Addr), (.int .i64 0 : Value)), ((⟨w.heap.size + 1, 3, none⟩ : Addr), (.string ⟨#[]⟩ : Value)), ((⟨w.heap.size + 1, 4, none⟩ : Addr), (.int .i64 E : Value))] (by simp <;> omega)
  generalize ((((((w1).setCell ⟨w.heap.size + 1 + 1, 4, none⟩ (.int .i64 E)).setCell ⟨w.heap.size + 1, 0, none⟩ (.slice none 0 0)).setCell ⟨w.heap.size + 1, 1, none⟩ (.slice none 0 0)).setCell ⟨w.heap.size + 1, 2, none⟩ (.int .i64 0)).setCell ⟨w.heap.size + 1, 3, none⟩ (.string ⟨#[]⟩)).setCell ⟨w.heap.size + 1, 4, none⟩ (.int .i64 E) = W4 at *
  have d0 := XB.cell 0 rfl
  have d1 := XB.cell 1 rfl
  have d2 := XB.cell 2 rfl
  have d3 := XB.cell 3 rfl
  have d4 := XB.cell 4 rfl
  refine bodyPost_ret (v := .tuple #[.agg #[.slice none 0 0, .slice none 0 0, .int .i64 0, .string ⟨#[]⟩, .int .i64 E], .pointer none]) (by simp [results, Tryz.results37, go_sem, d0, d1, d2, d3, d4]) rfl ?_
  have hlt := HF.out
  have h4 : Have K w0 W4 b F' (s) := ⟨K.same HDD.out.D (fun i hi => XO.block i (K.lt HDD.out.D i hi) (fun hh => by
    rcases HT.out.next i hi with q | q
    · have := hlt i q; omega
    · rw [HS3.out] at q; omega)) XO.size, HDD.out.low, Below.trans HDD.out.kp (XO.below (fun i hi => Nat.le_trans HK.out.size hi.1) (Nat.le_trans HK.out.size (Nat.le_trans KW.out.size HT.out.only.size)))⟩
  have t4 : Turns w W4 F F' := HT.out.wrap KW.out hlt (XO.weak (fun i hi => hi.1))
  exact ⟨_, _, F', rfl, by
    rw [HDO.out]
    exact ⟨.slice none 0 0, .slice none 0 0, by rw [← HE.out]; rfl, Own.nil _ _ _ _, Own.nil _ _ _ _⟩, by rw [HDO.out]; exact h4, t4, (by rw [HDO.out]; rfl), .inl rfl⟩

set_option maxHeartbeats 8000000 in
theorem does8_raw {K : DiskOk} {w0 w : World} {b : Nat} {F : Nat → Prop} {s : Ds} (hZ : K.Z w0) (hs7 : s.l.length ≤ 70000) (h : Have K w0 w b F s) (o : Op8) (ho : Op8Ok w0 o) {g : Option (List UInt8)} {fv : Value} (hg : HeldAt w b F g fv) (hm : o.d.len ≤ 70000) (hm2 : o.d.len2 ≤ 70000) (hk : o.kind = 7) :
    Calls Tryz.prog 37 #[.pointer (some ⟨b, 0, none⟩), fv, .agg (op8C o).toArray] w (DoneV8 K w0 w b F s g o (fv)) := by
  have hF := K.lt h.D
  have kW : Keeps w (((w.alloc (.cells (op8C o).toArray 85)).alloc (.cells #[.slice none 0 0, .slice none 0 0, .int .i64 0, .string ⟨#[]⟩, .int .i64 0] 79)).alloc (.cells #[.slice none 0 0, .slice none 0 0, .int .i64 0, .string ⟨#[]⟩, .int .i64 0] 79)) := keeps_trans (keeps_trans (keeps_alloc _ _) (keeps_alloc _ _)) (keeps_alloc _ _)
  have hs3 : (((w.alloc (.cells (op8C o).toArray 85)).alloc (.cells #[.slice none 0 0, .slice none 0 0, .int .i64 0, .string ⟨#[]⟩, .int .i64 0] 79)).alloc (.cells #[.slice none 0 0, .slice none 0 0, .int .i64 0, .string ⟨#[]⟩, .int .i64 0] 79)).heap.size = w.heap.size + 3 := by simp
  have B1 := box_mid8 w (.cells (op8C o).toArray 85) 79 #[.slice none 0 0, .slice none 0 0, .int .i64 0, .string ⟨#[]⟩, .int .i64 0] (.cells #[.slice none 0 0, .slice none 0 0, .int .i64 0, .string ⟨#[]⟩, .int .i64 0] 79)
  have B2 := box_third8 w (.cells (op8C o).toArray 85) (.cells #[.slice none 0 0, .slice none 0 0, .int .i64 0, .string ⟨#[]⟩, .int .i64 0] 79) 79 #[.slice none 0 0, .slice none 0 0, .int .i64 0, .string ⟨#[]⟩, .int .i64 0]
  have hw := h.keep kW
  have HD : doS8 s g o = ((rawS s o.d.x).1, g, ⟨[], [], 0, [], (rawS s o.d.x).2⟩) := by unfold doS8; rw [hk]; rfl
  have C := Lib.hid (raw_any hw hZ hs7 o.d ho.d hm hm2)
  have HF := Lib.hid hF
  have HK := Lib.hid h.kp
  have HS3 := Lib.hid hs3
  have KW := Lib.hid kW
  have HH := Lib.hid hg
  unfold opA at C
  unfold op8C opC strV at *
  rw [hk] at *
  clear hF h hw hs3 ho hZ
  simp only [List.cons_append, List.nil_append] at *
  go_enter Tryz.func37, Tryz.ntmps37
  go_wp2_with fail
  refine C.out.mono ?_
  rintro e w1 ⟨rfl, F', hD, hT⟩
  have n1 : ¬ F (w.heap.size + 1) := fun e => by have := HF.out _ e; omega
  have n2 : ¬ F (w.heap.size + 1 + 1) := fun e => by have := HF.out _ e; omega
  have X1 := B1.turned hT n1
  have X2 := B2.turned hT n2
  have c10 := X1.cell 0 rfl
  have c11 := X1.cell 1 rfl
  have c12 := X1.cell 2 rfl
  have c13 := X1.cell 3 rfl
  have c14 := X1.cell 4 rfl
  have f10 := X1.frozen 0
  have f11 := X1.frozen 1
  have f12 := X1.frozen 2
  have f13 := X1.frozen 3
  have f14 := X1.frozen 4
  have c20 := X2.cell 0 rfl
  have c21 := X2.cell 1 rfl
  have c22 := X2.cell 2 rfl
  have c23 := X2.cell 3 rfl
  have c24 := X2.cell 4 rfl
  have f24 := X2.frozen 4
  have HDD := Lib.hid hD
  have HT := Lib.hid hT
  have HDO := Lib.hid HD
  clear hD hT B1 B2 X2 n1 n2 HD
  obtain ⟨E, hE⟩ : ∃ E : Int, (((rawS s o.d.x).2 : Nat) : Int) = E := ⟨_, rfl⟩
  rw [hE]
  have HE := Lib.hid hE.symm
  clear hE
  go_wp2_with fail
  have XB : Box (((((((w1).setCell ⟨w.heap.size + 1 + 1, 4, none⟩ (.int .i64 E)).setCell ⟨w.heap.size + 1, 0, none⟩ (.slice none 0 0)).setCell ⟨w.heap.size + 1, 1, none⟩ (.slice none 0 0)).setCell ⟨w.heap.size + 1, 2, none⟩ (.int .i64 0)).setCell ⟨w.heap.size + 1, 3, none⟩ (.string ⟨#[]⟩)).setCell ⟨w.heap.size + 1, 4, none⟩ (.int .i64 E)) (w.heap.size + 1) 79 #[.slice none 0 0, .slice none 0 0, .int .i64 0, .string ⟨#[]⟩, .int .i64 E] := by simpa using ((((((X1.far (p := ⟨w.heap.size + 1 + 1, 4, none⟩) (show w.heap.size + 1 ≠ w.heap.size + 1 + 1 by omega) (.int .i64 E)).set 0 (.slice none 0 0)).set 1 (.slice none 0 0)).set 2 (.int .i64 0)).set 3 (.string ⟨#[]⟩)).set 4 (.int .i64 E))
  have XO : Only w1 (((((((w1).setCell ⟨w.heap.size + 1 + 1, 4, none⟩ (.int .i64 E)).setCell ⟨w.heap.size + 1, 0, none⟩ (.slice none 0 0)).setCell ⟨w.heap.size + 1, 1, none⟩ (.slice none 0 0)).setCell ⟨w.heap.size + 1, 2, none⟩ (.int .i64 0)).setCell ⟨w.heap.size + 1, 3, none⟩ (.string ⟨#[]⟩)).setCell ⟨w.heap.size + 1, 4, none⟩ (.int .i64 E)) (fun i => w.heap.size ≤ i ∧ i < w.heap.size + 3) := only_xt w1 (w.heap.size) (w.heap.size + 3) [((⟨w.heap.size + 1 + 1, 4, none⟩ : Addr), (.int .i64 E : Value)), ((⟨w.heap.size + 1, 0, none⟩ : Addr), (.slice none 0 0 : Value)), ((⟨w.heap.size + 1, 1, none⟩ : Addr), (.slice none 0 0 : Value)), ((⟨w.heap.size + 1, 2, none⟩ : Addr), (.int .i64 0 : Value)), ((⟨w.heap.size + 1, 3, none⟩ : Addr), (.string ⟨#[]⟩ : Value)), ((⟨w.heap.size + 1, 4, none⟩ : Addr), (.int .i64 E : Value))] (by simp <;> omega)
  generalize ((((((w1).setCell ⟨w.heap.size + 1 + 1, 4, none⟩ (.int .i64 E)).setCell ⟨w.heap.size + 1, 0, none⟩ (.slice none 0 0)).setCell ⟨w.heap.size + 1, 1, none⟩ (.slice none 0 0)).setCell ⟨w.heap.size + 1, 2, none⟩ (.int .i64 0)).setCell ⟨w.heap.size + 1, 3, none⟩ (.string ⟨#[]⟩)).setCell ⟨w.heap.size + 1, 4, none⟩ (.int .i64 E) = W4 at *
  have d0 := XB.cell 0 rfl
  have d1 := XB.cell 1 rfl
  have d2 := XB.cell 2 rfl
  have d3 := XB.cell 3 rfl
  have d4 := XB.cell 4 rfl
  refine bodyPost_ret (v := .tuple #[.agg #[.slice none 0 0, .slice none 0 0, .int .i64 0, .string ⟨#[]⟩, .int .i64 E], fv]) (by simp [results, Tryz.results37, go_sem, d0, d1, d2, d3, d4]) rfl ?_
  have hlt := HF.out
  have h4 : Have K w0 W4 b F' ((rawS s o.d.x).1) := ⟨K.same HDD.out.D (fun i hi => XO.block i (K.lt HDD.out.D i hi) (fun hh => by
    rcases HT.out.next i hi with q | q
    · have := hlt i q; omega
    · rw [HS3.out] at q; omega)) XO.size, HDD.out.low, Below.trans HDD.out.kp (XO.below (fun i hi => Nat.le_trans HK.out.size hi.1) (Nat.le_trans HK.out.size (Nat.le_trans KW.out.size HT.out.only.size)))⟩
  have t4 : Turns w W4 F F' := HT.out.wrap KW.out hlt (XO.weak (fun i hi => hi.1))
  exact ⟨_, _, F', rfl, by
    rw [HDO.out]
    exact ⟨.slice none 0 0, .slice none 0 0, by rw [← HE.out]; rfl, Own.nil _ _ _ _, Own.nil _ _ _ _⟩, by rw [HDO.out]; exact h4, t4, (by rw [HDO.out]; exact HH.out.turn t4), .inl rfl⟩

set_option maxHeartbeats 8000000 in
theorem does8_pages {K : DiskOk} {w0 w : World} {b : Nat} {F : Nat → Prop} {s : Ds} (hZ : K.Z w0) (hs7 : s.l.length ≤ 70000) (h : Have K w0 w b F s) (o : Op8) (ho : Op8Ok w0 o) {f : Nat} {nm : List UInt8} (hf : PfAt w f b nm) (hnf : ¬ F f) (hnm : nm.length ≤ 70000) (hk : o.kind = 5) :
    Calls Tryz.prog 37 #[.pointer (some ⟨b, 0, none⟩), .pointer (some ⟨f, 0, none⟩), .agg (op8C o).toArray] w (DoneV8 K w0 w b F s (some nm) o (.pointer (some ⟨f, 0, none⟩))) := by
  have hF := K.lt h.D
  have kW : Keeps w (((w.alloc (.cells (op8C o).toArray 85)).alloc (.cells #[.slice none 0 0, .slice none 0 0, .int .i64 0, .string ⟨#[]⟩, .int .i64 0] 79)).alloc (.cells #[.slice none 0 0, .slice none 0 0, .int .i64 0, .string ⟨#[]⟩, .int .i64 0] 79)) := keeps_trans (keeps_trans (keeps_alloc _ _) (keeps_alloc _ _)) (keeps_alloc _ _)
  have hs3 : (((w.alloc (.cells (op8C o).toArray 85)).alloc (.cells #[.slice none 0 0, .slice none 0 0, .int .i64 0, .string ⟨#[]⟩, .int .i64 0] 79)).alloc (.cells #[.slice none 0 0, .slice none 0 0, .int .i64 0, .string ⟨#[]⟩, .int .i64 0] 79)).heap.size = w.heap.size + 3 := by simp
  have B1 := box_mid8 w (.cells (op8C o).toArray 85) 79 #[.slice none 0 0, .slice none 0 0, .int .i64 0, .string ⟨#[]⟩, .int .i64 0] (.cells #[.slice none 0 0, .slice none 0 0, .int .i64 0, .string ⟨#[]⟩, .int .i64 0] 79)
  have B2 := box_third8 w (.cells (op8C o).toArray 85) (.cells #[.slice none 0 0, .slice none 0 0, .int .i64 0, .string ⟨#[]⟩, .int .i64 0] 79) 79 #[.slice none 0 0, .slice none 0 0, .int .i64 0, .string ⟨#[]⟩, .int .i64 0]
  have hw := h.keep kW
  have HD : doS8 s (some nm) o = (s, some nm, ⟨[], [], ((sizeS s nm).1 / 256 : Nat), [], (sizeS s nm).2⟩) := by unfold doS8; rw [hk]; rfl
  
  have C := Lib.hid (pfPages_any hw hZ hs7 (hf.keep kW) (by unfold maxLen; omega) (n := (sizeS s nm).1) (E := (sizeS s nm).2) rfl (size_le (K.ok h.D) nm))
  have HF := Lib.hid hF
  have HK := Lib.hid h
  have HS3 := Lib.hid hs3
  have KW := Lib.hid kW
  have HDO := Lib.hid HD
  have HH := Lib.hid (And.intro hf (And.intro hnf hnm))
  generalize (sizeS s nm).1 / 256 = N at *
  generalize (sizeS s nm).2 = E at *
  unfold op8C opC strV at *
  rw [hk] at *
  clear hF h hw hs3 ho hZ HD
  simp only [List.cons_append, List.nil_append] at *
  go_enter Tryz.func37, Tryz.ntmps37
  go_wp2_with fail
  refine C.out.mono ?_
  rintro e w1 ⟨rfl, kk⟩
  have X1 := B1.keep kk
  have X2 := B2.keep kk
  have c10 := X1.cell 0 rfl
  have c11 := X1.cell 1 rfl
  have c12 := X1.cell 2 rfl
  have c13 := X1.cell 3 rfl
  have c14 := X1.cell 4 rfl
  have f10 := X1.frozen 0
  have f11 := X1.frozen 1
  have f12 := X1.frozen 2
  have f13 := X1.frozen 3
  have f14 := X1.frozen 4
  have c20 := X2.cell 0 rfl
  have c21 := X2.cell 1 rfl
  have c22 := X2.cell 2 rfl
  have c23 := X2.cell 3 rfl
  have c24 := X2.cell 4 rfl
  have f22 := X2.frozen 2
  have f24 := X2.frozen 4
  have KK := Lib.hid kk
  clear kk B1 B2 X2
  go_wp2_with fail
  have XB : Box ((((((((w1).setCell ⟨w.heap.size + 1 + 1, 2, none⟩ (.int .i64 (N : Int))).setCell ⟨w.heap.size + 1 + 1, 4, none⟩ (.int .i64 (E : Int))).setCell ⟨w.heap.size + 1, 0, none⟩ (.slice none 0 0)).setCell ⟨w.heap.size + 1, 1, none⟩ (.slice none 0 0)).setCell ⟨w.heap.size + 1, 2, none⟩ (.int .i64 (N : Int))).setCell ⟨w.heap.size + 1, 3, none⟩ (.string ⟨#[]⟩)).setCell ⟨w.heap.size + 1, 4, none⟩ (.int .i64 (E : Int))) (w.heap.size + 1) 79 #[.slice none 0 0, .slice none 0 0, .int .i64 (N : Int), .string ⟨#[]⟩, .int .i64 (E : Int)] := by simpa using (((((((X1.far (p := ⟨w.heap.size + 1 + 1, 2, none⟩) (show w.heap.size + 1 ≠ w.heap.size + 1 + 1 by omega) (.int .i64 (N : Int))).far (p := ⟨w.heap.size + 1 + 1, 4, none⟩) (show w.heap.size + 1 ≠ w.heap.size + 1 + 1 by omega) (.int .i64 (E : Int))).set 0 (.slice none 0 0)).set 1 (.slice none 0 0)).set 2 (.int .i64 (N : Int))).set 3 (.string ⟨#[]⟩)).set 4 (.int .i64 (E : Int)))
  have XO : Only w1 ((((((((w1).setCell ⟨w.heap.size + 1 + 1, 2, none⟩ (.int .i64 (N : Int))).setCell ⟨w.heap.size + 1 + 1, 4, none⟩ (.int .i64 (E : Int))).setCell ⟨w.heap.size + 1, 0, none⟩ (.slice none 0 0)).setCell ⟨w.heap.size + 1, 1, none⟩ (.slice none 0 0)).setCell ⟨w.heap.size + 1, 2, none⟩ (.int .i64 (N : Int))).setCell ⟨w.heap.size + 1, 3, none⟩ (.string ⟨#[]⟩)).setCell ⟨w.heap.size + 1, 4, none⟩ (.int .i64 (E : Int))) (fun i => w.heap.size ≤ i ∧ i < w.heap.size + 3) := only_xt w1 (w.heap.size) (w.heap.size + 3) [((⟨w.heap.size + 1 + 1, 2, none⟩ : Addr), (.int .i64 (N : Int) : Value)), ((⟨w.heap.size + 1 + 1, 4, none⟩ : Addr), (.int .i64 (E : Int) : Value)), ((⟨w.heap.size + 1, 0, none⟩ : Addr), (.slice none 0 0 : Value)), ((⟨w.heap.size + 1, 1, none⟩ : Addr), (.slice none 0 0 : Value)), ((⟨w.heap.size + 1, 2, none⟩ : Addr), (.int .i64 (N : Int) : Value)), ((⟨w.heap.size + 1, 3, none⟩ : Addr), (.string ⟨#[]⟩ : Value)), ((⟨w.heap.size + 1, 4, none⟩ : Addr), (.int .i64 (E : Int) : Value))] (by simp <;> omega)
  generalize (((((((w1).setCell ⟨w.heap.size + 1 + 1, 2, none⟩ (.int .i64 (N : Int))).setCell ⟨w.heap.size + 1 + 1, 4, none⟩ (.int .i64 (E : Int))).setCell ⟨w.heap.size + 1, 0, none⟩ (.slice none 0 0)).setCell ⟨w.heap.size + 1, 1, none⟩ (.slice none 0 0)).setCell ⟨w.heap.size + 1, 2, none⟩ (.int .i64 (N : Int))).setCell ⟨w.heap.size + 1, 3, none⟩ (.string ⟨#[]⟩)).setCell ⟨w.heap.size + 1, 4, none⟩ (.int .i64 (E : Int)) = W4 at *
  have d0 := XB.cell 0 rfl
  have d1 := XB.cell 1 rfl
  have d2 := XB.cell 2 rfl
  have d3 := XB.cell 3 rfl
  have d4 := XB.cell 4 rfl
  refine bodyPost_ret (v := .tuple #[.agg #[.slice none 0 0, .slice none 0 0, .int .i64 (N : Int), .string ⟨#[]⟩, .int .i64 (E : Int)], .pointer (some ⟨f, 0, none⟩)]) (by simp [results, Tryz.results37, go_sem, d0, d1, d2, d3, d4]) rfl ?_
  have K4 : Keeps w W4 := Below.trans (keeps_trans KW.out KK.out) (XO.below (fun i hi => hi.1) (Nat.le_trans KW.out.size KK.out.size))
  refine ⟨_, _, F, rfl, ?_, by rw [HDO.out]; exact HK.out.keep K4, Turns.of_keeps K4, (by rw [HDO.out]; exact ⟨f, rfl, HH.out.1.keep K4, HH.out.2.1, HH.out.2.2⟩), .inl rfl⟩
  rw [HDO.out]
  exact ⟨.slice none 0 0, .slice none 0 0, rfl, Own.nil _ _ _ _, Own.nil _ _ _ _⟩

set_option maxHeartbeats 8000000 in
theorem does8_pagesN {K : DiskOk} {w0 w : World} {b : Nat} {F : Nat → Prop} {s : Ds} (hZ : K.Z w0) (hs7 : s.l.length ≤ 70000) (h : Have K w0 w b F s) (o : Op8) (ho : Op8Ok w0 o)  (hk : o.kind = 5) :
    Calls Tryz.prog 37 #[.pointer (some ⟨b, 0, none⟩), .pointer none, .agg (op8C o).toArray] w (DoneV8 K w0 w b F s none o (.pointer none)) := by
  have hF := K.lt h.D
  have kW : Keeps w (((w.alloc (.cells (op8C o).toArray 85)).alloc (.cells #[.slice none 0 0, .slice none 0 0, .int .i64 0, .string ⟨#[]⟩, .int .i64 0] 79)).alloc (.cells #[.slice none 0 0, .slice none 0 0, .int .i64 0, .string ⟨#[]⟩, .int .i64 0] 79)) := keeps_trans (keeps_trans (keeps_alloc _ _) (keeps_alloc _ _)) (keeps_alloc _ _)
  have hs3 : (((w.alloc (.cells (op8C o).toArray 85)).alloc (.cells #[.slice none 0 0, .slice none 0 0, .int .i64 0, .string ⟨#[]⟩, .int .i64 0] 79)).alloc (.cells #[.slice none 0 0, .slice none 0 0, .int .i64 0, .string ⟨#[]⟩, .int .i64 0] 79)).heap.size = w.heap.size + 3 := by simp
  have B1 := box_mid8 w (.cells (op8C o).toArray 85) 79 #[.slice none 0 0, .slice none 0 0, .int .i64 0, .string ⟨#[]⟩, .int .i64 0] (.cells #[.slice none 0 0, .slice none 0 0, .int .i64 0, .string ⟨#[]⟩, .int .i64 0] 79)
  have B2 := box_third8 w (.cells (op8C o).toArray 85) (.cells #[.slice none 0 0, .slice none 0 0, .int .i64 0, .string ⟨#[]⟩, .int .i64 0] 79) 79 #[.slice none 0 0, .slice none 0 0, .int .i64 0, .string ⟨#[]⟩, .int .i64 0]
  have hw := h.keep kW
  have HD : doS8 s none o = (s, none, ⟨[], [], 0, [], 2⟩) := by unfold doS8; rw [hk]; rfl
  
  have C := Lib.hid (nil8_Pages (((w.alloc (.cells (op8C o).toArray 85)).alloc (.cells #[.slice none 0 0, .slice none 0 0, .int .i64 0, .string ⟨#[]⟩, .int .i64 0] 79)).alloc (.cells #[.slice none 0 0, .slice none 0 0, .int .i64 0, .string ⟨#[]⟩, .int .i64 0] 79)))
  have HF := Lib.hid hF
  have HK := Lib.hid h
  have HS3 := Lib.hid hs3
  have KW := Lib.hid kW
  have HDO := Lib.hid HD
  
  
  unfold op8C opC strV at *
  rw [hk] at *
  clear hF h hw hs3 ho hZ HD
  simp only [List.cons_append, List.nil_append] at *
  go_enter Tryz.func37, Tryz.ntmps37
  go_wp2_with fail
  refine C.out.mono ?_
  rintro e w1 ⟨rfl, kk⟩
  have X1 := B1.keep kk
  have X2 := B2.keep kk
  have c10 := X1.cell 0 rfl
  have c11 := X1.cell 1 rfl
  have c12 := X1.cell 2 rfl
  have c13 := X1.cell 3 rfl
  have c14 := X1.cell 4 rfl
  have f10 := X1.frozen 0
  have f11 := X1.frozen 1
  have f12 := X1.frozen 2
  have f13 := X1.frozen 3
  have f14 := X1.frozen 4
  have c20 := X2.cell 0 rfl
  have c21 := X2.cell 1 rfl
  have c22 := X2.cell 2 rfl
  have c23 := X2.cell 3 rfl
  have c24 := X2.cell 4 rfl
  have f22 := X2.frozen 2
  have f24 := X2.frozen 4
  have KK := Lib.hid kk
  clear kk B1 B2 X2
  go_wp2_with fail
  have XB : Box ((((((((w1).setCell ⟨w.heap.size + 1 + 1, 2, none⟩ (.int .i64 0)).setCell ⟨w.heap.size + 1 + 1, 4, none⟩ (.int .i64 2)).setCell ⟨w.heap.size + 1, 0, none⟩ (.slice none 0 0)).setCell ⟨w.heap.size + 1, 1, none⟩ (.slice none 0 0)).setCell ⟨w.heap.size + 1, 2, none⟩ (.int .i64 0)).setCell ⟨w.heap.size + 1, 3, none⟩ (.string ⟨#[]⟩)).setCell ⟨w.heap.size + 1, 4, none⟩ (.int .i64 2)) (w.heap.size + 1) 79 #[.slice none 0 0, .slice none 0 0, .int .i64 0, .string ⟨#[]⟩, .int .i64 2] := by simpa using (((((((X1.far (p := ⟨w.heap.size + 1 + 1, 2, none⟩) (show w.heap.size + 1 ≠ w.heap.size + 1 + 1 by omega) (.int .i64 0)).far (p := ⟨w.heap.size + 1 + 1, 4, none⟩) (show w.heap.size + 1 ≠ w.heap.size + 1 + 1 by omega) (.int .i64 2)).set 0 (.slice none 0 0)).set 1 (.slice none 0 0)).set 2 (.int .i64 0)).set 3 (.string ⟨#[]⟩)).set 4 (.int .i64 2))
  have XO : Only w1 ((((((((w1).setCell ⟨w.heap.size + 1 + 1, 2, none⟩ (.int .i64 0)).setCell ⟨w.heap.size + 1 + 1, 4, none⟩ (.int .i64 2)).setCell ⟨w.heap.size + 1, 0, none⟩ (.slice none 0 0)).setCell ⟨w.heap.size + 1, 1, none⟩ (.slice none 0 0)).setCell ⟨w.heap.size + 1, 2, none⟩ (.int .i64 0)).setCell ⟨w.heap.size + 1, 3, none⟩ (.string ⟨#[]⟩)).setCell ⟨w.heap.size + 1, 4, none⟩ (.int .i64 2)) (fun i => w.heap.size ≤ i ∧ i < w.heap.size + 3) := only_xt w1 (w.heap.size) (w.heap.size + 3) [((⟨w.heap.size + 1 + 1, 2, none⟩ : Addr), (.int .i64 0 : Value)), ((⟨w.heap.size + 1 + 1, 4, none⟩ : Addr), (.int .i64 2 : Value)), ((⟨w.heap.size + 1, 0, none⟩ : Addr), (.slice none 0 0 : Value)), ((⟨w.heap.size + 1, 1, none⟩ : Addr), (.slice none 0 0 : Value)), ((⟨w.heap.size + 1, 2, none⟩ : Addr), (.int .i64 0 : Value)), ((⟨w.heap.size + 1, 3, none⟩ : Addr), (.string ⟨#[]⟩ : Value)), ((⟨w.heap.size + 1, 4, none⟩ : Addr), (.int .i64 2 : Value))] (by simp <;> omega)
  generalize (((((((w1).setCell ⟨w.heap.size + 1 + 1, 2, none⟩ (.int .i64 0)).setCell ⟨w.heap.size + 1 + 1, 4, none⟩ (.int .i64 2)).setCell ⟨w.heap.size + 1, 0, none⟩ (.slice none 0 0)).setCell ⟨w.heap.size + 1, 1, none⟩ (.slice none 0 0)).setCell ⟨w.heap.size + 1, 2, none⟩ (.int .i64 0)).setCell ⟨w.heap.size + 1, 3, none⟩ (.string ⟨#[]⟩)).setCell ⟨w.heap.size + 1, 4, none⟩ (.int .i64 2) = W4 at *
  have d0 := XB.cell 0 rfl
  have d1 := XB.cell 1 rfl
  have d2 := XB.cell 2 rfl
  have d3 := XB.cell 3 rfl
  have d4 := XB.cell 4 rfl
  refine bodyPost_ret (v := .tuple #[.agg #[.slice none 0 0, .slice none 0 0, .int .i64 0, .string ⟨#[]⟩, .int .i64 2], .pointer none]) (by simp [results, Tryz.results37, go_sem, d0, d1, d2, d3, d4]) rfl ?_
  have K4 : Keeps w W4 := Below.trans (keeps_trans KW.out KK.out) (XO.below (fun i hi => hi.1) (Nat.le_trans KW.out.size KK.out.size))
  refine ⟨_, _, F, rfl, ?_, by rw [HDO.out]; exact HK.out.keep K4, Turns.of_keeps K4, (by rw [HDO.out]; rfl), .inl rfl⟩
  rw [HDO.out]
  exact ⟨.slice none 0 0, .slice none 0 0, rfl, Own.nil _ _ _ _, Own.nil _ _ _ _⟩

set_option maxHeartbeats 8000000 in
theorem does8_bad {K : DiskOk} {w0 w : World} {b : Nat} {F : Nat → Prop} {s : Ds} (hZ : K.Z w0) (hs7 : s.l.length ≤ 70000) (h : Have K w0 w b F s) (o : Op8) (ho : Op8Ok w0 o) {g : Option (List UInt8)} {fv : Value} (hg : HeldAt w b F g fv) (hnm : o.name.length ≤ 70000) (hk : o.kind = 6) :
    Calls Tryz.prog 37 #[.pointer (some ⟨b, 0, none⟩), fv, .agg (op8C o).toArray] w (DoneV8 K w0 w b F s g o (fv)) := by
  have hF := K.lt h.D
  have kW : Keeps w (((w.alloc (.cells (op8C o).toArray 85)).alloc (.cells #[.slice none 0 0, .slice none 0 0, .int .i64 0, .string ⟨#[]⟩, .int .i64 0] 79)).alloc (.cells #[.slice none 0 0, .slice none 0 0, .int .i64 0, .string ⟨#[]⟩, .int .i64 0] 79)) := keeps_trans (keeps_trans (keeps_alloc _ _) (keeps_alloc _ _)) (keeps_alloc _ _)
  have hs3 : (((w.alloc (.cells (op8C o).toArray 85)).alloc (.cells #[.slice none 0 0, .slice none 0 0, .int .i64 0, .string ⟨#[]⟩, .int .i64 0] 79)).alloc (.cells #[.slice none 0 0, .slice none 0 0, .int .i64 0, .string ⟨#[]⟩, .int .i64 0] 79)).heap.size = w.heap.size + 3 := by simp
  have B1 := box_mid8 w (.cells (op8C o).toArray 85) 79 #[.slice none 0 0, .slice none 0 0, .int .i64 0, .string ⟨#[]⟩, .int .i64 0] (.cells #[.slice none 0 0, .slice none 0 0, .int .i64 0, .string ⟨#[]⟩, .int .i64 0] 79)
  have B2 := box_third8 w (.cells (op8C o).toArray 85) (.cells #[.slice none 0 0, .slice none 0 0, .int .i64 0, .string ⟨#[]⟩, .int .i64 0] 79) 79 #[.slice none 0 0, .slice none 0 0, .int .i64 0, .string ⟨#[]⟩, .int .i64 0]
  have hw := h.keep kW
  have HD : doS8 s g o = (s, g, ⟨[], (badP s o.name).1.map fun (k : Nat) => (k : Int), 0, [], (badP s o.name).2⟩) := by unfold doS8; rw [hk]; rfl
  
  have C := Lib.hid (pfBad_any hw hZ hs7 (nm := o.name) (by omega))
  have HF := Lib.hid hF
  have HK := Lib.hid h
  have HS3 := Lib.hid hs3
  have KW := Lib.hid kW
  have HDO := Lib.hid HD
  have HH := Lib.hid hg
  have LL := Lib.hid (show ((badP s o.name).1.map fun (k : Nat) => (k : Int)).length = (badP s o.name).1.length by simp)
  generalize ((badP s o.name).1.map fun (k : Nat) => (k : Int)) = l at *
  generalize (badP s o.name).1.length = L at *
  generalize (badP s o.name).2 = E at *
  unfold op8C opC strV at *
  rw [hk] at *
  clear hF h hw hs3 ho hZ HD
  simp only [List.cons_append, List.nil_append] at *
  go_enter Tryz.func37, Tryz.ntmps37
  go_wp2_with fail
  refine C.out.mono ?_
  rintro e w1 ⟨vv, rfl, oo, kk⟩
  obtain ⟨A1, c1, rfl, -⟩ := oo.form
  have OO := Lib.hid oo
  clear oo
  have X1 := B1.keep kk
  have X2 := B2.keep kk
  have c10 := X1.cell 0 rfl
  have c11 := X1.cell 1 rfl
  have c12 := X1.cell 2 rfl
  have c13 := X1.cell 3 rfl
  have c14 := X1.cell 4 rfl
  have f10 := X1.frozen 0
  have f11 := X1.frozen 1
  have f12 := X1.frozen 2
  have f13 := X1.frozen 3
  have f14 := X1.frozen 4
  have c20 := X2.cell 0 rfl
  have c21 := X2.cell 1 rfl
  have c22 := X2.cell 2 rfl
  have c23 := X2.cell 3 rfl
  have c24 := X2.cell 4 rfl
  have f21 := X2.frozen 1
  have f24 := X2.frozen 4
  have KK := Lib.hid kk
  clear kk B1 B2 X2
  go_wp2_with fail
  have XB : Box ((((((((w1).setCell ⟨w.heap.size + 1 + 1, 1, none⟩ (.slice A1 L c1)).setCell ⟨w.heap.size + 1 + 1, 4, none⟩ (.int .i64 (E : Int))).setCell ⟨w.heap.size + 1, 0, none⟩ (.slice none 0 0)).setCell ⟨w.heap.size + 1, 1, none⟩ (.slice A1 L c1)).setCell ⟨w.heap.size + 1, 2, none⟩ (.int .i64 0)).setCell ⟨w.heap.size + 1, 3, none⟩ (.string ⟨#[]⟩)).setCell ⟨w.heap.size + 1, 4, none⟩ (.int .i64 (E : Int))) (w.heap.size + 1) 79 #[.slice none 0 0, .slice A1 L c1, .int .i64 0, .string ⟨#[]⟩, .int .i64 (E : Int)] := by simpa using (((((((X1.far (p := ⟨w.heap.size + 1 + 1, 1, none⟩) (show w.heap.size + 1 ≠ w.heap.size + 1 + 1 by omega) (.slice A1 L c1)).far (p := ⟨w.heap.size + 1 + 1, 4, none⟩) (show w.heap.size + 1 ≠ w.heap.size + 1 + 1 by omega) (.int .i64 (E : Int))).set 0 (.slice none 0 0)).set 1 (.slice A1 L c1)).set 2 (.int .i64 0)).set 3 (.string ⟨#[]⟩)).set 4 (.int .i64 (E : Int)))
  have XO : Only w1 ((((((((w1).setCell ⟨w.heap.size + 1 + 1, 1, none⟩ (.slice A1 L c1)).setCell ⟨w.heap.size + 1 + 1, 4, none⟩ (.int .i64 (E : Int))).setCell ⟨w.heap.size + 1, 0, none⟩ (.slice none 0 0)).setCell ⟨w.heap.size + 1, 1, none⟩ (.slice A1 L c1)).setCell ⟨w.heap.size + 1, 2, none⟩ (.int .i64 0)).setCell ⟨w.heap.size + 1, 3, none⟩ (.string ⟨#[]⟩)).setCell ⟨w.heap.size + 1, 4, none⟩ (.int .i64 (E : Int))) (fun i => w.heap.size ≤ i ∧ i < w.heap.size + 3) := only_xt w1 (w.heap.size) (w.heap.size + 3) [((⟨w.heap.size + 1 + 1, 1, none⟩ : Addr), (.slice A1 L c1 : Value)), ((⟨w.heap.size + 1 + 1, 4, none⟩ : Addr), (.int .i64 (E : Int) : Value)), ((⟨w.heap.size + 1, 0, none⟩ : Addr), (.slice none 0 0 : Value)), ((⟨w.heap.size + 1, 1, none⟩ : Addr), (.slice A1 L c1 : Value)), ((⟨w.heap.size + 1, 2, none⟩ : Addr), (.int .i64 0 : Value)), ((⟨w.heap.size + 1, 3, none⟩ : Addr), (.string ⟨#[]⟩ : Value)), ((⟨w.heap.size + 1, 4, none⟩ : Addr), (.int .i64 (E : Int) : Value))] (by simp <;> omega)
  generalize (((((((w1).setCell ⟨w.heap.size + 1 + 1, 1, none⟩ (.slice A1 L c1)).setCell ⟨w.heap.size + 1 + 1, 4, none⟩ (.int .i64 (E : Int))).setCell ⟨w.heap.size + 1, 0, none⟩ (.slice none 0 0)).setCell ⟨w.heap.size + 1, 1, none⟩ (.slice A1 L c1)).setCell ⟨w.heap.size + 1, 2, none⟩ (.int .i64 0)).setCell ⟨w.heap.size + 1, 3, none⟩ (.string ⟨#[]⟩)).setCell ⟨w.heap.size + 1, 4, none⟩ (.int .i64 (E : Int)) = W4 at *
  have d0 := XB.cell 0 rfl
  have d1 := XB.cell 1 rfl
  have d2 := XB.cell 2 rfl
  have d3 := XB.cell 3 rfl
  have d4 := XB.cell 4 rfl
  refine bodyPost_ret (v := .tuple #[.agg #[.slice none 0 0, .slice A1 L c1, .int .i64 0, .string ⟨#[]⟩, .int .i64 (E : Int)], fv]) (by simp [results, Tryz.results37, go_sem, d0, d1, d2, d3, d4]) rfl ?_
  have K4 : Keeps w W4 := Below.trans (keeps_trans KW.out KK.out) (XO.below (fun i hi => hi.1) (Nat.le_trans KW.out.size KK.out.size))
  refine ⟨_, _, F, rfl, ?_, by rw [HDO.out]; exact HK.out.keep K4, Turns.of_keeps K4, (by rw [HDO.out]; exact HH.out.keep K4), .inl rfl⟩
  rw [HDO.out]
  refine ⟨.slice none 0 0, .slice A1 L c1, rfl, Own.nil _ _ _ _, ?_⟩
  rw [LL.out]
  exact (OO.out.only_ XO (fun k hk hs => by have := (OO.out.lt k hk).1; rw [HS3.out] at this; omega)).base_le (by rw [HS3.out]; omega)

set_option maxHeartbeats 8000000 in
theorem does8_createY {K : DiskOk} {w0 w : World} {b : Nat} {F : Nat → Prop} {s : Ds} (hZ : K.Z w0) (hs7 : s.l.length ≤ 70000) (h : Have K w0 w b F s) (o : Op8) (ho : Op8Ok w0 o) (fv : Value) (g : Option (List UInt8)) (hnm : o.name.length ≤ 70000) (hE : (createS s o.name).2 = 0) (hk : o.kind = 0) :
    Calls Tryz.prog 37 #[.pointer (some ⟨b, 0, none⟩), fv, .agg (op8C o).toArray] w (DoneV8 K w0 w b F s g o fv) := by
  have hF := K.lt h.D
  have kW : Keeps w (((w.alloc (.cells (op8C o).toArray 85)).alloc (.cells #[.slice none 0 0, .slice none 0 0, .int .i64 0, .string ⟨#[]⟩, .int .i64 0] 79)).alloc (.cells #[.slice none 0 0, .slice none 0 0, .int .i64 0, .string ⟨#[]⟩, .int .i64 0] 79)) := keeps_trans (keeps_trans (keeps_alloc _ _) (keeps_alloc _ _)) (keeps_alloc _ _)
  have hs3 : (((w.alloc (.cells (op8C o).toArray 85)).alloc (.cells #[.slice none 0 0, .slice none 0 0, .int .i64 0, .string ⟨#[]⟩, .int .i64 0] 79)).alloc (.cells #[.slice none 0 0, .slice none 0 0, .int .i64 0, .string ⟨#[]⟩, .int .i64 0] 79)).heap.size = w.heap.size + 3 := by simp
  have B1 := box_mid8 w (.cells (op8C o).toArray 85) 79 #[.slice none 0 0, .slice none 0 0, .int .i64 0, .string ⟨#[]⟩, .int .i64 0] (.cells #[.slice none 0 0, .slice none 0 0, .int .i64 0, .string ⟨#[]⟩, .int .i64 0] 79)
  have hw := h.keep kW
  have HD : doS8 s g o = ((createS s o.name).1, some o.name, ⟨[], [], 0, o.name, 0⟩) := by unfold doS8; rw [hk]; rw [if_pos rfl, hE, if_pos rfl, if_pos rfl]
  
  have C := Lib.hid (pfCreate_any hw hZ hs7 o.name ho.nm (s' := (createS s o.name).1) (E := 0) (by rw [← hE]))
  have HF := Lib.hid hF
  have HK := Lib.hid h
  have HS3 := Lib.hid hs3
  have KW := Lib.hid kW
  have HDO := Lib.hid HD
  have HNM := Lib.hid hnm
  have hml := Lib.hid ho.nm
  unfold op8C opC strV at *
  rw [hk] at *
  clear hF h hw hs3 ho hZ HD hnm
  simp only [List.cons_append, List.nil_append] at *
  go_enter Tryz.func37, Tryz.ntmps37
  go_wp2_with fail
  refine C.out.mono ?_
  rintro e w1 ⟨F', h1, t1, ⟨-, f, rfl, hf, hlo, hnf⟩ | ⟨hbad, -⟩⟩
  rotate_left
  · exact absurd rfl hbad
  have NM := Lib.hid (pfName_any hf)
  have n1 : ¬ F (w.heap.size + 1) := fun e => by have := HF.out _ e; omega
  have X0 := B1.turned t1 n1
  have H1 := Lib.hid h1
  have T1 := Lib.hid t1
  have HA := Lib.hid (And.intro hf (And.intro hlo hnf))
  clear h1 t1 hf hlo hnf n1 B1
  go_wp2_with fail
  refine NM.out.mono ?_
  rintro e w2 ⟨rfl, k2⟩
  have X1 := X0.keep k2
  have H2 := Lib.hid (H1.out.keep k2)
  have T2 := Lib.hid (T1.out.trans (Turns.of_keeps k2))
  have A2 := Lib.hid (HA.out.1.keep k2)
  clear k2 X0
  have c10 := X1.cell 0 rfl
  have c11 := X1.cell 1 rfl
  have c12 := X1.cell 2 rfl
  have c13 := X1.cell 3 rfl
  have c14 := X1.cell 4 rfl
  have f10 := X1.frozen 0
  have f11 := X1.frozen 1
  have f12 := X1.frozen 2
  have f13 := X1.frozen 3
  have f14 := X1.frozen 4
  go_wp2_with fail
  have XB : Box ((((((w2).setCell ⟨w.heap.size + 1, 0, none⟩ (.slice none 0 0)).setCell ⟨w.heap.size + 1, 1, none⟩ (.slice none 0 0)).setCell ⟨w.heap.size + 1, 2, none⟩ (.int .i64 0)).setCell ⟨w.heap.size + 1, 3, none⟩ (.string (str o.name))).setCell ⟨w.heap.size + 1, 4, none⟩ (.int .i64 0)) (w.heap.size + 1) 79 #[.slice none 0 0, .slice none 0 0, .int .i64 0, .string (str o.name), .int .i64 0] := by simpa using (((((X1.set 0 (.slice none 0 0)).set 1 (.slice none 0 0)).set 2 (.int .i64 0)).set 3 (.string (str o.name))).set 4 (.int .i64 0))
  have XO : Only w2 ((((((w2).setCell ⟨w.heap.size + 1, 0, none⟩ (.slice none 0 0)).setCell ⟨w.heap.size + 1, 1, none⟩ (.slice none 0 0)).setCell ⟨w.heap.size + 1, 2, none⟩ (.int .i64 0)).setCell ⟨w.heap.size + 1, 3, none⟩ (.string (str o.name))).setCell ⟨w.heap.size + 1, 4, none⟩ (.int .i64 0)) (fun i => w.heap.size ≤ i ∧ i < w.heap.size + 3) := only_xt w2 (w.heap.size) (w.heap.size + 3) [((⟨w.heap.size + 1, 0, none⟩ : Addr), (.slice none 0 0 : Value)), ((⟨w.heap.size + 1, 1, none⟩ : Addr), (.slice none 0 0 : Value)), ((⟨w.heap.size + 1, 2, none⟩ : Addr), (.int .i64 0 : Value)), ((⟨w.heap.size + 1, 3, none⟩ : Addr), (.string (str o.name) : Value)), ((⟨w.heap.size + 1, 4, none⟩ : Addr), (.int .i64 0 : Value))] (by simp <;> omega)
  generalize (((((w2).setCell ⟨w.heap.size + 1, 0, none⟩ (.slice none 0 0)).setCell ⟨w.heap.size + 1, 1, none⟩ (.slice none 0 0)).setCell ⟨w.heap.size + 1, 2, none⟩ (.int .i64 0)).setCell ⟨w.heap.size + 1, 3, none⟩ (.string (str o.name))).setCell ⟨w.heap.size + 1, 4, none⟩ (.int .i64 0) = W4 at *
  have d0 := XB.cell 0 rfl
  have d1 := XB.cell 1 rfl
  have d2 := XB.cell 2 rfl
  have d3 := XB.cell 3 rfl
  have d4 := XB.cell 4 rfl
  refine bodyPost_ret (v := .tuple #[.agg #[.slice none 0 0, .slice none 0 0, .int .i64 0, .string (str o.name), .int .i64 0], .pointer (some ⟨f, 0, none⟩)]) (by simp [results, Tryz.results37, go_sem, d0, d1, d2, d3, d4]) rfl ?_
  have hlt := HF.out
  have h4 : Have K w0 W4 b F' ((createS s o.name).1) := ⟨K.same H2.out.D (fun i hi => XO.block i (K.lt H2.out.D i hi) (fun hh => by
    rcases T2.out.next i hi with q | q
    · have := hlt i q; omega
    · rw [HS3.out] at q; omega)) XO.size, H2.out.low, Below.trans H2.out.kp (XO.below (fun i hi => Nat.le_trans HK.out.kp.size hi.1) H2.out.kp.size)⟩
  have t4 : Turns w W4 F F' := T2.out.wrap KW.out hlt (XO.weak (fun i hi => hi.1))
  exact ⟨_, _, F', rfl, by
    rw [HDO.out]
    exact ⟨.slice none 0 0, .slice none 0 0, rfl, Own.nil _ _ _ _, Own.nil _ _ _ _⟩, by rw [HDO.out]; exact h4, t4, (by rw [HDO.out]; exact ⟨f, rfl, (XO.block f A2.out.lt (fun hh => by have := HA.out.2.1; rw [HS3.out] at this; omega)).trans A2.out, HA.out.2.2, HNM.out⟩), .inr (fun a e => by first | (cases e; done) | (cases e; have := HA.out.2.1; rw [HS3.out] at this; show w.heap.size ≤ f; omega))⟩

set_option maxHeartbeats 8000000 in
theorem does8_createN {K : DiskOk} {w0 w : World} {b : Nat} {F : Nat → Prop} {s : Ds} (hZ : K.Z w0) (hs7 : s.l.length ≤ 70000) (h : Have K w0 w b F s) (o : Op8) (ho : Op8Ok w0 o) (fv : Value) (g : Option (List UInt8)) (hnm : o.name.length ≤ 70000) (hE : ¬ (createS s o.name).2 = 0) (hk : o.kind = 0) :
    Calls Tryz.prog 37 #[.pointer (some ⟨b, 0, none⟩), fv, .agg (op8C o).toArray] w (DoneV8 K w0 w b F s g o fv) := by
  have hF := K.lt h.D
  have kW : Keeps w (((w.alloc (.cells (op8C o).toArray 85)).alloc (.cells #[.slice none 0 0, .slice none 0 0, .int .i64 0, .string ⟨#[]⟩, .int .i64 0] 79)).alloc (.cells #[.slice none 0 0, .slice none 0 0, .int .i64 0, .string ⟨#[]⟩, .int .i64 0] 79)) := keeps_trans (keeps_trans (keeps_alloc _ _) (keeps_alloc _ _)) (keeps_alloc _ _)
  have hs3 : (((w.alloc (.cells (op8C o).toArray 85)).alloc (.cells #[.slice none 0 0, .slice none 0 0, .int .i64 0, .string ⟨#[]⟩, .int .i64 0] 79)).alloc (.cells #[.slice none 0 0, .slice none 0 0, .int .i64 0, .string ⟨#[]⟩, .int .i64 0] 79)).heap.size = w.heap.size + 3 := by simp
  have B1 := box_mid8 w (.cells (op8C o).toArray 85) 79 #[.slice none 0 0, .slice none 0 0, .int .i64 0, .string ⟨#[]⟩, .int .i64 0] (.cells #[.slice none 0 0, .slice none 0 0, .int .i64 0, .string ⟨#[]⟩, .int .i64 0] 79)
  have hw := h.keep kW
  have HD : doS8 s g o = ((createS s o.name).1, none, ⟨[], [], 0, [], (createS s o.name).2⟩) := by unfold doS8; rw [hk]; rw [if_pos rfl, if_neg hE, if_neg hE]
  have HE0 := Lib.hid hE
  have C := Lib.hid (pfCreate_any hw hZ hs7 o.name ho.nm (s' := (createS s o.name).1) (E := (createS s o.name).2) rfl)
  have HF := Lib.hid hF
  have HK := Lib.hid h
  have HS3 := Lib.hid hs3
  have KW := Lib.hid kW
  have HDO := Lib.hid HD
  have HNM := Lib.hid hnm
  have hml := Lib.hid ho.nm
  unfold op8C opC strV at *
  rw [hk] at *
  clear hF h hw hs3 ho hZ HD hnm
  simp only [List.cons_append, List.nil_append] at *
  go_enter Tryz.func37, Tryz.ntmps37
  go_wp2_with fail
  refine C.out.mono ?_
  rintro e w1 ⟨F', h1, t1, ⟨hbad, -⟩ | ⟨-, rfl⟩⟩
  · exact absurd hbad HE0.out
  have NM := Lib.hid (nil8_Name w1)
  have n1 : ¬ F (w.heap.size + 1) := fun e => by have := HF.out _ e; omega
  have X0 := B1.turned t1 n1
  have H1 := Lib.hid h1
  have T1 := Lib.hid t1
  clear h1 t1 n1 B1
  go_wp2_with fail
  refine NM.out.mono ?_
  rintro e w2 ⟨rfl, k2⟩
  have X1 := X0.keep k2
  have H2 := Lib.hid (H1.out.keep k2)
  have T2 := Lib.hid (T1.out.trans (Turns.of_keeps k2))
  clear k2 X0
  have c10 := X1.cell 0 rfl
  have c11 := X1.cell 1 rfl
  have c12 := X1.cell 2 rfl
  have c13 := X1.cell 3 rfl
  have c14 := X1.cell 4 rfl
  have f10 := X1.frozen 0
  have f11 := X1.frozen 1
  have f12 := X1.frozen 2
  have f13 := X1.frozen 3
  have f14 := X1.frozen 4
  go_wp2_with fail
  have XB : Box ((((((w2).setCell ⟨w.heap.size + 1, 0, none⟩ (.slice none 0 0)).setCell ⟨w.heap.size + 1, 1, none⟩ (.slice none 0 0)).setCell ⟨w.heap.size + 1, 2, none⟩ (.int .i64 0)).setCell ⟨w.heap.size + 1, 3, none⟩ (.string ⟨#[]⟩)).setCell ⟨w.heap.size + 1, 4, none⟩ (.int .i64 ((createS s o.name).2 : Int))) (w.heap.size + 1) 79 #[.slice none 0 0, .slice none 0 0, .int .i64 0, .string ⟨#[]⟩, .int .i64 ((createS s o.name).2 : Int)] := by simpa using (((((X1.set 0 (.slice none 0 0)).set 1 (.slice none 0 0)).set 2 (.int .i64 0)).set 3 (.string ⟨#[]⟩)).set 4 (.int .i64 ((createS s o.name).2 : Int)))
  have XO : Only w2 ((((((w2).setCell ⟨w.heap.size + 1, 0, none⟩ (.slice none 0 0)).setCell ⟨w.heap.size + 1, 1, none⟩ (.slice none 0 0)).setCell ⟨w.heap.size + 1, 2, none⟩ (.int .i64 0)).setCell ⟨w.heap.size + 1, 3, none⟩ (.string ⟨#[]⟩)).setCell ⟨w.heap.size + 1, 4, none⟩ (.int .i64 ((createS s o.name).2 : Int))) (fun i => w.heap.size ≤ i ∧ i < w.heap.size + 3) := only_xt w2 (w.heap.size) (w.heap.size + 3) [((⟨w.heap.size + 1, 0, none⟩ : Addr), (.slice none 0 0 : Value)), ((⟨w.heap.size + 1, 1, none⟩ : Addr), (.slice none 0 0 : Value)), ((⟨w.heap.size + 1, 2, none⟩ : Addr), (.int .i64 0 : Value)), ((⟨w.heap.size + 1, 3, none⟩ : Addr), (.string ⟨#[]⟩ : Value)), ((⟨w.heap.size + 1, 4, none⟩ : Addr), (.int .i64 ((createS s o.name).2 : Int) : Value))] (by simp <;> omega)
  generalize (((((w2).setCell ⟨w.heap.size + 1, 0, none⟩ (.slice none 0 0)).setCell ⟨w.heap.size + 1, 1, none⟩ (.slice none 0 0)).setCell ⟨w.heap.size + 1, 2, none⟩ (.int .i64 0)).setCell ⟨w.heap.size + 1, 3, none⟩ (.string ⟨#[]⟩)).setCell ⟨w.heap.size + 1, 4, none⟩ (.int .i64 ((createS s o.name).2 : Int)) = W4 at *
  have d0 := XB.cell 0 rfl
  have d1 := XB.cell 1 rfl
  have d2 := XB.cell 2 rfl
  have d3 := XB.cell 3 rfl
  have d4 := XB.cell 4 rfl
  refine bodyPost_ret (v := .tuple #[.agg #[.slice none 0 0, .slice none 0 0, .int .i64 0, .string ⟨#[]⟩, .int .i64 ((createS s o.name).2 : Int)], .pointer none]) (by simp [results, Tryz.results37, go_sem, d0, d1, d2, d3, d4]) rfl ?_
  have hlt := HF.out
  have h4 : Have K w0 W4 b F' ((createS s o.name).1) := ⟨K.same H2.out.D (fun i hi => XO.block i (K.lt H2.out.D i hi) (fun hh => by
    rcases T2.out.next i hi with q | q
    · have := hlt i q; omega
    · rw [HS3.out] at q; omega)) XO.size, H2.out.low, Below.trans H2.out.kp (XO.below (fun i hi => Nat.le_trans HK.out.kp.size hi.1) H2.out.kp.size)⟩
  have t4 : Turns w W4 F F' := T2.out.wrap KW.out hlt (XO.weak (fun i hi => hi.1))
  exact ⟨_, _, F', rfl, by
    rw [HDO.out]
    exact ⟨.slice none 0 0, .slice none 0 0, rfl, Own.nil _ _ _ _, Own.nil _ _ _ _⟩, by rw [HDO.out]; exact h4, t4, (by rw [HDO.out]; rfl), .inr (fun a e => by first | (cases e; done) | (cases e; have := HA.out.2.1; rw [HS3.out] at this; show w.heap.size ≤ f; omega))⟩

theorem pfOpen_made {K : DiskOk} {w0 w : World} {b : Nat} {F : Nat → Prop} {s : Ds} (h : Have K w0 w b F s) (hZ : K.Z w0) (hs7 : s.l.length ≤ 70000) (nm : List UInt8) (hnm : nm.length ≤ maxLen) {E : Nat} (hE : openE s nm = E) :
    Calls Tryz.prog 76 #[.pointer (some ⟨b, 0, none⟩), .string (str nm)] w (MadeF w0 w K b F s E nm) := by
  subst hE
  refine (pfOpen_any h hZ hs7 nm hnm (n := (sizeS s nm).1) (E := (sizeS s nm).2) rfl (size_le (K.ok h.D) nm)).mono fun e w' q => ⟨F, h.keep q.1, Turns.of_keeps q.1, ?_⟩
  rcases q.2 with ⟨e0, f, he, hf, hl⟩ | ⟨e0, he⟩
  · exact .inl ⟨e0, f, he, hf, hl, fun hh => by have := K.lt h.D f hh; omega⟩
  · exact .inr ⟨e0, he⟩

set_option maxHeartbeats 8000000 in
theorem does8_openY {K : DiskOk} {w0 w : World} {b : Nat} {F : Nat → Prop} {s : Ds} (hZ : K.Z w0) (hs7 : s.l.length ≤ 70000) (h : Have K w0 w b F s) (o : Op8) (ho : Op8Ok w0 o) (fv : Value) (g : Option (List UInt8)) (hnm : o.name.length ≤ 70000) (hE : openE s o.name = 0) (hk : o.kind = 1) :
    Calls Tryz.prog 37 #[.pointer (some ⟨b, 0, none⟩), fv, .agg (op8C o).toArray] w (DoneV8 K w0 w b F s g o fv) := by
  have hF := K.lt h.D
  have kW : Keeps w (((w.alloc (.cells (op8C o).toArray 85)).alloc (.cells #[.slice none 0 0, .slice none 0 0, .int .i64 0, .string ⟨#[]⟩, .int .i64 0] 79)).alloc (.cells #[.slice none 0 0, .slice none 0 0, .int .i64 0, .string ⟨#[]⟩, .int .i64 0] 79)) := keeps_trans (keeps_trans (keeps_alloc _ _) (keeps_alloc _ _)) (keeps_alloc _ _)
  have hs3 : (((w.alloc (.cells (op8C o).toArray 85)).alloc (.cells #[.slice none 0 0, .slice none 0 0, .int .i64 0, .string ⟨#[]⟩, .int .i64 0] 79)).alloc (.cells #[.slice none 0 0, .slice none 0 0, .int .i64 0, .string ⟨#[]⟩, .int .i64 0] 79)).heap.size = w.heap.size + 3 := by simp
  have B1 := box_mid8 w (.cells (op8C o).toArray 85) 79 #[.slice none 0 0, .slice none 0 0, .int .i64 0, .string ⟨#[]⟩, .int .i64 0] (.cells #[.slice none 0 0, .slice none 0 0, .int .i64 0, .string ⟨#[]⟩, .int .i64 0] 79)
  have hw := h.keep kW
  have HD : doS8 s g o = (s, some o.name, ⟨[], [], 0, o.name, 0⟩) := by unfold doS8; rw [hk]; rw [if_neg (by decide), if_pos rfl, hE, if_pos rfl, if_pos rfl]
  
  have C := Lib.hid (pfOpen_made hw hZ hs7 o.name ho.nm hE)
  have HF := Lib.hid hF
  have HK := Lib.hid h
  have HS3 := Lib.hid hs3
  have KW := Lib.hid kW
  have HDO := Lib.hid HD
  have HNM := Lib.hid hnm
  have hml := Lib.hid ho.nm
  unfold op8C opC strV at *
  rw [hk] at *
  clear hF h hw hs3 ho hZ HD hnm
  simp only [List.cons_append, List.nil_append] at *
  go_enter Tryz.func37, Tryz.ntmps37
  go_wp2_with fail
  refine C.out.mono ?_
  rintro e w1 ⟨F', h1, t1, ⟨-, f, rfl, hf, hlo, hnf⟩ | ⟨hbad, -⟩⟩
  rotate_left
  · exact absurd rfl hbad
  have NM := Lib.hid (pfName_any hf)
  have n1 : ¬ F (w.heap.size + 1) := fun e => by have := HF.out _ e; omega
  have X0 := B1.turned t1 n1
  have H1 := Lib.hid h1
  have T1 := Lib.hid t1
  have HA := Lib.hid (And.intro hf (And.intro hlo hnf))
  clear h1 t1 hf hlo hnf n1 B1
  go_wp2_with fail
  refine NM.out.mono ?_
  rintro e w2 ⟨rfl, k2⟩
  have X1 := X0.keep k2
  have H2 := Lib.hid (H1.out.keep k2)
  have T2 := Lib.hid (T1.out.trans (Turns.of_keeps k2))
  have A2 := Lib.hid (HA.out.1.keep k2)
  clear k2 X0
  have c10 := X1.cell 0 rfl
  have c11 := X1.cell 1 rfl
  have c12 := X1.cell 2 rfl
  have c13 := X1.cell 3 rfl
  have c14 := X1.cell 4 rfl
  have f10 := X1.frozen 0
  have f11 := X1.frozen 1
  have f12 := X1.frozen 2
  have f13 := X1.frozen 3
  have f14 := X1.frozen 4
  go_wp2_with fail
  have XB : Box ((((((w2).setCell ⟨w.heap.size + 1, 0, none⟩ (.slice none 0 0)).setCell ⟨w.heap.size + 1, 1, none⟩ (.slice none 0 0)).setCell ⟨w.heap.size + 1, 2, none⟩ (.int .i64 0)).setCell ⟨w.heap.size + 1, 3, none⟩ (.string (str o.name))).setCell ⟨w.heap.size + 1, 4, none⟩ (.int .i64 0)) (w.heap.size + 1) 79 #[.slice none 0 0, .slice none 0 0, .int .i64 0, .string (str o.name), .int .i64 0] := by simpa using (((((X1.set 0 (.slice none 0 0)).set 1 (.slice none 0 0)).set 2 (.int .i64 0)).set 3 (.string (str o.name))).set 4 (.int .i64 0))
  have XO : Only w2 ((((((w2).setCell ⟨w.heap.size + 1, 0, none⟩ (.slice none 0 0)).setCell ⟨w.heap.size + 1, 1, none⟩ (.slice none 0 0)).setCell ⟨w.heap.size + 1, 2, none⟩ (.int .i64 0)).setCell ⟨w.heap.size + 1, 3, none⟩ (.string (str o.name))).setCell ⟨w.heap.size + 1, 4, none⟩ (.int .i64 0)) (fun i => w.heap.size ≤ i ∧ i < w.heap.size + 3) := only_xt w2 (w.heap.size) (w.heap.size + 3) [((⟨w.heap.size + 1, 0, none⟩ : Addr), (.slice none 0 0 : Value)), ((⟨w.heap.size + 1, 1, none⟩ : Addr), (.slice none 0 0 : Value)), ((⟨w.heap.size + 1, 2, none⟩ : Addr), (.int .i64 0 : Value)), ((⟨w.heap.size + 1, 3, none⟩ : Addr), (.string (str o.name) : Value)), ((⟨w.heap.size + 1, 4, none⟩ : Addr), (.int .i64 0 : Value))] (by simp <;> omega)
  generalize (((((w2).setCell ⟨w.heap.size + 1, 0, none⟩ (.slice none 0 0)).setCell ⟨w.heap.size + 1, 1, none⟩ (.slice none 0 0)).setCell ⟨w.heap.size + 1, 2, none⟩ (.int .i64 0)).setCell ⟨w.heap.size + 1, 3, none⟩ (.string (str o.name))).setCell ⟨w.heap.size + 1, 4, none⟩ (.int .i64 0) = W4 at *
  have d0 := XB.cell 0 rfl
  have d1 := XB.cell 1 rfl
  have d2 := XB.cell 2 rfl
  have d3 := XB.cell 3 rfl
  have d4 := XB.cell 4 rfl
  refine bodyPost_ret (v := .tuple #[.agg #[.slice none 0 0, .slice none 0 0, .int .i64 0, .string (str o.name), .int .i64 0], .pointer (some ⟨f, 0, none⟩)]) (by simp [results, Tryz.results37, go_sem, d0, d1, d2, d3, d4]) rfl ?_
  have hlt := HF.out
  have h4 : Have K w0 W4 b F' (s) := ⟨K.same H2.out.D (fun i hi => XO.block i (K.lt H2.out.D i hi) (fun hh => by
    rcases T2.out.next i hi with q | q
    · have := hlt i q; omega
    · rw [HS3.out] at q; omega)) XO.size, H2.out.low, Below.trans H2.out.kp (XO.below (fun i hi => Nat.le_trans HK.out.kp.size hi.1) H2.out.kp.size)⟩
  have t4 : Turns w W4 F F' := T2.out.wrap KW.out hlt (XO.weak (fun i hi => hi.1))
  exact ⟨_, _, F', rfl, by
    rw [HDO.out]
    exact ⟨.slice none 0 0, .slice none 0 0, rfl, Own.nil _ _ _ _, Own.nil _ _ _ _⟩, by rw [HDO.out]; exact h4, t4, (by rw [HDO.out]; exact ⟨f, rfl, (XO.block f A2.out.lt (fun hh => by have := HA.out.2.1; rw [HS3.out] at this; omega)).trans A2.out, HA.out.2.2, HNM.out⟩), .inr (fun a e => by first | (cases e; done) | (cases e; have := HA.out.2.1; rw [HS3.out] at this; show w.heap.size ≤ f; omega))⟩

set_option maxHeartbeats 8000000 in
theorem does8_openN {K : DiskOk} {w0 w : World} {b : Nat} {F : Nat → Prop} {s : Ds} (hZ : K.Z w0) (hs7 : s.l.length ≤ 70000) (h : Have K w0 w b F s) (o : Op8) (ho : Op8Ok w0 o) (fv : Value) (g : Option (List UInt8)) (hnm : o.name.length ≤ 70000) (hE : ¬ openE s o.name = 0) (hk : o.kind = 1) :
    Calls Tryz.prog 37 #[.pointer (some ⟨b, 0, none⟩), fv, .agg (op8C o).toArray] w (DoneV8 K w0 w b F s g o fv) := by
  have hF := K.lt h.D
  have kW : Keeps w (((w.alloc (.cells (op8C o).toArray 85)).alloc (.cells #[.slice none 0 0, .slice none 0 0, .int .i64 0, .string ⟨#[]⟩, .int .i64 0] 79)).alloc (.cells #[.slice none 0 0, .slice none 0 0, .int .i64 0, .string ⟨#[]⟩, .int .i64 0] 79)) := keeps_trans (keeps_trans (keeps_alloc _ _) (keeps_alloc _ _)) (keeps_alloc _ _)
  have hs3 : (((w.alloc (.cells (op8C o).toArray 85)).alloc (.cells #[.slice none 0 0, .slice none 0 0, .int .i64 0, .string ⟨#[]⟩, .int .i64 0] 79)).alloc (.cells #[.slice none 0 0, .slice none 0 0, .int .i64 0, .string ⟨#[]⟩, .int .i64 0] 79)).heap.size = w.heap.size + 3 := by simp
  have B1 := box_mid8 w (.cells (op8C o).toArray 85) 79 #[.slice none 0 0, .slice none 0 0, .int .i64 0, .string ⟨#[]⟩, .int .i64 0] (.cells #[.slice none 0 0, .slice none 0 0, .int .i64 0, .string ⟨#[]⟩, .int .i64 0] 79)
  have hw := h.keep kW
  have HD : doS8 s g o = (s, none, ⟨[], [], 0, [], openE s o.name⟩) := by unfold doS8; rw [hk]; rw [if_neg (by decide), if_pos rfl, if_neg hE, if_neg hE]
  have HE0 := Lib.hid hE
  have C := Lib.hid (pfOpen_made hw hZ hs7 o.name ho.nm rfl)
  have HF := Lib.hid hF
  have HK := Lib.hid h
  have HS3 := Lib.hid hs3
  have KW := Lib.hid kW
  have HDO := Lib.hid HD
  have HNM := Lib.hid hnm
  have hml := Lib.hid ho.nm
  unfold op8C opC strV at *
  rw [hk] at *
  clear hF h hw hs3 ho hZ HD hnm
  simp only [List.cons_append, List.nil_append] at *
  go_enter Tryz.func37, Tryz.ntmps37
  go_wp2_with fail
  refine C.out.mono ?_
  rintro e w1 ⟨F', h1, t1, ⟨hbad, -⟩ | ⟨-, rfl⟩⟩
  · exact absurd hbad HE0.out
  have NM := Lib.hid (nil8_Name w1)
  have n1 : ¬ F (w.heap.size + 1) := fun e => by have := HF.out _ e; omega
  have X0 := B1.turned t1 n1
  have H1 := Lib.hid h1
  have T1 := Lib.hid t1
  clear h1 t1 n1 B1
  go_wp2_with fail
  refine NM.out.mono ?_
  rintro e w2 ⟨rfl, k2⟩
  have X1 := X0.keep k2
  have H2 := Lib.hid (H1.out.keep k2)
  have T2 := Lib.hid (T1.out.trans (Turns.of_keeps k2))
  clear k2 X0
  have c10 := X1.cell 0 rfl
  have c11 := X1.cell 1 rfl
  have c12 := X1.cell 2 rfl
  have c13 := X1.cell 3 rfl
  have c14 := X1.cell 4 rfl
  have f10 := X1.frozen 0
  have f11 := X1.frozen 1
  have f12 := X1.frozen 2
  have f13 := X1.frozen 3
  have f14 := X1.frozen 4
  go_wp2_with fail
  have XB : Box ((((((w2).setCell ⟨w.heap.size + 1, 0, none⟩ (.slice none 0 0)).setCell ⟨w.heap.size + 1, 1, none⟩ (.slice none 0 0)).setCell ⟨w.heap.size + 1, 2, none⟩ (.int .i64 0)).setCell ⟨w.heap.size + 1, 3, none⟩ (.string ⟨#[]⟩)).setCell ⟨w.heap.size + 1, 4, none⟩ (.int .i64 (openE s o.name : Int))) (w.heap.size + 1) 79 #[.slice none 0 0, .slice none 0 0, .int .i64 0, .string ⟨#[]⟩, .int .i64 (openE s o.name : Int)] := by simpa using (((((X1.set 0 (.slice none 0 0)).set 1 (.slice none 0 0)).set 2 (.int .i64 0)).set 3 (.string ⟨#[]⟩)).set 4 (.int .i64 (openE s o.name : Int)))
  have XO : Only w2 ((((((w2).setCell ⟨w.heap.size + 1, 0, none⟩ (.slice none 0 0)).setCell ⟨w.heap.size + 1, 1, none⟩ (.slice none 0 0)).setCell ⟨w.heap.size + 1, 2, none⟩ (.int .i64 0)).setCell ⟨w.heap.size + 1, 3, none⟩ (.string ⟨#[]⟩)).setCell ⟨w.heap.size + 1, 4, none⟩ (.int .i64 (openE s o.name : Int))) (fun i => w.heap.size ≤ i ∧ i < w.heap.size + 3) := only_xt w2 (w.heap.size) (w.heap.size + 3) [((⟨w.heap.size + 1, 0, none⟩ : Addr), (.slice none 0 0 : Value)), ((⟨w.heap.size + 1, 1, none⟩ : Addr), (.slice none 0 0 : Value)), ((⟨w.heap.size + 1, 2, none⟩ : Addr), (.int .i64 0 : Value)), ((⟨w.heap.size + 1, 3, none⟩ : Addr), (.string ⟨#[]⟩ : Value)), ((⟨w.heap.size + 1, 4, none⟩ : Addr), (.int .i64 (openE s o.name : Int) : Value))] (by simp <;> omega)
  generalize (((((w2).setCell ⟨w.heap.size + 1, 0, none⟩ (.slice none 0 0)).setCell ⟨w.heap.size + 1, 1, none⟩ (.slice none 0 0)).setCell ⟨w.heap.size + 1, 2, none⟩ (.int .i64 0)).setCell ⟨w.heap.size + 1, 3, none⟩ (.string ⟨#[]⟩)).setCell ⟨w.heap.size + 1, 4, none⟩ (.int .i64 (openE s o.name : Int)) = W4 at *
  have d0 := XB.cell 0 rfl
  have d1 := XB.cell 1 rfl
  have d2 := XB.cell 2 rfl
  have d3 := XB.cell 3 rfl
  have d4 := XB.cell 4 rfl
  refine bodyPost_ret (v := .tuple #[.agg #[.slice none 0 0, .slice none 0 0, .int .i64 0, .string ⟨#[]⟩, .int .i64 (openE s o.name : Int)], .pointer none]) (by simp [results, Tryz.results37, go_sem, d0, d1, d2, d3, d4]) rfl ?_
  have hlt := HF.out
  have h4 : Have K w0 W4 b F' (s) := ⟨K.same H2.out.D (fun i hi => XO.block i (K.lt H2.out.D i hi) (fun hh => by
    rcases T2.out.next i hi with q | q
    · have := hlt i q; omega
    · rw [HS3.out] at q; omega)) XO.size, H2.out.low, Below.trans H2.out.kp (XO.below (fun i hi => Nat.le_trans HK.out.kp.size hi.1) H2.out.kp.size)⟩
  have t4 : Turns w W4 F F' := T2.out.wrap KW.out hlt (XO.weak (fun i hi => hi.1))
  exact ⟨_, _, F', rfl, by
    rw [HDO.out]
    exact ⟨.slice none 0 0, .slice none 0 0, rfl, Own.nil _ _ _ _, Own.nil _ _ _ _⟩, by rw [HDO.out]; exact h4, t4, (by rw [HDO.out]; rfl), .inr (fun a e => by first | (cases e; done) | (cases e; have := HA.out.2.1; rw [HS3.out] at this; show w.heap.size ≤ f; omega))⟩

set_option maxHeartbeats 8000000 in
theorem does8_readY {K : DiskOk} {w0 w : World} {b : Nat} {F : Nat → Prop} {s : Ds} (hZ : K.Z w0) (hs7 : s.l.length ≤ 70000) (h : Have K w0 w b F s) (o : Op8) (ho : Op8Ok w0 o) {f : Nat} {nm : List UInt8} (hf : PfAt w f b nm) (hnf : ¬ F f) (hnm : nm.length ≤ 70000) (hk : o.kind = 2) :
    Calls Tryz.prog 37 #[.pointer (some ⟨b, 0, none⟩), .pointer (some ⟨f, 0, none⟩), .agg (op8C o).toArray] w (DoneV8 K w0 w b F s (some nm) o (.pointer (some ⟨f, 0, none⟩))) := by
  have hF := K.lt h.D
  have kW : Keeps w (((w.alloc (.cells (op8C o).toArray 85)).alloc (.cells #[.slice none 0 0, .slice none 0 0, .int .i64 0, .string ⟨#[]⟩, .int .i64 0] 79)).alloc (.cells #[.slice none 0 0, .slice none 0 0, .int .i64 0, .string ⟨#[]⟩, .int .i64 0] 79)) := keeps_trans (keeps_trans (keeps_alloc _ _) (keeps_alloc _ _)) (keeps_alloc _ _)
  have hs3 : (((w.alloc (.cells (op8C o).toArray 85)).alloc (.cells #[.slice none 0 0, .slice none 0 0, .int .i64 0, .string ⟨#[]⟩, .int .i64 0] 79)).alloc (.cells #[.slice none 0 0, .slice none 0 0, .int .i64 0, .string ⟨#[]⟩, .int .i64 0] 79)).heap.size = w.heap.size + 3 := by simp
  have B1 := box_mid8 w (.cells (op8C o).toArray 85) 79 #[.slice none 0 0, .slice none 0 0, .int .i64 0, .string ⟨#[]⟩, .int .i64 0] (.cells #[.slice none 0 0, .slice none 0 0, .int .i64 0, .string ⟨#[]⟩, .int .i64 0] 79)
  have B2 := box_third8 w (.cells (op8C o).toArray 85) (.cells #[.slice none 0 0, .slice none 0 0, .int .i64 0, .string ⟨#[]⟩, .int .i64 0] 79) 79 #[.slice none 0 0, .slice none 0 0, .int .i64 0, .string ⟨#[]⟩, .int .i64 0]
  have hw := h.keep kW
  have HD : doS8 s (some nm) o = (s, some nm, ⟨(readP s nm o.k).1, [], 0, [], (readP s nm o.k).2⟩) := by unfold doS8; rw [hk]; rfl
  
  have C := Lib.hid (pfRead_any hw hZ hs7 (hf.keep kW) (by omega) o.k ho.k (l := (readP s nm o.k).1) (E := (readP s nm o.k).2) rfl)
  have HF := Lib.hid hF
  have HK := Lib.hid h
  have HS3 := Lib.hid hs3
  have KW := Lib.hid kW
  have HDO := Lib.hid HD
  have HH := Lib.hid (And.intro hf (And.intro hnf hnm))
  generalize (readP s nm o.k).2 = E at *
  unfold op8C opC strV at *
  rw [hk] at *
  clear hF h hw hs3 ho hZ HD
  simp only [List.cons_append, List.nil_append] at *
  go_enter Tryz.func37, Tryz.ntmps37
  go_wp2_with fail
  refine C.out.mono ?_
  rintro e w1 ⟨A1, c1, rfl, -, oo, kk⟩
  obtain ⟨L, hL⟩ : ∃ L, (readP s nm o.k).1.length = L := ⟨_, rfl⟩
  rw [hL] at oo ⊢
  have LL := Lib.hid hL
  clear hL
  have OO := Lib.hid oo
  clear oo
  have X1 := B1.keep kk
  have X2 := B2.keep kk
  have c10 := X1.cell 0 rfl
  have c11 := X1.cell 1 rfl
  have c12 := X1.cell 2 rfl
  have c13 := X1.cell 3 rfl
  have c14 := X1.cell 4 rfl
  have f10 := X1.frozen 0
  have f11 := X1.frozen 1
  have f12 := X1.frozen 2
  have f13 := X1.frozen 3
  have f14 := X1.frozen 4
  have c20 := X2.cell 0 rfl
  have c21 := X2.cell 1 rfl
  have c22 := X2.cell 2 rfl
  have c23 := X2.cell 3 rfl
  have c24 := X2.cell 4 rfl
  have f20 := X2.frozen 0
  have f24 := X2.frozen 4
  have KK := Lib.hid kk
  clear kk B1 B2 X2
  go_wp2_with fail
  have XB : Box ((((((((w1).setCell ⟨w.heap.size + 1 + 1, 0, none⟩ (.slice A1 L c1)).setCell ⟨w.heap.size + 1 + 1, 4, none⟩ (.int .i64 (E : Int))).setCell ⟨w.heap.size + 1, 0, none⟩ (.slice A1 L c1)).setCell ⟨w.heap.size + 1, 1, none⟩ (.slice none 0 0)).setCell ⟨w.heap.size + 1, 2, none⟩ (.int .i64 0)).setCell ⟨w.heap.size + 1, 3, none⟩ (.string ⟨#[]⟩)).setCell ⟨w.heap.size + 1, 4, none⟩ (.int .i64 (E : Int))) (w.heap.size + 1) 79 #[.slice A1 L c1, .slice none 0 0, .int .i64 0, .string ⟨#[]⟩, .int .i64 (E : Int)] := by simpa using (((((((X1.far (p := ⟨w.heap.size + 1 + 1, 0, none⟩) (show w.heap.size + 1 ≠ w.heap.size + 1 + 1 by omega) (.slice A1 L c1)).far (p := ⟨w.heap.size + 1 + 1, 4, none⟩) (show w.heap.size + 1 ≠ w.heap.size + 1 + 1 by omega) (.int .i64 (E : Int))).set 0 (.slice A1 L c1)).set 1 (.slice none 0 0)).set 2 (.int .i64 0)).set 3 (.string ⟨#[]⟩)).set 4 (.int .i64 (E : Int)))
  have XO : Only w1 ((((((((w1).setCell ⟨w.heap.size + 1 + 1, 0, none⟩ (.slice A1 L c1)).setCell ⟨w.heap.size + 1 + 1, 4, none⟩ (.int .i64 (E : Int))).setCell ⟨w.heap.size + 1, 0, none⟩ (.slice A1 L c1)).setCell ⟨w.heap.size + 1, 1, none⟩ (.slice none 0 0)).setCell ⟨w.heap.size + 1, 2, none⟩ (.int .i64 0)).setCell ⟨w.heap.size + 1, 3, none⟩ (.string ⟨#[]⟩)).setCell ⟨w.heap.size + 1, 4, none⟩ (.int .i64 (E : Int))) (fun i => w.heap.size ≤ i ∧ i < w.heap.size + 3) := only_xt w1 (w.heap.size) (w.heap.size + 3) [((⟨w.heap.size + 1 + 1, 0, none⟩ : Addr), (.slice A1 L c1 : Value)), ((⟨w.heap.size + 1 + 1, 4, none⟩ : Addr), (.int .i64 (E : Int) : Value)), ((⟨w.heap.size + 1, 0, none⟩ : Addr), (.slice A1 L c1 : Value)), ((⟨w.heap.size + 1, 1, none⟩ : Addr), (.slice none 0 0 : Value)), ((⟨w.heap.size + 1, 2, none⟩ : Addr), (.int .i64 0 : Value)), ((⟨w.heap.size + 1, 3, none⟩ : Addr), (.string ⟨#[]⟩ : Value)), ((⟨w.heap.size + 1, 4, none⟩ : Addr), (.int .i64 (E : Int) : Value))] (by simp <;> omega)
  generalize (((((((w1).setCell ⟨w.heap.size + 1 + 1, 0, none⟩ (.slice A1 L c1)).setCell ⟨w.heap.size + 1 + 1, 4, none⟩ (.int .i64 (E : Int))).setCell ⟨w.heap.size + 1, 0, none⟩ (.slice A1 L c1)).setCell ⟨w.heap.size + 1, 1, none⟩ (.slice none 0 0)).setCell ⟨w.heap.size + 1, 2, none⟩ (.int .i64 0)).setCell ⟨w.heap.size + 1, 3, none⟩ (.string ⟨#[]⟩)).setCell ⟨w.heap.size + 1, 4, none⟩ (.int .i64 (E : Int)) = W4 at *
  have d0 := XB.cell 0 rfl
  have d1 := XB.cell 1 rfl
  have d2 := XB.cell 2 rfl
  have d3 := XB.cell 3 rfl
  have d4 := XB.cell 4 rfl
  refine bodyPost_ret (v := .tuple #[.agg #[.slice A1 L c1, .slice none 0 0, .int .i64 0, .string ⟨#[]⟩, .int .i64 (E : Int)], .pointer (some ⟨f, 0, none⟩)]) (by simp [results, Tryz.results37, go_sem, d0, d1, d2, d3, d4]) rfl ?_
  have K4 : Keeps w W4 := Below.trans (keeps_trans KW.out KK.out) (XO.below (fun i hi => hi.1) (Nat.le_trans KW.out.size KK.out.size))
  refine ⟨_, _, F, rfl, ?_, by rw [HDO.out]; exact HK.out.keep K4, Turns.of_keeps K4, (by rw [HDO.out]; exact ⟨f, rfl, HH.out.1.keep K4, HH.out.2.1, HH.out.2.2⟩), .inl rfl⟩
  rw [HDO.out]
  refine ⟨.slice A1 L c1, .slice none 0 0, rfl, ?_, Own.nil _ _ _ _⟩
  show Own W4 w.heap.size 5 1 (.slice A1 L c1) (readP s nm o.k).1.length (cel (readP s nm o.k).1)
  rw [LL.out]
  exact (OO.out.only_ XO (fun k hk hs => by have := (OO.out.lt k hk).1; rw [HS3.out] at this; omega)).base_le (by rw [HS3.out]; omega)

set_option maxHeartbeats 8000000 in
theorem does8_readN {K : DiskOk} {w0 w : World} {b : Nat} {F : Nat → Prop} {s : Ds} (hZ : K.Z w0) (hs7 : s.l.length ≤ 70000) (h : Have K w0 w b F s) (o : Op8) (ho : Op8Ok w0 o)  (hk : o.kind = 2) :
    Calls Tryz.prog 37 #[.pointer (some ⟨b, 0, none⟩), .pointer none, .agg (op8C o).toArray] w (DoneV8 K w0 w b F s none o (.pointer none)) := by
  have hF := K.lt h.D
  have kW : Keeps w (((w.alloc (.cells (op8C o).toArray 85)).alloc (.cells #[.slice none 0 0, .slice none 0 0, .int .i64 0, .string ⟨#[]⟩, .int .i64 0] 79)).alloc (.cells #[.slice none 0 0, .slice none 0 0, .int .i64 0, .string ⟨#[]⟩, .int .i64 0] 79)) := keeps_trans (keeps_trans (keeps_alloc _ _) (keeps_alloc _ _)) (keeps_alloc _ _)
  have hs3 : (((w.alloc (.cells (op8C o).toArray 85)).alloc (.cells #[.slice none 0 0, .slice none 0 0, .int .i64 0, .string ⟨#[]⟩, .int .i64 0] 79)).alloc (.cells #[.slice none 0 0, .slice none 0 0, .int .i64 0, .string ⟨#[]⟩, .int .i64 0] 79)).heap.size = w.heap.size + 3 := by simp
  have B1 := box_mid8 w (.cells (op8C o).toArray 85) 79 #[.slice none 0 0, .slice none 0 0, .int .i64 0, .string ⟨#[]⟩, .int .i64 0] (.cells #[.slice none 0 0, .slice none 0 0, .int .i64 0, .string ⟨#[]⟩, .int .i64 0] 79)
  have B2 := box_third8 w (.cells (op8C o).toArray 85) (.cells #[.slice none 0 0, .slice none 0 0, .int .i64 0, .string ⟨#[]⟩, .int .i64 0] 79) 79 #[.slice none 0 0, .slice none 0 0, .int .i64 0, .string ⟨#[]⟩, .int .i64 0]
  have hw := h.keep kW
  have HD : doS8 s none o = (s, none, ⟨[], [], 0, [], 2⟩) := by unfold doS8; rw [hk]; rfl
  
  have C := Lib.hid (nil8_Read o.k (((w.alloc (.cells (op8C o).toArray 85)).alloc (.cells #[.slice none 0 0, .slice none 0 0, .int .i64 0, .string ⟨#[]⟩, .int .i64 0] 79)).alloc (.cells #[.slice none 0 0, .slice none 0 0, .int .i64 0, .string ⟨#[]⟩, .int .i64 0] 79)))
  have HF := Lib.hid hF
  have HK := Lib.hid h
  have HS3 := Lib.hid hs3
  have KW := Lib.hid kW
  have HDO := Lib.hid HD
  
  
  unfold op8C opC strV at *
  rw [hk] at *
  clear hF h hw hs3 ho hZ HD
  simp only [List.cons_append, List.nil_append] at *
  go_enter Tryz.func37, Tryz.ntmps37
  go_wp2_with fail
  refine C.out.mono ?_
  rintro e w1 ⟨rfl, kk⟩
  have X1 := B1.keep kk
  have X2 := B2.keep kk
  have c10 := X1.cell 0 rfl
  have c11 := X1.cell 1 rfl
  have c12 := X1.cell 2 rfl
  have c13 := X1.cell 3 rfl
  have c14 := X1.cell 4 rfl
  have f10 := X1.frozen 0
  have f11 := X1.frozen 1
  have f12 := X1.frozen 2
  have f13 := X1.frozen 3
  have f14 := X1.frozen 4
  have c20 := X2.cell 0 rfl
  have c21 := X2.cell 1 rfl
  have c22 := X2.cell 2 rfl
  have c23 := X2.cell 3 rfl
  have c24 := X2.cell 4 rfl
  have f20 := X2.frozen 0
  have f24 := X2.frozen 4
  have KK := Lib.hid kk
  clear kk B1 B2 X2
  go_wp2_with fail
  have XB : Box ((((((((w1).setCell ⟨w.heap.size + 1 + 1, 0, none⟩ (.slice none 0 0)).setCell ⟨w.heap.size + 1 + 1, 4, none⟩ (.int .i64 2)).setCell ⟨w.heap.size + 1, 0, none⟩ (.slice none 0 0)).setCell ⟨w.heap.size + 1, 1, none⟩ (.slice none 0 0)).setCell ⟨w.heap.size + 1, 2, none⟩ (.int .i64 0)).setCell ⟨w.heap.size + 1, 3, none⟩ (.string ⟨#[]⟩)).setCell ⟨w.heap.size + 1, 4, none⟩ (.int .i64 2)) (w.heap.size + 1) 79 #[.slice none 0 0, .slice none 0 0, .int .i64 0, .string ⟨#[]⟩, .int .i64 2] := by simpa using (((((((X1.far (p := ⟨w.heap.size + 1 + 1, 0, none⟩) (show w.heap.size + 1 ≠ w.heap.size + 1 + 1 by omega) (.slice none 0 0)).far (p := ⟨w.heap.size + 1 + 1, 4, none⟩) (show w.heap.size + 1 ≠ w.heap.size + 1 + 1 by omega) (.int .i64 2)).set 0 (.slice none 0 0)).set 1 (.slice none 0 0)).set 2 (.int .i64 0)).set 3 (.string ⟨#[]⟩)).set 4 (.int .i64 2))
  have XO : Only w1 ((((((((w1).setCell ⟨w.heap.size + 1 + 1, 0, none⟩ (.slice none 0 0)).setCell ⟨w.heap.size + 1 + 1, 4, none⟩ (.int .i64 2)).setCell ⟨w.heap.size + 1, 0, none⟩ (.slice none 0 0)).setCell ⟨w.heap.size + 1, 1, none⟩ (.slice none 0 0)).setCell ⟨w.heap.size + 1, 2, none⟩ (.int .i64 0)).setCell ⟨w.heap.size + 1, 3, none⟩ (.string ⟨#[]⟩)).setCell ⟨w.heap.size + 1, 4, none⟩ (.int .i64 2)) (fun i => w.heap.size ≤ i ∧ i < w.heap.size + 3) := only_xt w1 (w.heap.size) (w.heap.size + 3) [((⟨w.heap.size + 1 + 1, 0, none⟩ : Addr), (.slice none 0 0 : Value)), ((⟨w.heap.size + 1 + 1, 4, none⟩ : Addr), (.int .i64 2 : Value)), ((⟨w.heap.size + 1, 0, none⟩ : Addr), (.slice none 0 0 : Value)), ((⟨w.heap.size + 1, 1, none⟩ : Addr), (.slice none 0 0 : Value)), ((⟨w.heap.size + 1, 2, none⟩ : Addr), (.int .i64 0 : Value)), ((⟨w.heap.size + 1, 3, none⟩ : Addr), (.string ⟨#[]⟩ : Value)), ((⟨w.heap.size + 1, 4, none⟩ : Addr), (.int .i64 2 : Value))] (by simp <;> omega)
  generalize (((((((w1).setCell ⟨w.heap.size + 1 + 1, 0, none⟩ (.slice none 0 0)).setCell ⟨w.heap.size + 1 + 1, 4, none⟩ (.int .i64 2)).setCell ⟨w.heap.size + 1, 0, none⟩ (.slice none 0 0)).setCell ⟨w.heap.size + 1, 1, none⟩ (.slice none 0 0)).setCell ⟨w.heap.size + 1, 2, none⟩ (.int .i64 0)).setCell ⟨w.heap.size + 1, 3, none⟩ (.string ⟨#[]⟩)).setCell ⟨w.heap.size + 1, 4, none⟩ (.int .i64 2) = W4 at *
  have d0 := XB.cell 0 rfl
  have d1 := XB.cell 1 rfl
  have d2 := XB.cell 2 rfl
  have d3 := XB.cell 3 rfl
  have d4 := XB.cell 4 rfl
  refine bodyPost_ret (v := .tuple #[.agg #[.slice none 0 0, .slice none 0 0, .int .i64 0, .string ⟨#[]⟩, .int .i64 2], .pointer none]) (by simp [results, Tryz.results37, go_sem, d0, d1, d2, d3, d4]) rfl ?_
  have K4 : Keeps w W4 := Below.trans (keeps_trans KW.out KK.out) (XO.below (fun i hi => hi.1) (Nat.le_trans KW.out.size KK.out.size))
  refine ⟨_, _, F, rfl, ?_, by rw [HDO.out]; exact HK.out.keep K4, Turns.of_keeps K4, (by rw [HDO.out]; rfl), .inl rfl⟩
  rw [HDO.out]
  exact ⟨.slice none 0 0, .slice none 0 0, rfl, Own.nil _ _ _ _, Own.nil _ _ _ _⟩

theorem Have.cell_ {K : DiskOk} {w0 w : World} {b : Nat} {F : Nat → Prop} {s : Ds} (h : Have K w0 w b F s) (p : Addr) (u : Value) (hn : ¬ F p.block) (hp : w0.heap.size ≤ p.block) : Have K w0 (w.setCell p u) b F s :=
  ⟨K.same h.D (fun i hi => Below.heap_setCell w p u i (fun e => hn (e ▸ hi))) (by simp), h.low, Below.trans h.kp ⟨rfl, rfl, rfl, by simp, fun i hi => Below.heap_setCell _ _ _ _ (by omega)⟩⟩

set_option maxHeartbeats 16000000 in
theorem does8_writeY {K : DiskOk} {w0 w : World} {b : Nat} {F : Nat → Prop} {s : Ds} (hZ : K.Z w0) (hs7 : s.l.length ≤ 70000) (h : Have K w0 w b F s) (o : Op8) (ho : Op8Ok w0 o) {f : Nat} {nm : List UInt8} (hf : PfAt w f b nm) (hnf : ¬ F f) (hnm : nm.length ≤ 70000) (hk : o.kind = 3) :
    Calls Tryz.prog 37 #[.pointer (some ⟨b, 0, none⟩), .pointer (some ⟨f, 0, none⟩), .agg (op8C o).toArray] w (DoneV8 K w0 w b F s (some nm) o (.pointer (some ⟨f, 0, none⟩))) := by
  have kW : Keeps w (((w.alloc (.cells (op8C o).toArray 85)).alloc (.cells #[.slice none 0 0, .slice none 0 0, .int .i64 0, .string ⟨#[]⟩, .int .i64 0] 79)).alloc (.cells #[.slice none 0 0, .slice none 0 0, .int .i64 0, .string ⟨#[]⟩, .int .i64 0] 79)) := keeps_trans (keeps_trans (keeps_alloc _ _) (keeps_alloc _ _)) (keeps_alloc _ _)
  have hs3 : ((((w.alloc (.cells (op8C o).toArray 85)).alloc (.cells #[.slice none 0 0, .slice none 0 0, .int .i64 0, .string ⟨#[]⟩, .int .i64 0] 79)).alloc (.cells #[.slice none 0 0, .slice none 0 0, .int .i64 0, .string ⟨#[]⟩, .int .i64 0] 79))).heap.size = w.heap.size + 3 := by simp
  have B1 := Lib.hid (box_mid8 w (.cells (op8C o).toArray 85) 79 #[.slice none 0 0, .slice none 0 0, .int .i64 0, .string ⟨#[]⟩, .int .i64 0] (.cells #[.slice none 0 0, .slice none 0 0, .int .i64 0, .string ⟨#[]⟩, .int .i64 0] 79))
  have B2 := Lib.hid (box_third8 w (.cells (op8C o).toArray 85) (.cells #[.slice none 0 0, .slice none 0 0, .int .i64 0, .string ⟨#[]⟩, .int .i64 0] 79) 79 #[.slice none 0 0, .slice none 0 0, .int .i64 0, .string ⟨#[]⟩, .int .i64 0])
  have OB := Lib.hid (show Box (((w.alloc (.cells (op8C o).toArray 85)).alloc (.cells #[.slice none 0 0, .slice none 0 0, .int .i64 0, .string ⟨#[]⟩, .int .i64 0] 79)).alloc (.cells #[.slice none 0 0, .slice none 0 0, .int .i64 0, .string ⟨#[]⟩, .int .i64 0] 79)) w.heap.size 85 (op8C o).toArray from (Box.new w 85 (op8C o).toArray).keep (keeps_trans (keeps_alloc _ _) (keeps_alloc _ _)))
  have hw := h.keep kW
  obtain ⟨s1, E, hr⟩ : ∃ s1 E, writeP s nm o.k o.b = (s1, E) := ⟨_, _, rfl⟩
  have HD : doS8 s (some nm) o = (s1, some nm, ⟨o.b, [], 0, [], E⟩) := by
    unfold doS8
    rw [hk]
    show ((writeP s nm o.k o.b).1, some nm, (⟨o.b, [], 0, [], (writeP s nm o.k o.b).2⟩ : Told8)) = _
    rw [hr]
  have HH := Lib.hid (And.intro hf (And.intro hnf hnm))
  have C := Lib.hid (pfWrite_any hw hZ hs7 (hf.keep kW) (by omega) o.k ho.k o.A o.len o.c o.b (ho.b.low hw.kp) ho.len (Nat.le_trans ho.c ho.m) hr)
  have HL := Lib.hid ho.len
  have hLb : o.len ≤ maxLen := Nat.le_trans ho.c ho.m
  have CB := Lib.hid (fun (V : World) (kk : Keeps w0 V) => copyBytes_any o.A o.len o.c o.b V (ho.b.low kk) ho.len (Nat.le_trans ho.c ho.m))
  have HF := Lib.hid (fun i (hi : F i) => K.lt h.D i hi)
  have LOW := Lib.hid (show w0.heap.size ≤ w.heap.size + 1 from Nat.le_trans h.kp.size (Nat.le_succ _))
  have HS3 := Lib.hid hs3
  have KW := Lib.hid kW
  have HDO := Lib.hid HD
  unfold op8C opC strV at *
  rw [hk] at *
  unfold maxLen at hLb
  clear h hw hs3 ho hZ HD kW hr hf hnf hnm
  simp only [List.cons_append, List.nil_append] at *
  generalize hL : o.len = L at *
  clear hL
  go_enter Tryz.func37, Tryz.ntmps37
  go_wp2_with fail
  refine C.out.mono ?_
  rintro e w1 ⟨rfl, F', h1, t1⟩
  have SZ1 := Lib.hid (show w.heap.size + 3 ≤ w1.heap.size by rw [← HS3.out]; exact t1.only.size)
  have nX : ¬ F (w.heap.size + 1 + 1) := fun e => by have := HF.out _ e; omega
  have nY : ¬ F (w.heap.size + 1) := fun e => by have := HF.out _ e; omega
  have nO : ¬ F (w.heap.size) := fun e => by have := HF.out _ e; omega
  have X1 := B2.out.turned t1 nX
  have Y1 := B1.out.turned t1 nY
  have OB1 := OB.out.turned t1 nO
  have NFX := Lib.hid (t1.notIn B2.out.lt nX)
  have NFY := Lib.hid (t1.notIn B1.out.lt nY)
  have c20 := X1.cell 0 rfl
  have c21 := X1.cell 1 rfl
  have c22 := X1.cell 2 rfl
  have c23 := X1.cell 3 rfl
  have c24 := X1.cell 4 rfl
  have f20 := X1.frozen 0
  have f24 := X1.frozen 4
  have z3 := OB1.cell 3 rfl
  have X2 := Lib.hid (show Box (w1.setCell ⟨w.heap.size + 1 + 1, 4, none⟩ (.int .i64 (E : Int))) (w.heap.size + 1 + 1) 79 #[.slice none 0 0, .slice none 0 0, .int .i64 0, .string ⟨#[]⟩, .int .i64 (E : Int)] by simpa using X1.set 4 (.int .i64 (E : Int)))
  have Y2 := Lib.hid (Y1.far (p := ⟨w.heap.size + 1 + 1, 4, none⟩) (show w.heap.size + 1 ≠ w.heap.size + 1 + 1 by omega) (.int .i64 (E : Int)))
  have H2 := Lib.hid (h1.cell_ ⟨w.heap.size + 1 + 1, 4, none⟩ (.int .i64 (E : Int)) NFX.out (Nat.le_succ_of_le LOW.out))
  have T2 := Lib.hid (((Turns.of_keeps KW.out).trans t1).cell_ ⟨w.heap.size + 1 + 1, 4, none⟩ (.int .i64 (E : Int)) (by show w.heap.size ≤ w.heap.size + 1 + 1; omega))
  have CB2 := Lib.hid (CB.out _ H2.out.kp)
  have SZ2 := Lib.hid (show w.heap.size + 3 ≤ (w1.setCell ⟨w.heap.size + 1 + 1, 4, none⟩ (.int .i64 (E : Int))).heap.size by simpa using SZ1.out)
  clear h1 t1 nX nY nO X1 Y1 OB1
  go_wp2_with fail
  generalize w1.setCell ⟨w.heap.size + 1 + 1, 4, none⟩ (.int .i64 (E : Int)) = w2 at *
  refine CB2.out.mono ?_
  rintro e w3 ⟨v3, rfl, o3, k3⟩
  rw [← HL.out] at o3
  obtain ⟨A2, c2, rfl, -⟩ := o3.form
  have X3 := X2.out.keep k3
  have Y3 := Y2.out.keep k3
  clear c20 c21 c22 c23 c24 f20 f24 z3
  have c20 := X3.cell 0 rfl
  have c21 := X3.cell 1 rfl
  have c22 := X3.cell 2 rfl
  have c23 := X3.cell 3 rfl
  have c24 := X3.cell 4 rfl
  have f20 := X3.frozen 0
  have c10 := Y3.cell 0 rfl
  have c11 := Y3.cell 1 rfl
  have c12 := Y3.cell 2 rfl
  have c13 := Y3.cell 3 rfl
  have c14 := Y3.cell 4 rfl
  have f10 := Y3.frozen 0
  have f11 := Y3.frozen 1
  have f12 := Y3.frozen 2
  have f13 := Y3.frozen 3
  have f14 := Y3.frozen 4
  have O3 := Lib.hid o3
  have H4 := Lib.hid ((H2.out.keep k3).cell_ ⟨w.heap.size + 1 + 1, 0, none⟩ (.slice A2 L c2) NFX.out (Nat.le_succ_of_le LOW.out))
  have T4 := Lib.hid ((T2.out.trans (Turns.of_keeps k3)).cell_ ⟨w.heap.size + 1 + 1, 0, none⟩ (.slice A2 L c2) (by show w.heap.size ≤ w.heap.size + 1 + 1; omega))
  have YB := Lib.hid (Y3.far (p := ⟨w.heap.size + 1 + 1, 0, none⟩) (show w.heap.size + 1 ≠ w.heap.size + 1 + 1 by omega) (.slice A2 L c2))
  clear o3 k3 X3 Y3
  go_wp2_with fail
  have ZB : Box ((((((w3.setCell ⟨w.heap.size + 1 + 1, 0, none⟩ (.slice A2 L c2)).setCell ⟨w.heap.size + 1, 0, none⟩ (.slice A2 L c2)).setCell ⟨w.heap.size + 1, 1, none⟩ (.slice none 0 0)).setCell ⟨w.heap.size + 1, 2, none⟩ (.int .i64 0)).setCell ⟨w.heap.size + 1, 3, none⟩ (.string ⟨#[]⟩)).setCell ⟨w.heap.size + 1, 4, none⟩ (.int .i64 (E : Int))) (w.heap.size + 1) 79 #[.slice A2 L c2, .slice none 0 0, .int .i64 0, .string ⟨#[]⟩, .int .i64 (E : Int)] := by simpa using (((((YB.out.set 0 (.slice A2 L c2)).set 1 (.slice none 0 0)).set 2 (.int .i64 0)).set 3 (.string ⟨#[]⟩)).set 4 (.int .i64 (E : Int)))
  have ZO : Only w3 ((((((w3.setCell ⟨w.heap.size + 1 + 1, 0, none⟩ (.slice A2 L c2)).setCell ⟨w.heap.size + 1, 0, none⟩ (.slice A2 L c2)).setCell ⟨w.heap.size + 1, 1, none⟩ (.slice none 0 0)).setCell ⟨w.heap.size + 1, 2, none⟩ (.int .i64 0)).setCell ⟨w.heap.size + 1, 3, none⟩ (.string ⟨#[]⟩)).setCell ⟨w.heap.size + 1, 4, none⟩ (.int .i64 (E : Int))) (fun i => w.heap.size ≤ i ∧ i < w.heap.size + 3) := only_xt w3 (w.heap.size) (w.heap.size + 3) [((⟨w.heap.size + 1 + 1, 0, none⟩ : Addr), (.slice A2 L c2 : Value)), ((⟨w.heap.size + 1, 0, none⟩ : Addr), (.slice A2 L c2 : Value)), ((⟨w.heap.size + 1, 1, none⟩ : Addr), (.slice none 0 0 : Value)), ((⟨w.heap.size + 1, 2, none⟩ : Addr), (.int .i64 0 : Value)), ((⟨w.heap.size + 1, 3, none⟩ : Addr), (.string ⟨#[]⟩ : Value)), ((⟨w.heap.size + 1, 4, none⟩ : Addr), (.int .i64 (E : Int) : Value))] (by simp <;> omega)
  have ZH := (((((H4.out.cell_ ⟨w.heap.size + 1, 0, none⟩ (.slice A2 L c2) NFY.out LOW.out).cell_ ⟨w.heap.size + 1, 1, none⟩ (.slice none 0 0) NFY.out LOW.out).cell_ ⟨w.heap.size + 1, 2, none⟩ (.int .i64 0) NFY.out LOW.out).cell_ ⟨w.heap.size + 1, 3, none⟩ (.string ⟨#[]⟩) NFY.out LOW.out).cell_ ⟨w.heap.size + 1, 4, none⟩ (.int .i64 (E : Int)) NFY.out LOW.out)
  have ZT := (((((T4.out.cell_ ⟨w.heap.size + 1, 0, none⟩ (.slice A2 L c2) (Nat.le_succ _)).cell_ ⟨w.heap.size + 1, 1, none⟩ (.slice none 0 0) (Nat.le_succ _)).cell_ ⟨w.heap.size + 1, 2, none⟩ (.int .i64 0) (Nat.le_succ _)).cell_ ⟨w.heap.size + 1, 3, none⟩ (.string ⟨#[]⟩) (Nat.le_succ _)).cell_ ⟨w.heap.size + 1, 4, none⟩ (.int .i64 (E : Int)) (Nat.le_succ _))
  generalize (((((w3.setCell ⟨w.heap.size + 1 + 1, 0, none⟩ (.slice A2 L c2)).setCell ⟨w.heap.size + 1, 0, none⟩ (.slice A2 L c2)).setCell ⟨w.heap.size + 1, 1, none⟩ (.slice none 0 0)).setCell ⟨w.heap.size + 1, 2, none⟩ (.int .i64 0)).setCell ⟨w.heap.size + 1, 3, none⟩ (.string ⟨#[]⟩)).setCell ⟨w.heap.size + 1, 4, none⟩ (.int .i64 (E : Int)) = W4 at *
  have d0 := ZB.cell 0 rfl
  have d1 := ZB.cell 1 rfl
  have d2 := ZB.cell 2 rfl
  have d3 := ZB.cell 3 rfl
  have d4 := ZB.cell 4 rfl
  refine bodyPost_ret (v := .tuple #[.agg #[.slice A2 L c2, .slice none 0 0, .int .i64 0, .string ⟨#[]⟩, .int .i64 (E : Int)], .pointer (some ⟨f, 0, none⟩)]) (by simp [results, Tryz.results37, go_sem, d0, d1, d2, d3, d4]) rfl ?_
  refine ⟨_, _, F', rfl, ?_, by rw [HDO.out]; exact ZH, ZT, (by rw [HDO.out]; exact ⟨f, rfl, (HH.out.1.turn ZT HH.out.2.1).1, (HH.out.1.turn ZT HH.out.2.1).2, HH.out.2.2⟩), .inl rfl⟩
  rw [HDO.out]
  refine ⟨.slice A2 L c2, .slice none 0 0, rfl, ?_, Own.nil _ _ _ _⟩
  show Own W4 w.heap.size 5 1 (.slice A2 L c2) o.b.length (cel o.b)
  rw [← HL.out]
  exact (O3.out.only_ ZO (fun k hk hs => by have := (O3.out.lt k hk).1; have := SZ2.out; omega)).base_le (by have := SZ2.out; omega)

set_option maxHeartbeats 16000000 in
theorem does8_writeN {K : DiskOk} {w0 w : World} {b : Nat} {F : Nat → Prop} {s : Ds} (hZ : K.Z w0) (hs7 : s.l.length ≤ 70000) (h : Have K w0 w b F s) (o : Op8) (ho : Op8Ok w0 o)  (hk : o.kind = 3) :
    Calls Tryz.prog 37 #[.pointer (some ⟨b, 0, none⟩), .pointer none, .agg (op8C o).toArray] w (DoneV8 K w0 w b F s none o (.pointer none)) := by
  have kW : Keeps w (((w.alloc (.cells (op8C o).toArray 85)).alloc (.cells #[.slice none 0 0, .slice none 0 0, .int .i64 0, .string ⟨#[]⟩, .int .i64 0] 79)).alloc (.cells #[.slice none 0 0, .slice none 0 0, .int .i64 0, .string ⟨#[]⟩, .int .i64 0] 79)) := keeps_trans (keeps_trans (keeps_alloc _ _) (keeps_alloc _ _)) (keeps_alloc _ _)
  have hs3 : ((((w.alloc (.cells (op8C o).toArray 85)).alloc (.cells #[.slice none 0 0, .slice none 0 0, .int .i64 0, .string ⟨#[]⟩, .int .i64 0] 79)).alloc (.cells #[.slice none 0 0, .slice none 0 0, .int .i64 0, .string ⟨#[]⟩, .int .i64 0] 79))).heap.size = w.heap.size + 3 := by simp
  have B1 := Lib.hid (box_mid8 w (.cells (op8C o).toArray 85) 79 #[.slice none 0 0, .slice none 0 0, .int .i64 0, .string ⟨#[]⟩, .int .i64 0] (.cells #[.slice none 0 0, .slice none 0 0, .int .i64 0, .string ⟨#[]⟩, .int .i64 0] 79))
  have B2 := Lib.hid (box_third8 w (.cells (op8C o).toArray 85) (.cells #[.slice none 0 0, .slice none 0 0, .int .i64 0, .string ⟨#[]⟩, .int .i64 0] 79) 79 #[.slice none 0 0, .slice none 0 0, .int .i64 0, .string ⟨#[]⟩, .int .i64 0])
  have OB := Lib.hid (show Box (((w.alloc (.cells (op8C o).toArray 85)).alloc (.cells #[.slice none 0 0, .slice none 0 0, .int .i64 0, .string ⟨#[]⟩, .int .i64 0] 79)).alloc (.cells #[.slice none 0 0, .slice none 0 0, .int .i64 0, .string ⟨#[]⟩, .int .i64 0] 79)) w.heap.size 85 (op8C o).toArray from (Box.new w 85 (op8C o).toArray).keep (keeps_trans (keeps_alloc _ _) (keeps_alloc _ _)))
  have hw := h.keep kW
  obtain ⟨E, hE⟩ : ∃ E : Nat, E = 2 := ⟨_, rfl⟩
  obtain ⟨s1, hs1⟩ : ∃ s1, s1 = s := ⟨_, rfl⟩
  have HD : doS8 s none o = (s1, none, ⟨o.b, [], 0, [], E⟩) := by unfold doS8; rw [hk, hE, hs1]; rfl
  have C := Lib.hid ((nil8_Write o.k o.A o.len o.c (((w.alloc (.cells (op8C o).toArray 85)).alloc (.cells #[.slice none 0 0, .slice none 0 0, .int .i64 0, .string ⟨#[]⟩, .int .i64 0] 79)).alloc (.cells #[.slice none 0 0, .slice none 0 0, .int .i64 0, .string ⟨#[]⟩, .int .i64 0] 79))).mono (R' := WentU K w0 (((w.alloc (.cells (op8C o).toArray 85)).alloc (.cells #[.slice none 0 0, .slice none 0 0, .int .i64 0, .string ⟨#[]⟩, .int .i64 0] 79)).alloc (.cells #[.slice none 0 0, .slice none 0 0, .int .i64 0, .string ⟨#[]⟩, .int .i64 0] 79)) b F s1 E) (fun e w' q => by rw [q.1, hE, hs1]; exact went_keep hw q.2))
  clear hE hs1
  have HL := Lib.hid ho.len
  have hLb : o.len ≤ maxLen := Nat.le_trans ho.c ho.m
  have CB := Lib.hid (fun (V : World) (kk : Keeps w0 V) => copyBytes_any o.A o.len o.c o.b V (ho.b.low kk) ho.len (Nat.le_trans ho.c ho.m))
  have HF := Lib.hid (fun i (hi : F i) => K.lt h.D i hi)
  have LOW := Lib.hid (show w0.heap.size ≤ w.heap.size + 1 from Nat.le_trans h.kp.size (Nat.le_succ _))
  have HS3 := Lib.hid hs3
  have KW := Lib.hid kW
  have HDO := Lib.hid HD
  unfold op8C opC strV at *
  rw [hk] at *
  unfold maxLen at hLb
  clear h hw hs3 ho hZ HD kW
  simp only [List.cons_append, List.nil_append] at *
  generalize hL : o.len = L at *
  clear hL
  go_enter Tryz.func37, Tryz.ntmps37
  go_wp2_with fail
  refine C.out.mono ?_
  rintro e w1 ⟨rfl, F', h1, t1⟩
  have SZ1 := Lib.hid (show w.heap.size + 3 ≤ w1.heap.size by rw [← HS3.out]; exact t1.only.size)
  have nX : ¬ F (w.heap.size + 1 + 1) := fun e => by have := HF.out _ e; omega
  have nY : ¬ F (w.heap.size + 1) := fun e => by have := HF.out _ e; omega
  have nO : ¬ F (w.heap.size) := fun e => by have := HF.out _ e; omega
  have X1 := B2.out.turned t1 nX
  have Y1 := B1.out.turned t1 nY
  have OB1 := OB.out.turned t1 nO
  have NFX := Lib.hid (t1.notIn B2.out.lt nX)
  have NFY := Lib.hid (t1.notIn B1.out.lt nY)
  have c20 := X1.cell 0 rfl
  have c21 := X1.cell 1 rfl
  have c22 := X1.cell 2 rfl
  have c23 := X1.cell 3 rfl
  have c24 := X1.cell 4 rfl
  have f20 := X1.frozen 0
  have f24 := X1.frozen 4
  have z3 := OB1.cell 3 rfl
  have X2 := Lib.hid (show Box (w1.setCell ⟨w.heap.size + 1 + 1, 4, none⟩ (.int .i64 (E : Int))) (w.heap.size + 1 + 1) 79 #[.slice none 0 0, .slice none 0 0, .int .i64 0, .string ⟨#[]⟩, .int .i64 (E : Int)] by simpa using X1.set 4 (.int .i64 (E : Int)))
  have Y2 := Lib.hid (Y1.far (p := ⟨w.heap.size + 1 + 1, 4, none⟩) (show w.heap.size + 1 ≠ w.heap.size + 1 + 1 by omega) (.int .i64 (E : Int)))
  have H2 := Lib.hid (h1.cell_ ⟨w.heap.size + 1 + 1, 4, none⟩ (.int .i64 (E : Int)) NFX.out (Nat.le_succ_of_le LOW.out))
  have T2 := Lib.hid (((Turns.of_keeps KW.out).trans t1).cell_ ⟨w.heap.size + 1 + 1, 4, none⟩ (.int .i64 (E : Int)) (by show w.heap.size ≤ w.heap.size + 1 + 1; omega))
  have CB2 := Lib.hid (CB.out _ H2.out.kp)
  have SZ2 := Lib.hid (show w.heap.size + 3 ≤ (w1.setCell ⟨w.heap.size + 1 + 1, 4, none⟩ (.int .i64 (E : Int))).heap.size by simpa using SZ1.out)
  clear h1 t1 nX nY nO X1 Y1 OB1
  go_wp2_with fail
  generalize w1.setCell ⟨w.heap.size + 1 + 1, 4, none⟩ (.int .i64 (E : Int)) = w2 at *
  refine CB2.out.mono ?_
  rintro e w3 ⟨v3, rfl, o3, k3⟩
  rw [← HL.out] at o3
  obtain ⟨A2, c2, rfl, -⟩ := o3.form
  have X3 := X2.out.keep k3
  have Y3 := Y2.out.keep k3
  clear c20 c21 c22 c23 c24 f20 f24 z3
  have c20 := X3.cell 0 rfl
  have c21 := X3.cell 1 rfl
  have c22 := X3.cell 2 rfl
  have c23 := X3.cell 3 rfl
  have c24 := X3.cell 4 rfl
  have f20 := X3.frozen 0
  have c10 := Y3.cell 0 rfl
  have c11 := Y3.cell 1 rfl
  have c12 := Y3.cell 2 rfl
  have c13 := Y3.cell 3 rfl
  have c14 := Y3.cell 4 rfl
  have f10 := Y3.frozen 0
  have f11 := Y3.frozen 1
  have f12 := Y3.frozen 2
  have f13 := Y3.frozen 3
  have f14 := Y3.frozen 4
  have O3 := Lib.hid o3
  have H4 := Lib.hid ((H2.out.keep k3).cell_ ⟨w.heap.size + 1 + 1, 0, none⟩ (.slice A2 L c2) NFX.out (Nat.le_succ_of_le LOW.out))
  have T4 := Lib.hid ((T2.out.trans (Turns.of_keeps k3)).cell_ ⟨w.heap.size + 1 + 1, 0, none⟩ (.slice A2 L c2) (by show w.heap.size ≤ w.heap.size + 1 + 1; omega))
  have YB := Lib.hid (Y3.far (p := ⟨w.heap.size + 1 + 1, 0, none⟩) (show w.heap.size + 1 ≠ w.heap.size + 1 + 1 by omega) (.slice A2 L c2))
  clear o3 k3 X3 Y3
  go_wp2_with fail
  have ZB : Box ((((((w3.setCell ⟨w.heap.size + 1 + 1, 0, none⟩ (.slice A2 L c2)).setCell ⟨w.heap.size + 1, 0, none⟩ (.slice A2 L c2)).setCell ⟨w.heap.size + 1, 1, none⟩ (.slice none 0 0)).setCell ⟨w.heap.size + 1, 2, none⟩ (.int .i64 0)).setCell ⟨w.heap.size + 1, 3, none⟩ (.string ⟨#[]⟩)).setCell ⟨w.heap.size + 1, 4, none⟩ (.int .i64 (E : Int))) (w.heap.size + 1) 79 #[.slice A2 L c2, .slice none 0 0, .int .i64 0, .string ⟨#[]⟩, .int .i64 (E : Int)] := by simpa using (((((YB.out.set 0 (.slice A2 L c2)).set 1 (.slice none 0 0)).set 2 (.int .i64 0)).set 3 (.string ⟨#[]⟩)).set 4 (.int .i64 (E : Int)))
  have ZO : Only w3 ((((((w3.setCell ⟨w.heap.size + 1 + 1, 0, none⟩ (.slice A2 L c2)).setCell ⟨w.heap.size + 1, 0, none⟩ (.slice A2 L c2)).setCell ⟨w.heap.size + 1, 1, none⟩ (.slice none 0 0)).setCell ⟨w.heap.size + 1, 2, none⟩ (.int .i64 0)).setCell ⟨w.heap.size + 1, 3, none⟩ (.string ⟨#[]⟩)).setCell ⟨w.heap.size + 1, 4, none⟩ (.int .i64 (E : Int))) (fun i => w.heap.size ≤ i ∧ i < w.heap.size + 3) := only_xt w3 (w.heap.size) (w.heap.size + 3) [((⟨w.heap.size + 1 + 1, 0, none⟩ : Addr), (.slice A2 L c2 : Value)), ((⟨w.heap.size + 1, 0, none⟩ : Addr), (.slice A2 L c2 : Value)), ((⟨w.heap.size + 1, 1, none⟩ : Addr), (.slice none 0 0 : Value)), ((⟨w.heap.size + 1, 2, none⟩ : Addr), (.int .i64 0 : Value)), ((⟨w.heap.size + 1, 3, none⟩ : Addr), (.string ⟨#[]⟩ : Value)), ((⟨w.heap.size + 1, 4, none⟩ : Addr), (.int .i64 (E : Int) : Value))] (by simp <;> omega)
  have ZH := (((((H4.out.cell_ ⟨w.heap.size + 1, 0, none⟩ (.slice A2 L c2) NFY.out LOW.out).cell_ ⟨w.heap.size + 1, 1, none⟩ (.slice none 0 0) NFY.out LOW.out).cell_ ⟨w.heap.size + 1, 2, none⟩ (.int .i64 0) NFY.out LOW.out).cell_ ⟨w.heap.size + 1, 3, none⟩ (.string ⟨#[]⟩) NFY.out LOW.out).cell_ ⟨w.heap.size + 1, 4, none⟩ (.int .i64 (E : Int)) NFY.out LOW.out)
  have ZT := (((((T4.out.cell_ ⟨w.heap.size + 1, 0, none⟩ (.slice A2 L c2) (Nat.le_succ _)).cell_ ⟨w.heap.size + 1, 1, none⟩ (.slice none 0 0) (Nat.le_succ _)).cell_ ⟨w.heap.size + 1, 2, none⟩ (.int .i64 0) (Nat.le_succ _)).cell_ ⟨w.heap.size + 1, 3, none⟩ (.string ⟨#[]⟩) (Nat.le_succ _)).cell_ ⟨w.heap.size + 1, 4, none⟩ (.int .i64 (E : Int)) (Nat.le_succ _))
  generalize (((((w3.setCell ⟨w.heap.size + 1 + 1, 0, none⟩ (.slice A2 L c2)).setCell ⟨w.heap.size + 1, 0, none⟩ (.slice A2 L c2)).setCell ⟨w.heap.size + 1, 1, none⟩ (.slice none 0 0)).setCell ⟨w.heap.size + 1, 2, none⟩ (.int .i64 0)).setCell ⟨w.heap.size + 1, 3, none⟩ (.string ⟨#[]⟩)).setCell ⟨w.heap.size + 1, 4, none⟩ (.int .i64 (E : Int)) = W4 at *
  have d0 := ZB.cell 0 rfl
  have d1 := ZB.cell 1 rfl
  have d2 := ZB.cell 2 rfl
  have d3 := ZB.cell 3 rfl
  have d4 := ZB.cell 4 rfl
  refine bodyPost_ret (v := .tuple #[.agg #[.slice A2 L c2, .slice none 0 0, .int .i64 0, .string ⟨#[]⟩, .int .i64 (E : Int)], .pointer none]) (by simp [results, Tryz.results37, go_sem, d0, d1, d2, d3, d4]) rfl ?_
  refine ⟨_, _, F', rfl, ?_, by rw [HDO.out]; exact ZH, ZT, (by rw [HDO.out]; rfl), .inl rfl⟩
  rw [HDO.out]
  refine ⟨.slice A2 L c2, .slice none 0 0, rfl, ?_, Own.nil _ _ _ _⟩
  show Own W4 w.heap.size 5 1 (.slice A2 L c2) o.b.length (cel o.b)
  rw [← HL.out]
  exact (O3.out.only_ ZO (fun k hk hs => by have := (O3.out.lt k hk).1; have := SZ2.out; omega)).base_le (by have := SZ2.out; omega)

set_option maxHeartbeats 8000000 in
theorem does8_other {K : DiskOk} {w0 w : World} {b : Nat} {F : Nat → Prop} {s : Ds} (h : Have K w0 w b F s) (o : Op8) {g : Option (List UInt8)} {fv : Value} (hg : HeldAt w b F g fv) (hk : ¬ (0 ≤ o.kind ∧ o.kind ≤ 7)) :
    Calls Tryz.prog 37 #[.pointer (some ⟨b, 0, none⟩), fv, .agg (op8C o).toArray] w (DoneV8 K w0 w b F s g o fv) := by
  have kW : Keeps w (((w.alloc (.cells (op8C o).toArray 85)).alloc (.cells #[.slice none 0 0, .slice none 0 0, .int .i64 0, .string ⟨#[]⟩, .int .i64 0] 79)).alloc (.cells #[.slice none 0 0, .slice none 0 0, .int .i64 0, .string ⟨#[]⟩, .int .i64 0] 79)) := keeps_trans (keeps_trans (keeps_alloc _ _) (keeps_alloc _ _)) (keeps_alloc _ _)
  have B1 := box_mid8 w (.cells (op8C o).toArray 85) 79 #[.slice none 0 0, .slice none 0 0, .int .i64 0, .string ⟨#[]⟩, .int .i64 0] (.cells #[.slice none 0 0, .slice none 0 0, .int .i64 0, .string ⟨#[]⟩, .int .i64 0] 79)
  have HD : doS8 s g o = (s, g, ⟨[], [], 0, [], 0⟩) := by
    unfold doS8
    rw [if_neg (by omega), if_neg (by omega), if_neg (by omega), if_neg (by omega), if_neg (by omega), if_neg (by omega), if_neg (by omega), if_neg (by omega)]
  have HDO := Lib.hid HD
  have HK := Lib.hid h
  have HG := Lib.hid hg
  have KW := Lib.hid kW
  have YB := Lib.hid B1
  have e0 : (o.kind == 0) = false := by rw [beq_eq_false_iff_ne]; omega
  have e1 : (o.kind == 1) = false := by rw [beq_eq_false_iff_ne]; omega
  have e2 : (o.kind == 2) = false := by rw [beq_eq_false_iff_ne]; omega
  have e3 : (o.kind == 3) = false := by rw [beq_eq_false_iff_ne]; omega
  have e4 : (o.kind == 4) = false := by rw [beq_eq_false_iff_ne]; omega
  have e5 : (o.kind == 5) = false := by rw [beq_eq_false_iff_ne]; omega
  have e6 : (o.kind == 6) = false := by rw [beq_eq_false_iff_ne]; omega
  have e7 : (o.kind == 7) = false := by rw [beq_eq_false_iff_ne]; omega
  unfold op8C opC strV at *
  clear h hg HD B1 kW hk
  simp only [List.cons_append, List.nil_append] at *
  go_enter Tryz.func37, Tryz.ntmps37
  go_wp2_with fail
  have d0 := YB.out.cell 0 rfl
  have d1 := YB.out.cell 1 rfl
  have d2 := YB.out.cell 2 rfl
  have d3 := YB.out.cell 3 rfl
  have d4 := YB.out.cell 4 rfl
  refine bodyPost_ret (v := .tuple #[.agg #[.slice none 0 0, .slice none 0 0, .int .i64 0, .string ⟨#[]⟩, .int .i64 0], fv]) (by simp [results, Tryz.results37, go_sem, d0, d1, d2, d3, d4]) rfl ?_
  refine ⟨_, _, F, rfl, ?_, by rw [HDO.out]; exact HK.out.keep KW.out, Turns.of_keeps KW.out, (by rw [HDO.out]; exact HG.out.keep KW.out), .inl rfl⟩
  rw [HDO.out]
  exact ⟨.slice none 0 0, .slice none 0 0, rfl, Own.nil _ _ _ _, Own.nil _ _ _ _⟩
theorem does8_any {K : DiskOk} {w0 w : World} {b : Nat} {F : Nat → Prop} {s : Ds} (hZ : K.Z w0) (hs7 : s.l.length ≤ 70000) (h : Have K w0 w b F s) (o : Op8) (ho : Op8Ok w0 o) {g : Option (List UInt8)} {fv : Value} (hg : HeldAt w b F g fv) (hnm : o.name.length ≤ 70000) (hm : o.d.len ≤ 70000) (hm2 : o.d.len2 ≤ 70000) :
    Calls Tryz.prog 37 #[.pointer (some ⟨b, 0, none⟩), fv, .agg (op8C o).toArray] w (DoneV8 K w0 w b F s g o fv) := by
  by_cases h0 : o.kind = 0
  · by_cases e : (createS s o.name).2 = 0
    · exact does8_createY hZ hs7 h o ho fv g hnm e h0
    · exact does8_createN hZ hs7 h o ho fv g hnm e h0
  by_cases h1 : o.kind = 1
  · by_cases e : openE s o.name = 0
    · exact does8_openY hZ hs7 h o ho fv g hnm e h1
    · exact does8_openN hZ hs7 h o ho fv g hnm e h1
  by_cases h6 : o.kind = 6
  · exact does8_bad hZ hs7 h o ho hg hnm h6
  by_cases h7 : o.kind = 7
  · exact does8_raw hZ hs7 h o ho hg hm hm2 h7
  by_cases h8 : 0 ≤ o.kind ∧ o.kind ≤ 7
  · cases g with
    | none =>
      obtain rfl : fv = .pointer none := hg
      by_cases h2 : o.kind = 2
      · exact does8_readN hZ hs7 h o ho h2
      by_cases h3 : o.kind = 3
      · exact does8_writeN hZ hs7 h o ho h3
      by_cases h4 : o.kind = 4
      · exact does8_syncN hZ hs7 h o ho h4
      · exact does8_pagesN hZ hs7 h o ho (by omega)
    | some nm =>
      obtain ⟨f, rfl, hf, hnf, hn⟩ := hg
      by_cases h2 : o.kind = 2
      · exact does8_readY hZ hs7 h o ho hf hnf hn h2
      by_cases h3 : o.kind = 3
      · exact does8_writeY hZ hs7 h o ho hf hnf hn h3
      by_cases h4 : o.kind = 4
      · exact does8_sync hZ hs7 h o ho hf hnf hn h4
      · exact does8_pages hZ hs7 h o ho hf hnf hn (by omega)
  · exact does8_other h o hg h8
end Go.Proofs.YtkhfffflegiapaaGreatDoor.Ref
