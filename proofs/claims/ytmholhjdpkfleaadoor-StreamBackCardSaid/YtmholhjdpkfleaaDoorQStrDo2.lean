/- What milepostlaw11.does does. (Written by mkdo11.py.) -/
import Derived.Test.YtmholhjdpkfleaaDoorQPoolDo
import Derived.Test.YtmholhjdpkfleaaDoorQStrE
import Derived.Test.YtmholhjdpkfleaaDoorQStrOps
namespace Go.Proofs.YtmholhjdpkfleaaDoor
open Go.RowKit
set_option linter.unusedSimpArgs false
set_option linter.unusedVariables false
set_option maxRecDepth 100000

section
variable {w0 w : World} {S : Nat → Prop} {J' : (Nat → Prop) → World → Prop}
set_option maxHeartbeats 8000000 in
theorem does11_flush (st : Stay w0 J') (hL : ∀ i, S i → i < w.heap.size) (hw0 : w0.heap.size ≤ w.heap.size) (dv pv sv : Value) (k : Int) (A : Option Addr) (len c : Nat) (E : Int)
    (C : ∀ W, Keeps w W → Calls Tryd.prog 24 #[pv, .string ⟨#[115]⟩] W fun e w' => e = .returned (.int .i64 E) ∧ ∃ S', J' S' w' ∧ Turns W w' S S') :
    Calls Tryd.prog 10 #[dv, pv, sv, .agg #[.int .i64 5, .int .i64 k, .slice A len c]] w (Done10 w S J' [] 0 E) := by
  have kW : Keeps w (((w.alloc (.cells #[.int .i64 5, .int .i64 k, .slice A len c] 33)).alloc (.cells #[.slice none 0 0, .int .i64 0, .int .i64 0] 36)).alloc (.cells #[.slice none 0 0, .int .i64 0, .int .i64 0] 36)) := keeps_trans (keeps_trans (keeps_alloc _ _) (keeps_alloc _ _)) (keeps_alloc _ _)
  have hs3 : ((((w.alloc (.cells #[.int .i64 5, .int .i64 k, .slice A len c] 33)).alloc (.cells #[.slice none 0 0, .int .i64 0, .int .i64 0] 36)).alloc (.cells #[.slice none 0 0, .int .i64 0, .int .i64 0] 36))).heap.size = w.heap.size + 3 := by simp
  have B1 := box_mid10 w (.cells #[.int .i64 5, .int .i64 k, .slice A len c] 33) 36 #[.slice none 0 0, .int .i64 0, .int .i64 0] (.cells #[.slice none 0 0, .int .i64 0, .int .i64 0] 36)
  have B2 := box_third10 w (.cells #[.int .i64 5, .int .i64 k, .slice A len c] 33) (.cells #[.slice none 0 0, .int .i64 0, .int .i64 0] 36) 36 #[.slice none 0 0, .int .i64 0, .int .i64 0]
  have CC := Lib.hid (C _ kW)
  have HL := Lib.hid hL
  have FIN := Lib.hid (fun w1 W4 S' => done10 (W4 := W4) (w1 := w1) (S' := S') st hL hw0 kW hs3)
  clear C hL hs3
  go_enter Tryd.func10, Tryd.ntmps10
  go_wp2_with fail
  refine CC.out.mono ?_
  rintro e w1 ⟨rfl, S', hJ, hT⟩
  have n1 : ¬ S (w.heap.size + 1) := fun e => by have := HL.out _ e; omega
  have n2 : ¬ S (w.heap.size + 1 + 1) := fun e => by have := HL.out _ e; omega
  have X1 := B1.turned hT n1
  have X2 := B2.turned hT n2
  have c10 := X1.cell 0 rfl
  have c11 := X1.cell 1 rfl
  have c12 := X1.cell 2 rfl
  have f10 := X1.frozen 0
  have f11 := X1.frozen 1
  have f12 := X1.frozen 2
  have c20 := X2.cell 0 rfl
  have c21 := X2.cell 1 rfl
  have c22 := X2.cell 2 rfl
  have f20 := X2.frozen 0
  have f21 := X2.frozen 1
  have f22 := X2.frozen 2
  have HJ := Lib.hid hJ
  have HT := Lib.hid hT
  clear hJ hT n1 n2
  have XB : Box ((((w1.setCell ⟨w.heap.size + 1 + 1, 2, none⟩ (.int .i64 E)).setCell ⟨w.heap.size + 1, 0, none⟩ (.slice none 0 0)).setCell ⟨w.heap.size + 1, 1, none⟩ (.int .i64 0)).setCell ⟨w.heap.size + 1, 2, none⟩ (.int .i64 E)) (w.heap.size + 1) 36 #[.slice none 0 0, .int .i64 0, .int .i64 E] := by simpa using ((((X1.far (p := ⟨w.heap.size + 1 + 1, 2, none⟩) (show w.heap.size + 1 ≠ w.heap.size + 1 + 1 by omega) (.int .i64 E)).set 0 (.slice none 0 0)).set 1 (.int .i64 0)).set 2 (.int .i64 E))
  have XO : Only w1 ((((w1.setCell ⟨w.heap.size + 1 + 1, 2, none⟩ (.int .i64 E)).setCell ⟨w.heap.size + 1, 0, none⟩ (.slice none 0 0)).setCell ⟨w.heap.size + 1, 1, none⟩ (.int .i64 0)).setCell ⟨w.heap.size + 1, 2, none⟩ (.int .i64 E)) (fun i => w.heap.size ≤ i ∧ i < w.heap.size + 3) := only_xt w1 w.heap.size (w.heap.size + 3) [((⟨w.heap.size + 1 + 1, 2, none⟩ : Addr), (.int .i64 E : Value)), (⟨w.heap.size + 1, 0, none⟩, .slice none 0 0), (⟨w.heap.size + 1, 1, none⟩, .int .i64 0), (⟨w.heap.size + 1, 2, none⟩, .int .i64 E)] (by intro p hp; simp only [List.mem_cons, List.not_mem_nil, or_false] at hp; rcases hp with rfl | rfl | rfl | rfl <;> simp only <;> omega)
  have XB := Lib.hid XB
  have XO := Lib.hid XO
  clear X1 X2 B1 B2
  go_wp2_with fail
  have d0 := XB.out.cell 0 rfl
  have d1 := XB.out.cell 1 rfl
  have d2 := XB.out.cell 2 rfl
  refine bodyPost_ret (v := .agg #[.slice none 0 0, .int .i64 0, .int .i64 E]) (by simp [results, Tryd.results10, go_sem, d0, d1, d2]) rfl ?_
  exact ⟨_, S', rfl, Own.nil _ _ _ _, (FIN.out w1 _ S' HJ.out HT.out XO.out).1, (FIN.out w1 _ S' HJ.out HT.out XO.out).2, fun g hg => by cases hg⟩
end
end Go.Proofs.YtmholhjdpkfleaaDoor
/- What milepostlaw11.does does. (Written by mkdo11.py.) -/
namespace Go.Proofs.YtmholhjdpkfleaaDoor
open Go.RowKit
set_option linter.unusedSimpArgs false
set_option linter.unusedVariables false
set_option maxRecDepth 100000

section
variable {w0 w : World} {S : Nat → Prop} {J' : (Nat → Prop) → World → Prop}
set_option maxHeartbeats 8000000 in
theorem does11_len (st : Stay w0 J') (hL : ∀ i, S i → i < w.heap.size) (hw0 : w0.heap.size ≤ w.heap.size) (dv pv sv : Value) (k : Int) (A : Option Addr) (len c : Nat) (n E : Int)
    (C : ∀ W, Keeps w W → Calls Tryd.prog 12 #[sv] W fun e w' => e = .returned (.tuple #[.int .i64 n, .int .i64 E]) ∧ ∃ S', J' S' w' ∧ Turns W w' S S') :
    Calls Tryd.prog 10 #[dv, pv, sv, .agg #[.int .i64 0, .int .i64 k, .slice A len c]] w (Done10 w S J' [] n E) := by
  have kW : Keeps w (((w.alloc (.cells #[.int .i64 0, .int .i64 k, .slice A len c] 33)).alloc (.cells #[.slice none 0 0, .int .i64 0, .int .i64 0] 36)).alloc (.cells #[.slice none 0 0, .int .i64 0, .int .i64 0] 36)) := keeps_trans (keeps_trans (keeps_alloc _ _) (keeps_alloc _ _)) (keeps_alloc _ _)
  have hs3 : ((((w.alloc (.cells #[.int .i64 0, .int .i64 k, .slice A len c] 33)).alloc (.cells #[.slice none 0 0, .int .i64 0, .int .i64 0] 36)).alloc (.cells #[.slice none 0 0, .int .i64 0, .int .i64 0] 36))).heap.size = w.heap.size + 3 := by simp
  have B1 := box_mid10 w (.cells #[.int .i64 0, .int .i64 k, .slice A len c] 33) 36 #[.slice none 0 0, .int .i64 0, .int .i64 0] (.cells #[.slice none 0 0, .int .i64 0, .int .i64 0] 36)
  have B2 := box_third10 w (.cells #[.int .i64 0, .int .i64 k, .slice A len c] 33) (.cells #[.slice none 0 0, .int .i64 0, .int .i64 0] 36) 36 #[.slice none 0 0, .int .i64 0, .int .i64 0]
  have CC := Lib.hid (C _ kW)
  have HL := Lib.hid hL
  have FIN := Lib.hid (fun w1 W4 S' => done10 (W4 := W4) (w1 := w1) (S' := S') st hL hw0 kW hs3)
  clear C hL hs3
  go_enter Tryd.func10, Tryd.ntmps10
  go_wp2_with fail
  refine CC.out.mono ?_
  rintro e w1 ⟨rfl, S', hJ, hT⟩
  have n1 : ¬ S (w.heap.size + 1) := fun e => by have := HL.out _ e; omega
  have n2 : ¬ S (w.heap.size + 1 + 1) := fun e => by have := HL.out _ e; omega
  have X1 := B1.turned hT n1
  have X2 := B2.turned hT n2
  have c10 := X1.cell 0 rfl
  have c11 := X1.cell 1 rfl
  have c12 := X1.cell 2 rfl
  have f10 := X1.frozen 0
  have f11 := X1.frozen 1
  have f12 := X1.frozen 2
  have c20 := X2.cell 0 rfl
  have c21 := X2.cell 1 rfl
  have c22 := X2.cell 2 rfl
  have f20 := X2.frozen 0
  have f21 := X2.frozen 1
  have f22 := X2.frozen 2
  have HJ := Lib.hid hJ
  have HT := Lib.hid hT
  clear hJ hT n1 n2
  have XB : Box (((((w1.setCell ⟨w.heap.size + 1 + 1, 1, none⟩ (.int .i64 n)).setCell ⟨w.heap.size + 1 + 1, 2, none⟩ (.int .i64 E)).setCell ⟨w.heap.size + 1, 0, none⟩ (.slice none 0 0)).setCell ⟨w.heap.size + 1, 1, none⟩ (.int .i64 n)).setCell ⟨w.heap.size + 1, 2, none⟩ (.int .i64 E)) (w.heap.size + 1) 36 #[.slice none 0 0, .int .i64 n, .int .i64 E] := by simpa using (((((X1.far (p := ⟨w.heap.size + 1 + 1, 1, none⟩) (show w.heap.size + 1 ≠ w.heap.size + 1 + 1 by omega) (.int .i64 n)).far (p := ⟨w.heap.size + 1 + 1, 2, none⟩) (show w.heap.size + 1 ≠ w.heap.size + 1 + 1 by omega) (.int .i64 E)).set 0 (.slice none 0 0)).set 1 (.int .i64 n)).set 2 (.int .i64 E))
  have XO : Only w1 (((((w1.setCell ⟨w.heap.size + 1 + 1, 1, none⟩ (.int .i64 n)).setCell ⟨w.heap.size + 1 + 1, 2, none⟩ (.int .i64 E)).setCell ⟨w.heap.size + 1, 0, none⟩ (.slice none 0 0)).setCell ⟨w.heap.size + 1, 1, none⟩ (.int .i64 n)).setCell ⟨w.heap.size + 1, 2, none⟩ (.int .i64 E)) (fun i => w.heap.size ≤ i ∧ i < w.heap.size + 3) := only_xt w1 w.heap.size (w.heap.size + 3) [((⟨w.heap.size + 1 + 1, 1, none⟩ : Addr), (.int .i64 n : Value)), (⟨w.heap.size + 1 + 1, 2, none⟩, .int .i64 E), (⟨w.heap.size + 1, 0, none⟩, .slice none 0 0), (⟨w.heap.size + 1, 1, none⟩, .int .i64 n), (⟨w.heap.size + 1, 2, none⟩, .int .i64 E)] (by intro p hp; simp only [List.mem_cons, List.not_mem_nil, or_false] at hp; rcases hp with rfl | rfl | rfl | rfl | rfl <;> simp only <;> omega)
  have XB := Lib.hid XB
  have XO := Lib.hid XO
  clear X1 X2 B1 B2
  go_wp2_with fail
  have d0 := XB.out.cell 0 rfl
  have d1 := XB.out.cell 1 rfl
  have d2 := XB.out.cell 2 rfl
  refine bodyPost_ret (v := .agg #[.slice none 0 0, .int .i64 n, .int .i64 E]) (by simp [results, Tryd.results10, go_sem, d0, d1, d2]) rfl ?_
  exact ⟨_, S', rfl, Own.nil _ _ _ _, (FIN.out w1 _ S' HJ.out HT.out XO.out).1, (FIN.out w1 _ S' HJ.out HT.out XO.out).2, fun g hg => by cases hg⟩
set_option maxHeartbeats 16000000 in
theorem does11_get (st : Stay w0 J') (hL : ∀ i, S i → i < w.heap.size) (hw0 : w0.heap.size ≤ w.heap.size) (dv pv sv : Value) (k : Int) (A : Option Addr) (len c : Nat) (l : List UInt8) (hl : l.length ≤ 20000000) (E : Int)
    (C : ∀ W, Keeps w W → Calls Tryd.prog 13 #[sv, .int .i64 k] W fun e w' => ∃ v, e = .returned (.tuple #[v, .int .i64 E]) ∧ Own w' W.heap.size 5 1 v l.length (cel l) ∧ ∃ S', J' S' w' ∧ Turns W w' S S' ∧ (∀ g, v.ownBlock = some g → ¬ S' g)) :
    Calls Tryd.prog 10 #[dv, pv, sv, .agg #[.int .i64 1, .int .i64 k, .slice A len c]] w (Done10 w S J' l 0 E) := by
  have kW : Keeps w (((w.alloc (.cells #[.int .i64 1, .int .i64 k, .slice A len c] 33)).alloc (.cells #[.slice none 0 0, .int .i64 0, .int .i64 0] 36)).alloc (.cells #[.slice none 0 0, .int .i64 0, .int .i64 0] 36)) := keeps_trans (keeps_trans (keeps_alloc _ _) (keeps_alloc _ _)) (keeps_alloc _ _)
  have hs3 : ((((w.alloc (.cells #[.int .i64 1, .int .i64 k, .slice A len c] 33)).alloc (.cells #[.slice none 0 0, .int .i64 0, .int .i64 0] 36)).alloc (.cells #[.slice none 0 0, .int .i64 0, .int .i64 0] 36))).heap.size = w.heap.size + 3 := by simp
  have B1 := box_mid10 w (.cells #[.int .i64 1, .int .i64 k, .slice A len c] 33) 36 #[.slice none 0 0, .int .i64 0, .int .i64 0] (.cells #[.slice none 0 0, .int .i64 0, .int .i64 0] 36)
  have B2 := box_third10 w (.cells #[.int .i64 1, .int .i64 k, .slice A len c] 33) (.cells #[.slice none 0 0, .int .i64 0, .int .i64 0] 36) 36 #[.slice none 0 0, .int .i64 0, .int .i64 0]
  have CC := Lib.hid (C _ kW)
  have HL := Lib.hid hL
  have FIN := Lib.hid (fun w1 W4 S' => done10 (W4 := W4) (w1 := w1) (S' := S') st hL hw0 kW hs3)
  have HS3 := Lib.hid hs3
  obtain ⟨L, hLL⟩ : ∃ L, l.length = L := ⟨_, rfl⟩
  rw [hLL] at CC hl
  have HLL := Lib.hid hLL
  clear C hL hLL
  go_enter Tryd.func10, Tryd.ntmps10
  go_wp2_with fail
  refine CC.out.mono ?_
  rintro e w1 ⟨v, rfl, o1, S', hJ, hT, hnv⟩
  rw [hs3] at o1
  obtain ⟨A1, c1, rfl, -⟩ := o1.form
  have hsz1 : w.heap.size + 3 ≤ w1.heap.size := by have := hT.only.size; omega
  have n1 : ¬ S (w.heap.size + 1) := fun e => by have := HL.out _ e; omega
  have n2 : ¬ S (w.heap.size + 1 + 1) := fun e => by have := HL.out _ e; omega
  have X1 := B1.turned hT n1
  have X2 := B2.turned hT n2
  have c10 := X1.cell 0 rfl
  have c11 := X1.cell 1 rfl
  have c12 := X1.cell 2 rfl
  have f10 := X1.frozen 0
  have f11 := X1.frozen 1
  have f12 := X1.frozen 2
  have c20 := X2.cell 0 rfl
  have c21 := X2.cell 1 rfl
  have c22 := X2.cell 2 rfl
  have f20 := X2.frozen 0
  have f21 := X2.frozen 1
  have f22 := X2.frozen 2
  have HJ := Lib.hid hJ
  have HT := Lib.hid hT
  clear hJ hT n1 n2
  have T1 := Lib.hid ((Turns.of_keeps kW).trans HT.out)
  have NS := Lib.hid (show (∀ i, w.heap.size ≤ i → i < w.heap.size + 3 → ¬ S' i) from fun i h1 h2 hs => by
    rcases HT.out.next i hs with h | h
    · have := HL.out i h; omega
    · omega)
  have J1 := Lib.hid HJ.out
  have OX := Lib.hid o1
  have X1H := Lib.hid X1
  have X2H := Lib.hid X2
  have CB := Lib.hid (copyBytes_any A1 L c1 l w1 o1.at_ HLL.out.symm (by unfold maxLen; omega))
  have NV := Lib.hid hnv
  clear o1 X1 X2 B1 B2 hnv c10 c11 c12 c20 c21 c22 f10 f11 f12 f20 f21 f22
  go_wp2_with fail
  refine CB.out.mono ?_
  rintro e w4 ⟨v4, rfl, o4, k4⟩
  rw [HLL.out] at o4
  obtain ⟨A2, c2, rfl, -⟩ := o4.form
  have X4 := X2H.out.keep k4
  have Y4 := X1H.out.keep k4
  have c20 := X4.cell 0 rfl
  have c21 := X4.cell 1 rfl
  have c22 := X4.cell 2 rfl
  have f20 := X4.frozen 0
  have f22 := X4.frozen 2
  have sz4 := k4.size
  have SZ2 := Lib.hid (show w.heap.size + 3 ≤ w1.heap.size from hsz1)
  have O14 := OX.out.keep k4
  have X5 := Lib.hid (show Box ((w4.setCell ⟨w.heap.size + 1 + 1, 0, none⟩ (.slice A2 L c2)).setCell ⟨w.heap.size + 1 + 1, 2, none⟩ (.int .i64 E)) (w.heap.size + 1 + 1) 36 #[.slice A2 L c2, .int .i64 0, .int .i64 E] by simpa using (X4.set 0 (.slice A2 L c2)).set 2 (.int .i64 E))
  have Y5 := Lib.hid ((Y4.far (p := ⟨w.heap.size + 1 + 1, 0, none⟩) (show w.heap.size + 1 ≠ w.heap.size + 1 + 1 by omega) (.slice A2 L c2)).far (p := ⟨w.heap.size + 1 + 1, 2, none⟩) (show w.heap.size + 1 ≠ w.heap.size + 1 + 1 by omega) (.int .i64 E))
  have O15 := Lib.hid ((O14.same (fun k hk => Below.heap_setCell w4 ⟨w.heap.size + 1 + 1, 0, none⟩ (.slice A2 L c2) k (fun e => by have h1 := (O14.lt k hk).1; have h2 : k = w.heap.size + 1 + 1 := e; omega))).same (fun k hk => Below.heap_setCell _ ⟨w.heap.size + 1 + 1, 2, none⟩ (.int .i64 E) k (fun e => by have h1 := (O14.lt k hk).1; have h2 : k = w.heap.size + 1 + 1 := e; omega)))
  have O25 := Lib.hid ((o4.same (fun k hk => Below.heap_setCell w4 ⟨w.heap.size + 1 + 1, 0, none⟩ (.slice A2 L c2) k (fun e => by have h1 := (o4.lt k hk).1; have h2 : k = w.heap.size + 1 + 1 := e; have := SZ2.out; omega))).same (fun k hk => Below.heap_setCell _ ⟨w.heap.size + 1 + 1, 2, none⟩ (.int .i64 E) k (fun e => by have h1 := (o4.lt k hk).1; have h2 : k = w.heap.size + 1 + 1 := e; have := SZ2.out; omega)))
  have J5 := Lib.hid (st.turn (st.turn (st.turn J1.out (Only.of_keeps k4) (fun i hi => hi.elim)) (only_set w4 ⟨w.heap.size + 1 + 1, 0, none⟩ (.slice A2 L c2)) (fun i hi => by rw [show i = w.heap.size + 1 + 1 from hi]; exact ⟨by omega, NS.out _ (by omega) (by omega)⟩)) (only_set _ ⟨w.heap.size + 1 + 1, 2, none⟩ (.int .i64 E)) (fun i hi => by rw [show i = w.heap.size + 1 + 1 from hi]; exact ⟨by omega, NS.out _ (by omega) (by omega)⟩))
  have T5 := Lib.hid (((T1.out.trans (Turns.of_keeps k4)).put10 ⟨w.heap.size + 1 + 1, 0, none⟩ (.slice A2 L c2) (show w.heap.size ≤ w.heap.size + 1 + 1 by omega)).put10 ⟨w.heap.size + 1 + 1, 2, none⟩ (.int .i64 E) (show w.heap.size ≤ w.heap.size + 1 + 1 by omega))
  have LT2 := Lib.hid (show ∀ g, (Value.slice A1 L c1).ownBlock = some g → g < w1.heap.size from fun g hg => (OX.out.lt g hg).2)
  have NV2 := Lib.hid (show ∀ g, (Value.slice A2 L c2).ownBlock = some g → ¬ S' g from fun g hg hs => by
    have h1 := (o4.lt g hg).1
    have h2 := st.lt J1.out g hs
    omega)
  clear o4 k4 X4 Y4 O14 sz4
  go_wp2_with fail
  go_loopw [12] (fun i wr => ∃ (j : Nat) (ys : List Value), j ≤ L ∧ i = .int .i64 j ∧ Hid (Own wr (w.heap.size + 3) 5 1 (.slice A1 L c1) L ys) ∧ Hid (Own wr w1.heap.size 5 1 (.slice A2 L c2) L (cel l)) ∧ Hid (Box wr (w.heap.size + 1 + 1) 36 #[.slice A2 L c2, .int .i64 0, .int .i64 E]) ∧ Hid (Box wr (w.heap.size + 1) 36 #[.slice none 0 0, .int .i64 0, .int .i64 0]) ∧ Hid (J' S' wr) ∧ Hid (Turns w wr S S')) (fun i _ => L - (intOf i).toNat)
  case atStart => exact ⟨0, _, Nat.zero_le _, rfl, O15, O25, X5, Y5, J5, T5⟩
  case round =>
    clear O15 O25 X5 Y5 J5 T5
    obtain ⟨j, ys, hj, rfl, HO1, HO2, XB, YB, HVR, TR⟩ := hrel
    by_cases hlt : j < L
    · have hji : (j : Int) < (L : Int) := by omega
      have hlen : ys.length = L := by have := HO1.out.1; omega
      obtain ⟨g, rfl, hcc, hff, hgb⟩ := HO1.out.cell (j := j) (by omega)
      obtain ⟨u, hu⟩ : ∃ u, ys[j]? = some u := ⟨_, List.getElem?_eq_getElem (by omega)⟩
      rw [hu] at hcc
      have hg1 := LT2.out g rfl
      have N1 := Lib.hid (HO1.out.store (j := j) (by omega) (.int .u8 238))
      have N2 := Lib.hid (HO2.out.same (fun k hk => Below.heap_setCell wr ⟨g, j, none⟩ (.int .u8 238) k (fun e => by have := (HO2.out.lt k hk).1; simp only at e; omega)))
      have NX := Lib.hid (XB.out.far (p := ⟨g, j, none⟩) (show w.heap.size + 1 + 1 ≠ g by omega) (.int .u8 238))
      have NY := Lib.hid (YB.out.far (p := ⟨g, j, none⟩) (show w.heap.size + 1 ≠ g by omega) (.int .u8 238))
      have NH := Lib.hid (st.turn HVR.out (only_set wr ⟨g, j, none⟩ (.int .u8 238)) (fun i hi => by rw [show i = g from hi]; exact ⟨by omega, NV.out g rfl⟩))
      have NT := Lib.hid (TR.out.put10 ⟨g, j, none⟩ (.int .u8 238) (by show w.heap.size ≤ g; omega))
      clear hu hlen hg1 hgb hlt
      go_wp2_with fail
      go_roundw
      case rel => exact ⟨j + 1, _, by omega, by go_num, N1, N2, NX, NY, NH, NT⟩
      case measure => simp [intOf] <;> omega
    · obtain rfl : L = j := by omega
      have c20 := XB.out.cell 0 rfl
      have c21 := XB.out.cell 1 rfl
      have c22 := XB.out.cell 2 rfl
      have c10 := YB.out.cell 0 rfl
      have c11 := YB.out.cell 1 rfl
      have c12 := YB.out.cell 2 rfl
      have f10 := YB.out.frozen 0
      have f11 := YB.out.frozen 1
      have f12 := YB.out.frozen 2
      clear hlt hj
      go_wp2_with fail
      have ZB : Box ((((wr).setCell ⟨w.heap.size + 1, 0, none⟩ (.slice A2 L c2)).setCell ⟨w.heap.size + 1, 1, none⟩ (.int .i64 0)).setCell ⟨w.heap.size + 1, 2, none⟩ (.int .i64 E)) (w.heap.size + 1) 36 #[.slice A2 L c2, .int .i64 0, .int .i64 E] := by simpa using (((YB.out.set 0 (.slice A2 L c2)).set 1 (.int .i64 0)).set 2 (.int .i64 E))
      have ZO : Only wr ((((wr).setCell ⟨w.heap.size + 1, 0, none⟩ (.slice A2 L c2)).setCell ⟨w.heap.size + 1, 1, none⟩ (.int .i64 0)).setCell ⟨w.heap.size + 1, 2, none⟩ (.int .i64 E)) (fun i => w.heap.size ≤ i ∧ i < w.heap.size + 3) := only_xt wr (w.heap.size) (w.heap.size + 3) [((⟨w.heap.size + 1, 0, none⟩ : Addr), (.slice A2 L c2 : Value)), (⟨w.heap.size + 1, 1, none⟩, .int .i64 0), (⟨w.heap.size + 1, 2, none⟩, .int .i64 E)] (by intro p hp; simp only [List.mem_cons, List.not_mem_nil, or_false] at hp; rcases hp with rfl | rfl | rfl <;> simp only <;> omega)
      have ZH := st.turn HVR.out ZO (fun i hi => ⟨by omega, NS.out i hi.1 hi.2⟩)
      have ZT : Turns w ((((wr).setCell ⟨w.heap.size + 1, 0, none⟩ (.slice A2 L c2)).setCell ⟨w.heap.size + 1, 1, none⟩ (.int .i64 0)).setCell ⟨w.heap.size + 1, 2, none⟩ (.int .i64 E)) S S' := ⟨TR.out.only.trans ZO (fun i hi => .inr hi.1), TR.out.next⟩
      generalize ((((wr).setCell ⟨w.heap.size + 1, 0, none⟩ (.slice A2 L c2)).setCell ⟨w.heap.size + 1, 1, none⟩ (.int .i64 0)).setCell ⟨w.heap.size + 1, 2, none⟩ (.int .i64 E)) = W4 at *
      have d0 := ZB.cell 0 rfl
      have d1 := ZB.cell 1 rfl
      have d2 := ZB.cell 2 rfl
      refine bodyPost_ret (v := .agg #[.slice A2 L c2, .int .i64 0, .int .i64 E]) (by simp [results, Tryd.results10, go_sem, d0, d1, d2]) rfl ?_
      refine ⟨.slice A2 L c2, S', rfl, ?_, ZH, ZT, NV2.out⟩
      rw [HLL.out]
      exact (HO2.out.only_ ZO (fun k hk hs => by have := (HO2.out.lt k hk).1; have := SZ2.out; omega)).base_le (by have := SZ2.out; omega)
end
end Go.Proofs.YtmholhjdpkfleaaDoor
/- What milepostlaw11.does does. (Written by mkdo11.py.) -/
namespace Go.Proofs.YtmholhjdpkfleaaDoor
open Go.RowKit
set_option linter.unusedSimpArgs false
set_option linter.unusedVariables false
set_option maxRecDepth 100000

section
variable {w0 w : World} {S : Nat → Prop} {J' : (Nat → Prop) → World → Prop}
set_option maxHeartbeats 16000000 in
theorem does11_add (st : Stay w0 J') (hL : ∀ i, S i → i < w.heap.size) (hw0 : w0.heap.size ≤ w.heap.size) (dv pv sv : Value) (k : Int) (A : Option Addr) (len c : Nat) (l : List UInt8) (hlen : len = l.length) (hl : len ≤ 20000000) (hB : Bs w A l) (E : Int)
    (C : ∀ W V A' c', Keeps w W → Keeps W V → w.heap.size ≤ W.heap.size → Own V W.heap.size 5 1 (.slice A' len c') len (cel l) → Calls Tryd.prog 16 #[sv, .slice A' len c'] V fun e w' => e = .returned (.int .i64 E) ∧ ∃ S', J' S' w' ∧ Turns V w' S S') :
    Calls Tryd.prog 10 #[dv, pv, sv, .agg #[.int .i64 2, .int .i64 k, .slice A len c]] w (Done10 w S J' l 0 E) := by
  have kW : Keeps w (((w.alloc (.cells #[.int .i64 2, .int .i64 k, .slice A len c] 33)).alloc (.cells #[.slice none 0 0, .int .i64 0, .int .i64 0] 36)).alloc (.cells #[.slice none 0 0, .int .i64 0, .int .i64 0] 36)) := keeps_trans (keeps_trans (keeps_alloc _ _) (keeps_alloc _ _)) (keeps_alloc _ _)
  have hs3 : ((((w.alloc (.cells #[.int .i64 2, .int .i64 k, .slice A len c] 33)).alloc (.cells #[.slice none 0 0, .int .i64 0, .int .i64 0] 36)).alloc (.cells #[.slice none 0 0, .int .i64 0, .int .i64 0] 36))).heap.size = w.heap.size + 3 := by simp
  have B1 := box_mid10 w (.cells #[.int .i64 2, .int .i64 k, .slice A len c] 33) 36 #[.slice none 0 0, .int .i64 0, .int .i64 0] (.cells #[.slice none 0 0, .int .i64 0, .int .i64 0] 36)
  have B2 := box_third10 w (.cells #[.int .i64 2, .int .i64 k, .slice A len c] 33) (.cells #[.slice none 0 0, .int .i64 0, .int .i64 0] 36) 36 #[.slice none 0 0, .int .i64 0, .int .i64 0]
  have CC := Lib.hid (fun V A' c' kv o => C _ V A' c' kW kv kW.size o)
  have HL := Lib.hid hL
  have HS3 := Lib.hid hs3
  have CB0 := Lib.hid (copyBytes_any A len c l _ (hB.keep kW) hlen (by unfold maxLen; omega))
  have HLL := Lib.hid hlen.symm
  generalize len = L at *
  have OB := Lib.hid ((Box.new w 33 #[.int .i64 2, .int .i64 k, .slice A L c]).keep (keeps_trans (keeps_alloc (w.alloc (.cells #[.int .i64 2, .int .i64 k, .slice A L c] 33)) (.cells #[.slice none 0 0, .int .i64 0, .int .i64 0] 36)) (keeps_alloc _ (.cells #[.slice none 0 0, .int .i64 0, .int .i64 0] 36))))
  clear C hL hlen hB
  go_enter Tryd.func10, Tryd.ntmps10
  go_wp2_with fail
  refine CB0.out.mono ?_
  rintro e w1 ⟨v1, rfl, o1, k1⟩
  rw [HLL.out] at o1
  obtain ⟨A1, c1, rfl, -⟩ := o1.form
  have CC1 := Lib.hid (CC.out w1 A1 c1 k1 o1)
  rw [hs3] at o1
  have hsz1 : w.heap.size + 3 ≤ w1.heap.size := by have := k1.size; omega
  have z0 := (OB.out.keep k1).cell 0 rfl
  have z1 := (OB.out.keep k1).cell 1 rfl
  have O1 := Lib.hid o1
  have K1 := Lib.hid k1
  clear o1 k1 CB0 CC
  go_wp2_with fail
  refine CC1.out.mono ?_
  rintro e w2 ⟨rfl, S', hJ, hT⟩
  have n1 : ¬ S (w.heap.size + 1) := fun e => by have := HL.out _ e; omega
  have n2 : ¬ S (w.heap.size + 1 + 1) := fun e => by have := HL.out _ e; omega
  have X1 := (B1.keep K1.out).turned hT n1
  have X2 := (B2.keep K1.out).turned hT n2
  have c10 := X1.cell 0 rfl
  have c20 := X2.cell 0 rfl
  have c22 := X2.cell 2 rfl
  have f22 := X2.frozen 2
  have f20 := X2.frozen 0
  have nG : ∀ g, (Value.slice A1 L c1).ownBlock = some g → ¬ S g := fun g hg e => by have h1 := (O1.out.lt g hg).1; have h2 := HL.out _ e; omega
  have NV := Lib.hid (show ∀ g, (Value.slice A1 L c1).ownBlock = some g → ¬ S' g from fun g hg => hT.notIn (O1.out.lt g hg).2 (nG g hg))
  have O2 := O1.out.turns hT nG
  have sz12 := hT.only.size
  have T1 := Lib.hid ((Turns.of_keeps (keeps_trans kW K1.out)).trans hT)
  have NS := Lib.hid (show (∀ i, w.heap.size ≤ i → i < w.heap.size + 3 → ¬ S' i) from fun i h1 h2 hs => by
    rcases hT.next i hs with h | h
    · have := HL.out i h; omega
    · omega)
  have XB := Lib.hid (show Box (w2.setCell ⟨w.heap.size + 1 + 1, 2, none⟩ (.int .i64 E)) (w.heap.size + 1 + 1) 36 #[.slice none 0 0, .int .i64 0, .int .i64 E] from X2.set 2 (.int .i64 E))
  have YB := Lib.hid (X1.far (p := ⟨w.heap.size + 1 + 1, 2, none⟩) (show w.heap.size + 1 ≠ w.heap.size + 1 + 1 by omega) (.int .i64 E))
  have OX := Lib.hid (O2.same (w' := w2.setCell ⟨w.heap.size + 1 + 1, 2, none⟩ (.int .i64 E)) (fun j hj => Below.heap_setCell w2 ⟨w.heap.size + 1 + 1, 2, none⟩ (.int .i64 E) j (fun e => by have h1 := (O2.lt j hj).1; have h2 : j = w.heap.size + 1 + 1 := e; omega)))
  have SX : w2.heap.size ≤ (w2.setCell ⟨w.heap.size + 1 + 1, 2, none⟩ (.int .i64 E)).heap.size := by simp
  have J2 := Lib.hid (st.turn hJ (only_set w2 ⟨w.heap.size + 1 + 1, 2, none⟩ (.int .i64 E)) (fun i hi => by rw [show i = w.heap.size + 1 + 1 from hi]; exact ⟨by omega, NS.out _ (by omega) (by omega)⟩))
  have T2 := Lib.hid (T1.out.put10 ⟨w.heap.size + 1 + 1, 2, none⟩ (.int .i64 E) (show w.heap.size ≤ w.heap.size + 1 + 1 by omega))
  have CB := Lib.hid (copyBytes_any A1 L c1 l (w2.setCell ⟨w.heap.size + 1 + 1, 2, none⟩ (.int .i64 E)) OX.out.at_ HLL.out.symm (by unfold maxLen; omega))
  clear O2 X1 X2 B1 B2 hT hJ n1 n2 nG z0 z1
  go_wp2_with fail
  obtain ⟨w3, hw3⟩ : ∃ w3, w2.setCell ⟨w.heap.size + 1 + 1, 2, none⟩ (.int .i64 E) = w3 := ⟨_, rfl⟩
  rw [hw3] at XB YB OX SX J2 T2 CB ⊢
  clear hw3 c10 c20 c22 f20 f22
  refine CB.out.mono ?_
  rintro e w4 ⟨v4, rfl, o4, k4⟩
  rw [HLL.out] at o4
  obtain ⟨A2, c2, rfl, -⟩ := o4.form
  have X4 := XB.out.keep k4
  have Y4 := YB.out.keep k4
  have c20 := X4.cell 0 rfl
  have c21 := X4.cell 1 rfl
  have c22 := X4.cell 2 rfl
  have f20 := X4.frozen 0
  have sz4 := k4.size
  have SZ2 := Lib.hid (show w.heap.size + 3 ≤ w3.heap.size from Nat.le_trans hsz1 (Nat.le_trans sz12 SX))
  have O14 := OX.out.keep k4
  have X5 := Lib.hid (show Box (w4.setCell ⟨w.heap.size + 1 + 1, 0, none⟩ (.slice A2 L c2)) (w.heap.size + 1 + 1) 36 #[.slice A2 L c2, .int .i64 0, .int .i64 E] by simpa using X4.set 0 (.slice A2 L c2))
  have Y5 := Lib.hid (Y4.far (p := ⟨w.heap.size + 1 + 1, 0, none⟩) (show w.heap.size + 1 ≠ w.heap.size + 1 + 1 by omega) (.slice A2 L c2))
  have O15 := Lib.hid (O14.same (fun k hk => Below.heap_setCell w4 ⟨w.heap.size + 1 + 1, 0, none⟩ (.slice A2 L c2) k (fun e => by have h1 := (O14.lt k hk).1; have h2 : k = w.heap.size + 1 + 1 := e; omega)))
  have O25 := Lib.hid (o4.same (fun k hk => Below.heap_setCell w4 ⟨w.heap.size + 1 + 1, 0, none⟩ (.slice A2 L c2) k (fun e => by have h1 := (o4.lt k hk).1; have h2 : k = w.heap.size + 1 + 1 := e; have := SZ2.out; omega)))
  have J5 := Lib.hid (st.turn (st.turn J2.out (Only.of_keeps k4) (fun i hi => hi.elim)) (only_set w4 ⟨w.heap.size + 1 + 1, 0, none⟩ (.slice A2 L c2)) (fun i hi => by rw [show i = w.heap.size + 1 + 1 from hi]; exact ⟨by omega, NS.out _ (by omega) (by omega)⟩))
  have T5 := Lib.hid ((T2.out.trans (Turns.of_keeps k4)).put10 ⟨w.heap.size + 1 + 1, 0, none⟩ (.slice A2 L c2) (show w.heap.size ≤ w.heap.size + 1 + 1 by omega))
  have LT2 := Lib.hid (show ∀ g, (Value.slice A1 L c1).ownBlock = some g → g < w3.heap.size from fun g hg => (OX.out.lt g hg).2)
  have NV2 := Lib.hid (show ∀ g, (Value.slice A2 L c2).ownBlock = some g → ¬ S' g from fun g hg hs => by
    have h1 := (o4.lt g hg).1
    have h2 := st.lt J2.out g hs
    omega)
  clear o4 k4 X4 Y4 O14 sz4 sz12
  go_wp2_with fail
  go_loopw [14] (fun i wr => ∃ (j : Nat) (ys : List Value), j ≤ L ∧ i = .int .i64 j ∧ Hid (Own wr (w.heap.size + 3) 5 1 (.slice A1 L c1) L ys) ∧ Hid (Own wr w3.heap.size 5 1 (.slice A2 L c2) L (cel l)) ∧ Hid (Box wr (w.heap.size + 1 + 1) 36 #[.slice A2 L c2, .int .i64 0, .int .i64 E]) ∧ Hid (Box wr (w.heap.size + 1) 36 #[.slice none 0 0, .int .i64 0, .int .i64 0]) ∧ Hid (J' S' wr) ∧ Hid (Turns w wr S S')) (fun i _ => L - (intOf i).toNat)
  case atStart => exact ⟨0, _, Nat.zero_le _, rfl, O15, O25, X5, Y5, J5, T5⟩
  case round =>
    clear O15 O25 X5 Y5 J5 T5
    obtain ⟨j, ys, hj, rfl, HO1, HO2, XB, YB, HVR, TR⟩ := hrel
    by_cases hlt : j < L
    · have hji : (j : Int) < (L : Int) := by omega
      have hlen : ys.length = L := by have := HO1.out.1; omega
      obtain ⟨g, rfl, hcc, hff, hgb⟩ := HO1.out.cell (j := j) (by omega)
      obtain ⟨u, hu⟩ : ∃ u, ys[j]? = some u := ⟨_, List.getElem?_eq_getElem (by omega)⟩
      rw [hu] at hcc
      have hg1 := LT2.out g rfl
      have N1 := Lib.hid (HO1.out.store (j := j) (by omega) (.int .u8 237))
      have N2 := Lib.hid (HO2.out.same (fun k hk => Below.heap_setCell wr ⟨g, j, none⟩ (.int .u8 237) k (fun e => by have := (HO2.out.lt k hk).1; simp only at e; omega)))
      have NX := Lib.hid (XB.out.far (p := ⟨g, j, none⟩) (show w.heap.size + 1 + 1 ≠ g by omega) (.int .u8 237))
      have NY := Lib.hid (YB.out.far (p := ⟨g, j, none⟩) (show w.heap.size + 1 ≠ g by omega) (.int .u8 237))
      have NH := Lib.hid (st.turn HVR.out (only_set wr ⟨g, j, none⟩ (.int .u8 237)) (fun i hi => by rw [show i = g from hi]; exact ⟨by omega, NV.out g rfl⟩))
      have NT := Lib.hid (TR.out.put10 ⟨g, j, none⟩ (.int .u8 237) (by show w.heap.size ≤ g; omega))
      clear hu hlen hg1 hgb hlt
      go_wp2_with fail
      go_roundw
      case rel => exact ⟨j + 1, _, by omega, by go_num, N1, N2, NX, NY, NH, NT⟩
      case measure => simp [intOf] <;> omega
    · obtain rfl : L = j := by omega
      have c20 := XB.out.cell 0 rfl
      have c21 := XB.out.cell 1 rfl
      have c22 := XB.out.cell 2 rfl
      have c10 := YB.out.cell 0 rfl
      have c11 := YB.out.cell 1 rfl
      have c12 := YB.out.cell 2 rfl
      have f10 := YB.out.frozen 0
      have f11 := YB.out.frozen 1
      have f12 := YB.out.frozen 2
      clear hlt hj
      go_wp2_with fail
      have ZB : Box ((((wr).setCell ⟨w.heap.size + 1, 0, none⟩ (.slice A2 L c2)).setCell ⟨w.heap.size + 1, 1, none⟩ (.int .i64 0)).setCell ⟨w.heap.size + 1, 2, none⟩ (.int .i64 E)) (w.heap.size + 1) 36 #[.slice A2 L c2, .int .i64 0, .int .i64 E] := by simpa using (((YB.out.set 0 (.slice A2 L c2)).set 1 (.int .i64 0)).set 2 (.int .i64 E))
      have ZO : Only wr ((((wr).setCell ⟨w.heap.size + 1, 0, none⟩ (.slice A2 L c2)).setCell ⟨w.heap.size + 1, 1, none⟩ (.int .i64 0)).setCell ⟨w.heap.size + 1, 2, none⟩ (.int .i64 E)) (fun i => w.heap.size ≤ i ∧ i < w.heap.size + 3) := only_xt wr (w.heap.size) (w.heap.size + 3) [((⟨w.heap.size + 1, 0, none⟩ : Addr), (.slice A2 L c2 : Value)), (⟨w.heap.size + 1, 1, none⟩, .int .i64 0), (⟨w.heap.size + 1, 2, none⟩, .int .i64 E)] (by intro p hp; simp only [List.mem_cons, List.not_mem_nil, or_false] at hp; rcases hp with rfl | rfl | rfl <;> simp only <;> omega)
      have ZH := st.turn HVR.out ZO (fun i hi => ⟨by omega, NS.out i hi.1 hi.2⟩)
      have ZT : Turns w ((((wr).setCell ⟨w.heap.size + 1, 0, none⟩ (.slice A2 L c2)).setCell ⟨w.heap.size + 1, 1, none⟩ (.int .i64 0)).setCell ⟨w.heap.size + 1, 2, none⟩ (.int .i64 E)) S S' := ⟨TR.out.only.trans ZO (fun i hi => .inr hi.1), TR.out.next⟩
      generalize ((((wr).setCell ⟨w.heap.size + 1, 0, none⟩ (.slice A2 L c2)).setCell ⟨w.heap.size + 1, 1, none⟩ (.int .i64 0)).setCell ⟨w.heap.size + 1, 2, none⟩ (.int .i64 E)) = W4 at *
      have d0 := ZB.cell 0 rfl
      have d1 := ZB.cell 1 rfl
      have d2 := ZB.cell 2 rfl
      refine bodyPost_ret (v := .agg #[.slice A2 L c2, .int .i64 0, .int .i64 E]) (by simp [results, Tryd.results10, go_sem, d0, d1, d2]) rfl ?_
      refine ⟨.slice A2 L c2, S', rfl, ?_, ZH, ZT, NV2.out⟩
      rw [HLL.out]
      exact (HO2.out.only_ ZO (fun k hk hs => by have := (HO2.out.lt k hk).1; have := SZ2.out; omega)).base_le (by have := SZ2.out; omega)
set_option maxHeartbeats 16000000 in
theorem does11_set (st : Stay w0 J') (hL : ∀ i, S i → i < w.heap.size) (hw0 : w0.heap.size ≤ w.heap.size) (dv pv sv : Value) (k : Int) (A : Option Addr) (len c : Nat) (l : List UInt8) (hlen : len = l.length) (hl : len ≤ 20000000) (hB : Bs w A l) (E : Int)
    (C : ∀ W V A' c', Keeps w W → Keeps W V → w.heap.size ≤ W.heap.size → Own V W.heap.size 5 1 (.slice A' len c') len (cel l) → Calls Tryd.prog 17 #[sv, .int .i64 k, .slice A' len c'] V fun e w' => e = .returned (.int .i64 E) ∧ ∃ S', J' S' w' ∧ Turns V w' S S') :
    Calls Tryd.prog 10 #[dv, pv, sv, .agg #[.int .i64 3, .int .i64 k, .slice A len c]] w (Done10 w S J' l 0 E) := by
  have kW : Keeps w (((w.alloc (.cells #[.int .i64 3, .int .i64 k, .slice A len c] 33)).alloc (.cells #[.slice none 0 0, .int .i64 0, .int .i64 0] 36)).alloc (.cells #[.slice none 0 0, .int .i64 0, .int .i64 0] 36)) := keeps_trans (keeps_trans (keeps_alloc _ _) (keeps_alloc _ _)) (keeps_alloc _ _)
  have hs3 : ((((w.alloc (.cells #[.int .i64 3, .int .i64 k, .slice A len c] 33)).alloc (.cells #[.slice none 0 0, .int .i64 0, .int .i64 0] 36)).alloc (.cells #[.slice none 0 0, .int .i64 0, .int .i64 0] 36))).heap.size = w.heap.size + 3 := by simp
  have B1 := box_mid10 w (.cells #[.int .i64 3, .int .i64 k, .slice A len c] 33) 36 #[.slice none 0 0, .int .i64 0, .int .i64 0] (.cells #[.slice none 0 0, .int .i64 0, .int .i64 0] 36)
  have B2 := box_third10 w (.cells #[.int .i64 3, .int .i64 k, .slice A len c] 33) (.cells #[.slice none 0 0, .int .i64 0, .int .i64 0] 36) 36 #[.slice none 0 0, .int .i64 0, .int .i64 0]
  have CC := Lib.hid (fun V A' c' kv o => C _ V A' c' kW kv kW.size o)
  have HL := Lib.hid hL
  have HS3 := Lib.hid hs3
  have CB0 := Lib.hid (copyBytes_any A len c l _ (hB.keep kW) hlen (by unfold maxLen; omega))
  have HLL := Lib.hid hlen.symm
  generalize len = L at *
  have OB := Lib.hid ((Box.new w 33 #[.int .i64 3, .int .i64 k, .slice A L c]).keep (keeps_trans (keeps_alloc (w.alloc (.cells #[.int .i64 3, .int .i64 k, .slice A L c] 33)) (.cells #[.slice none 0 0, .int .i64 0, .int .i64 0] 36)) (keeps_alloc _ (.cells #[.slice none 0 0, .int .i64 0, .int .i64 0] 36))))
  clear C hL hlen hB
  go_enter Tryd.func10, Tryd.ntmps10
  go_wp2_with fail
  refine CB0.out.mono ?_
  rintro e w1 ⟨v1, rfl, o1, k1⟩
  rw [HLL.out] at o1
  obtain ⟨A1, c1, rfl, -⟩ := o1.form
  have CC1 := Lib.hid (CC.out w1 A1 c1 k1 o1)
  rw [hs3] at o1
  have hsz1 : w.heap.size + 3 ≤ w1.heap.size := by have := k1.size; omega
  have z0 := (OB.out.keep k1).cell 0 rfl
  have z1 := (OB.out.keep k1).cell 1 rfl
  have O1 := Lib.hid o1
  have K1 := Lib.hid k1
  clear o1 k1 CB0 CC
  go_wp2_with fail
  refine CC1.out.mono ?_
  rintro e w2 ⟨rfl, S', hJ, hT⟩
  have n1 : ¬ S (w.heap.size + 1) := fun e => by have := HL.out _ e; omega
  have n2 : ¬ S (w.heap.size + 1 + 1) := fun e => by have := HL.out _ e; omega
  have X1 := (B1.keep K1.out).turned hT n1
  have X2 := (B2.keep K1.out).turned hT n2
  have c10 := X1.cell 0 rfl
  have c20 := X2.cell 0 rfl
  have c22 := X2.cell 2 rfl
  have f22 := X2.frozen 2
  have f20 := X2.frozen 0
  have nG : ∀ g, (Value.slice A1 L c1).ownBlock = some g → ¬ S g := fun g hg e => by have h1 := (O1.out.lt g hg).1; have h2 := HL.out _ e; omega
  have NV := Lib.hid (show ∀ g, (Value.slice A1 L c1).ownBlock = some g → ¬ S' g from fun g hg => hT.notIn (O1.out.lt g hg).2 (nG g hg))
  have O2 := O1.out.turns hT nG
  have sz12 := hT.only.size
  have T1 := Lib.hid ((Turns.of_keeps (keeps_trans kW K1.out)).trans hT)
  have NS := Lib.hid (show (∀ i, w.heap.size ≤ i → i < w.heap.size + 3 → ¬ S' i) from fun i h1 h2 hs => by
    rcases hT.next i hs with h | h
    · have := HL.out i h; omega
    · omega)
  have XB := Lib.hid (show Box (w2.setCell ⟨w.heap.size + 1 + 1, 2, none⟩ (.int .i64 E)) (w.heap.size + 1 + 1) 36 #[.slice none 0 0, .int .i64 0, .int .i64 E] from X2.set 2 (.int .i64 E))
  have YB := Lib.hid (X1.far (p := ⟨w.heap.size + 1 + 1, 2, none⟩) (show w.heap.size + 1 ≠ w.heap.size + 1 + 1 by omega) (.int .i64 E))
  have OX := Lib.hid (O2.same (w' := w2.setCell ⟨w.heap.size + 1 + 1, 2, none⟩ (.int .i64 E)) (fun j hj => Below.heap_setCell w2 ⟨w.heap.size + 1 + 1, 2, none⟩ (.int .i64 E) j (fun e => by have h1 := (O2.lt j hj).1; have h2 : j = w.heap.size + 1 + 1 := e; omega)))
  have SX : w2.heap.size ≤ (w2.setCell ⟨w.heap.size + 1 + 1, 2, none⟩ (.int .i64 E)).heap.size := by simp
  have J2 := Lib.hid (st.turn hJ (only_set w2 ⟨w.heap.size + 1 + 1, 2, none⟩ (.int .i64 E)) (fun i hi => by rw [show i = w.heap.size + 1 + 1 from hi]; exact ⟨by omega, NS.out _ (by omega) (by omega)⟩))
  have T2 := Lib.hid (T1.out.put10 ⟨w.heap.size + 1 + 1, 2, none⟩ (.int .i64 E) (show w.heap.size ≤ w.heap.size + 1 + 1 by omega))
  have CB := Lib.hid (copyBytes_any A1 L c1 l (w2.setCell ⟨w.heap.size + 1 + 1, 2, none⟩ (.int .i64 E)) OX.out.at_ HLL.out.symm (by unfold maxLen; omega))
  clear O2 X1 X2 B1 B2 hT hJ n1 n2 nG z0 z1
  go_wp2_with fail
  obtain ⟨w3, hw3⟩ : ∃ w3, w2.setCell ⟨w.heap.size + 1 + 1, 2, none⟩ (.int .i64 E) = w3 := ⟨_, rfl⟩
  rw [hw3] at XB YB OX SX J2 T2 CB ⊢
  clear hw3 c10 c20 c22 f20 f22
  refine CB.out.mono ?_
  rintro e w4 ⟨v4, rfl, o4, k4⟩
  rw [HLL.out] at o4
  obtain ⟨A2, c2, rfl, -⟩ := o4.form
  have X4 := XB.out.keep k4
  have Y4 := YB.out.keep k4
  have c20 := X4.cell 0 rfl
  have c21 := X4.cell 1 rfl
  have c22 := X4.cell 2 rfl
  have f20 := X4.frozen 0
  have sz4 := k4.size
  have SZ2 := Lib.hid (show w.heap.size + 3 ≤ w3.heap.size from Nat.le_trans hsz1 (Nat.le_trans sz12 SX))
  have O14 := OX.out.keep k4
  have X5 := Lib.hid (show Box (w4.setCell ⟨w.heap.size + 1 + 1, 0, none⟩ (.slice A2 L c2)) (w.heap.size + 1 + 1) 36 #[.slice A2 L c2, .int .i64 0, .int .i64 E] by simpa using X4.set 0 (.slice A2 L c2))
  have Y5 := Lib.hid (Y4.far (p := ⟨w.heap.size + 1 + 1, 0, none⟩) (show w.heap.size + 1 ≠ w.heap.size + 1 + 1 by omega) (.slice A2 L c2))
  have O15 := Lib.hid (O14.same (fun k hk => Below.heap_setCell w4 ⟨w.heap.size + 1 + 1, 0, none⟩ (.slice A2 L c2) k (fun e => by have h1 := (O14.lt k hk).1; have h2 : k = w.heap.size + 1 + 1 := e; omega)))
  have O25 := Lib.hid (o4.same (fun k hk => Below.heap_setCell w4 ⟨w.heap.size + 1 + 1, 0, none⟩ (.slice A2 L c2) k (fun e => by have h1 := (o4.lt k hk).1; have h2 : k = w.heap.size + 1 + 1 := e; have := SZ2.out; omega)))
  have J5 := Lib.hid (st.turn (st.turn J2.out (Only.of_keeps k4) (fun i hi => hi.elim)) (only_set w4 ⟨w.heap.size + 1 + 1, 0, none⟩ (.slice A2 L c2)) (fun i hi => by rw [show i = w.heap.size + 1 + 1 from hi]; exact ⟨by omega, NS.out _ (by omega) (by omega)⟩))
  have T5 := Lib.hid ((T2.out.trans (Turns.of_keeps k4)).put10 ⟨w.heap.size + 1 + 1, 0, none⟩ (.slice A2 L c2) (show w.heap.size ≤ w.heap.size + 1 + 1 by omega))
  have LT2 := Lib.hid (show ∀ g, (Value.slice A1 L c1).ownBlock = some g → g < w3.heap.size from fun g hg => (OX.out.lt g hg).2)
  have NV2 := Lib.hid (show ∀ g, (Value.slice A2 L c2).ownBlock = some g → ¬ S' g from fun g hg hs => by
    have h1 := (o4.lt g hg).1
    have h2 := st.lt J2.out g hs
    omega)
  clear o4 k4 X4 Y4 O14 sz4 sz12
  go_wp2_with fail
  go_loopw [14] (fun i wr => ∃ (j : Nat) (ys : List Value), j ≤ L ∧ i = .int .i64 j ∧ Hid (Own wr (w.heap.size + 3) 5 1 (.slice A1 L c1) L ys) ∧ Hid (Own wr w3.heap.size 5 1 (.slice A2 L c2) L (cel l)) ∧ Hid (Box wr (w.heap.size + 1 + 1) 36 #[.slice A2 L c2, .int .i64 0, .int .i64 E]) ∧ Hid (Box wr (w.heap.size + 1) 36 #[.slice none 0 0, .int .i64 0, .int .i64 0]) ∧ Hid (J' S' wr) ∧ Hid (Turns w wr S S')) (fun i _ => L - (intOf i).toNat)
  case atStart => exact ⟨0, _, Nat.zero_le _, rfl, O15, O25, X5, Y5, J5, T5⟩
  case round =>
    clear O15 O25 X5 Y5 J5 T5
    obtain ⟨j, ys, hj, rfl, HO1, HO2, XB, YB, HVR, TR⟩ := hrel
    by_cases hlt : j < L
    · have hji : (j : Int) < (L : Int) := by omega
      have hlen : ys.length = L := by have := HO1.out.1; omega
      obtain ⟨g, rfl, hcc, hff, hgb⟩ := HO1.out.cell (j := j) (by omega)
      obtain ⟨u, hu⟩ : ∃ u, ys[j]? = some u := ⟨_, List.getElem?_eq_getElem (by omega)⟩
      rw [hu] at hcc
      have hg1 := LT2.out g rfl
      have N1 := Lib.hid (HO1.out.store (j := j) (by omega) (.int .u8 237))
      have N2 := Lib.hid (HO2.out.same (fun k hk => Below.heap_setCell wr ⟨g, j, none⟩ (.int .u8 237) k (fun e => by have := (HO2.out.lt k hk).1; simp only at e; omega)))
      have NX := Lib.hid (XB.out.far (p := ⟨g, j, none⟩) (show w.heap.size + 1 + 1 ≠ g by omega) (.int .u8 237))
      have NY := Lib.hid (YB.out.far (p := ⟨g, j, none⟩) (show w.heap.size + 1 ≠ g by omega) (.int .u8 237))
      have NH := Lib.hid (st.turn HVR.out (only_set wr ⟨g, j, none⟩ (.int .u8 237)) (fun i hi => by rw [show i = g from hi]; exact ⟨by omega, NV.out g rfl⟩))
      have NT := Lib.hid (TR.out.put10 ⟨g, j, none⟩ (.int .u8 237) (by show w.heap.size ≤ g; omega))
      clear hu hlen hg1 hgb hlt
      go_wp2_with fail
      go_roundw
      case rel => exact ⟨j + 1, _, by omega, by go_num, N1, N2, NX, NY, NH, NT⟩
      case measure => simp [intOf] <;> omega
    · obtain rfl : L = j := by omega
      have c20 := XB.out.cell 0 rfl
      have c21 := XB.out.cell 1 rfl
      have c22 := XB.out.cell 2 rfl
      have c10 := YB.out.cell 0 rfl
      have c11 := YB.out.cell 1 rfl
      have c12 := YB.out.cell 2 rfl
      have f10 := YB.out.frozen 0
      have f11 := YB.out.frozen 1
      have f12 := YB.out.frozen 2
      clear hlt hj
      go_wp2_with fail
      have ZB : Box ((((wr).setCell ⟨w.heap.size + 1, 0, none⟩ (.slice A2 L c2)).setCell ⟨w.heap.size + 1, 1, none⟩ (.int .i64 0)).setCell ⟨w.heap.size + 1, 2, none⟩ (.int .i64 E)) (w.heap.size + 1) 36 #[.slice A2 L c2, .int .i64 0, .int .i64 E] := by simpa using (((YB.out.set 0 (.slice A2 L c2)).set 1 (.int .i64 0)).set 2 (.int .i64 E))
      have ZO : Only wr ((((wr).setCell ⟨w.heap.size + 1, 0, none⟩ (.slice A2 L c2)).setCell ⟨w.heap.size + 1, 1, none⟩ (.int .i64 0)).setCell ⟨w.heap.size + 1, 2, none⟩ (.int .i64 E)) (fun i => w.heap.size ≤ i ∧ i < w.heap.size + 3) := only_xt wr (w.heap.size) (w.heap.size + 3) [((⟨w.heap.size + 1, 0, none⟩ : Addr), (.slice A2 L c2 : Value)), (⟨w.heap.size + 1, 1, none⟩, .int .i64 0), (⟨w.heap.size + 1, 2, none⟩, .int .i64 E)] (by intro p hp; simp only [List.mem_cons, List.not_mem_nil, or_false] at hp; rcases hp with rfl | rfl | rfl <;> simp only <;> omega)
      have ZH := st.turn HVR.out ZO (fun i hi => ⟨by omega, NS.out i hi.1 hi.2⟩)
      have ZT : Turns w ((((wr).setCell ⟨w.heap.size + 1, 0, none⟩ (.slice A2 L c2)).setCell ⟨w.heap.size + 1, 1, none⟩ (.int .i64 0)).setCell ⟨w.heap.size + 1, 2, none⟩ (.int .i64 E)) S S' := ⟨TR.out.only.trans ZO (fun i hi => .inr hi.1), TR.out.next⟩
      generalize ((((wr).setCell ⟨w.heap.size + 1, 0, none⟩ (.slice A2 L c2)).setCell ⟨w.heap.size + 1, 1, none⟩ (.int .i64 0)).setCell ⟨w.heap.size + 1, 2, none⟩ (.int .i64 E)) = W4 at *
      have d0 := ZB.cell 0 rfl
      have d1 := ZB.cell 1 rfl
      have d2 := ZB.cell 2 rfl
      refine bodyPost_ret (v := .agg #[.slice A2 L c2, .int .i64 0, .int .i64 E]) (by simp [results, Tryd.results10, go_sem, d0, d1, d2]) rfl ?_
      refine ⟨.slice A2 L c2, S', rfl, ?_, ZH, ZT, NV2.out⟩
      rw [HLL.out]
      exact (HO2.out.only_ ZO (fun k hk hs => by have := (HO2.out.lt k hk).1; have := SZ2.out; omega)).base_le (by have := SZ2.out; omega)
set_option maxHeartbeats 8000000 in
theorem does11_none (st : Stay w0 J') (hL : ∀ i, S i → i < w.heap.size) (hw0 : w0.heap.size ≤ w.heap.size) (hj : J' S w) (dv pv sv : Value) (kind k : Int) (hk : kind < 0 ∨ 6 < kind) (A : Option Addr) (len c : Nat) :
    Calls Tryd.prog 10 #[dv, pv, sv, .agg #[.int .i64 kind, .int .i64 k, .slice A len c]] w (Done10 w S J' [] 0 0) := by
  have kW : Keeps w (((w.alloc (.cells #[.int .i64 kind, .int .i64 k, .slice A len c] 33)).alloc (.cells #[.slice none 0 0, .int .i64 0, .int .i64 0] 36)).alloc (.cells #[.slice none 0 0, .int .i64 0, .int .i64 0] 36)) := keeps_trans (keeps_trans (keeps_alloc _ _) (keeps_alloc _ _)) (keeps_alloc _ _)
  have hs3 : ((((w.alloc (.cells #[.int .i64 kind, .int .i64 k, .slice A len c] 33)).alloc (.cells #[.slice none 0 0, .int .i64 0, .int .i64 0] 36)).alloc (.cells #[.slice none 0 0, .int .i64 0, .int .i64 0] 36))).heap.size = w.heap.size + 3 := by simp
  have B1 := box_mid10 w (.cells #[.int .i64 kind, .int .i64 k, .slice A len c] 33) 36 #[.slice none 0 0, .int .i64 0, .int .i64 0] (.cells #[.slice none 0 0, .int .i64 0, .int .i64 0] 36)
  have B2 := box_third10 w (.cells #[.int .i64 kind, .int .i64 k, .slice A len c] 33) (.cells #[.slice none 0 0, .int .i64 0, .int .i64 0] 36) 36 #[.slice none 0 0, .int .i64 0, .int .i64 0]
  have HJ := Lib.hid (st.turn hj (Only.of_keeps kW) (fun i hi => hi.elim))
  have FIN := Lib.hid (fun w1 W4 S' => done10 (W4 := W4) (w1 := w1) (S' := S') st hL hw0 kW hs3)
  have q0 : (kind == 0) = false := by rw [beq_eq_false_iff_ne]; omega
  have q1 : (kind == 1) = false := by rw [beq_eq_false_iff_ne]; omega
  have q2 : (kind == 2) = false := by rw [beq_eq_false_iff_ne]; omega
  have q3 : (kind == 3) = false := by rw [beq_eq_false_iff_ne]; omega
  have q4 : (kind == 4) = false := by rw [beq_eq_false_iff_ne]; omega
  have q5 : (kind == 5) = false := by rw [beq_eq_false_iff_ne]; omega
  have q6 : (kind == 6) = false := by rw [beq_eq_false_iff_ne]; omega
  clear hj hL hk
  go_enter Tryd.func10, Tryd.ntmps10
  have c10 := B1.cell 0 rfl
  have c11 := B1.cell 1 rfl
  have c12 := B1.cell 2 rfl
  have f10 := B1.frozen 0
  have f11 := B1.frozen 1
  have f12 := B1.frozen 2
  have c20 := B2.cell 0 rfl
  have c21 := B2.cell 1 rfl
  have c22 := B2.cell 2 rfl
  have XB := Lib.hid (show Box (((((((w.alloc (.cells #[.int .i64 kind, .int .i64 k, .slice A len c] 33)).alloc (.cells #[.slice none 0 0, .int .i64 0, .int .i64 0] 36)).alloc (.cells #[.slice none 0 0, .int .i64 0, .int .i64 0] 36))).setCell ⟨w.heap.size + 1, 0, none⟩ (.slice none 0 0)).setCell ⟨w.heap.size + 1, 1, none⟩ (.int .i64 0)).setCell ⟨w.heap.size + 1, 2, none⟩ (.int .i64 0)) (w.heap.size + 1) 36 #[.slice none 0 0, .int .i64 0, .int .i64 0] by simpa using (((B1.set 0 (.slice none 0 0)).set 1 (.int .i64 0)).set 2 (.int .i64 0)))
  have XO := Lib.hid (show Only (((w.alloc (.cells #[.int .i64 kind, .int .i64 k, .slice A len c] 33)).alloc (.cells #[.slice none 0 0, .int .i64 0, .int .i64 0] 36)).alloc (.cells #[.slice none 0 0, .int .i64 0, .int .i64 0] 36)) (((((((w.alloc (.cells #[.int .i64 kind, .int .i64 k, .slice A len c] 33)).alloc (.cells #[.slice none 0 0, .int .i64 0, .int .i64 0] 36)).alloc (.cells #[.slice none 0 0, .int .i64 0, .int .i64 0] 36))).setCell ⟨w.heap.size + 1, 0, none⟩ (.slice none 0 0)).setCell ⟨w.heap.size + 1, 1, none⟩ (.int .i64 0)).setCell ⟨w.heap.size + 1, 2, none⟩ (.int .i64 0)) (fun i => w.heap.size ≤ i ∧ i < w.heap.size + 3) from only_xt (((w.alloc (.cells #[.int .i64 kind, .int .i64 k, .slice A len c] 33)).alloc (.cells #[.slice none 0 0, .int .i64 0, .int .i64 0] 36)).alloc (.cells #[.slice none 0 0, .int .i64 0, .int .i64 0] 36)) w.heap.size (w.heap.size + 3) [((⟨w.heap.size + 1, 0, none⟩ : Addr), (.slice none 0 0 : Value)), (⟨w.heap.size + 1, 1, none⟩, .int .i64 0), (⟨w.heap.size + 1, 2, none⟩, .int .i64 0)] (by intro p hp; simp only [List.mem_cons, List.not_mem_nil, or_false] at hp; rcases hp with rfl | rfl | rfl <;> simp only <;> omega))
  have YB := Lib.hid B1
  clear B1 B2
  go_wp2_with fail
  have d0 := XB.out.cell 0 rfl
  have d1 := XB.out.cell 1 rfl
  have d2 := XB.out.cell 2 rfl
  refine bodyPost_ret (v := .agg #[.slice none 0 0, .int .i64 0, .int .i64 0]) (by simp [results, Tryd.results10, go_sem, d0, d1, d2]) rfl ?_
  first
    | exact ⟨_, S, rfl, Own.nil _ _ _ _, (FIN.out _ _ S HJ.out (Turns.refl _ _) XO.out).1, (FIN.out _ _ S HJ.out (Turns.refl _ _) XO.out).2, fun g hg => by cases hg⟩
    | exact ⟨_, S, rfl, Own.nil _ _ _ _, (FIN.out _ _ S HJ.out (Turns.refl _ _) (Only.refl _ _)).1, (FIN.out _ _ S HJ.out (Turns.refl _ _) (Only.refl _ _)).2, fun g hg => by cases hg⟩
end
end Go.Proofs.YtmholhjdpkfleaaDoor
/- What is done with a stream: the state and the answers as a function; 'does' answers so. -/
namespace Go.Proofs.YtmholhjdpkfleaaDoor
open Go.RowKit
set_option linter.unusedSimpArgs false
set_option linter.unusedVariables false
set_option maxRecDepth 100000

/-- the state, and what is told: bytes, a number, an error -/
def doT (p : Pst) (size : Nat) (o : Op11) : Pst × List UInt8 × Nat × Nat :=
  if o.kind = 0 then ((lenT p sN size).1, [], (lenT p sN size).2.1, (lenT p sN size).2.2)
  else if o.kind = 1 then ((getT p sN size o.i).1, (getT p sN size o.i).2.1, 0, (getT p sN size o.i).2.2)
  else if o.kind = 2 then ((addT p sN size o.b).1, o.b, 0, (addT p sN size o.b).2)
  else if o.kind = 3 then ((setT p sN size o.i o.b).1, o.b, 0, (setT p sN size o.i o.b).2)
  else if o.kind = 5 then ((flushPl p sN).1, [], 0, (flushPl p sN).2)
  else (p, [], 0, 0)
/-- a pool of this state, used so often -/
def PJR (K : DiskOk) (w0 : World) (B : PB) (q : Pst) (N j : Nat) (S : Nat → Prop) (w : World) : Prop := PJ K w0 B q S w ∧ Runs q N j
theorem stay_pjr (K : DiskOk) (w0 : World) (B : PB) (q : Pst) (N j : Nat) : Stay w0 (PJR K w0 B q N j) :=
  ⟨fun h o hT => ⟨(stay_pool K w0 B q).turn h.1 o hT, h.2⟩, fun h => (stay_pool K w0 B q).lt h.1⟩
section
variable {p : Pst} {size : Nat}
theorem get_len (hd : DsOk p.d) (ht : Txt p.fr) (i : Int) : (getT p sN size i).2.1.length ≤ 20000000 := by
  have := seat_len hd ht sN size i
  unfold getT
  simp only
  split
  · simp
  · simp only [List.length_take, List.length_drop]
    omega
end
section
variable {K : DiskOk} {w0 w w' : World} {B : PB} {S : Nat → Prop} {p : Pst} {sb size : Nat}
set_option maxHeartbeats 4000000 in
theorem does11_any (PK : PageOk) (h : PJ K w0 B p S w) (hZ : K.Z w0) (hS : Sizes w0) {N j : Nat} (R : Runs p N j) (hN : N ≤ 4096) (hj : j + 2 ≤ 100000) (b : StrAt w sb B.pb sN size) (hb : ¬ S sb) (hsz : 1 ≤ size ∧ size ≤ 240) (hn : (findP p sN).1 ≤ 1000000) (o : Op11) (ho : Op11Ok w0 o) (hl : o.len ≤ 65536) (h4 : o.kind ≠ 4) (h6 : o.kind ≠ 6) :
    Calls Tryd.prog 10 #[.pointer (some ⟨B.db, 0, none⟩), .pointer (some ⟨B.pb, 0, none⟩), .pointer (some ⟨sb, 0, none⟩), .agg (op11C o).toArray] w (Done10 w S (PJR K w0 B (doT p size o).1 N (j + 2)) (doT p size o).2.1 ((doT p size o).2.2.1 : Int) ((doT p size o).2.2.2 : Int)) := by
  have hL := h.lt
  have hw0 := h.kp.size
  have ok' := ho.keep_ h.kp
  have hd := h.dok
  have hc : (o.kind < 0 ∨ 6 < o.kind) ∨ o.kind = 0 ∨ o.kind = 1 ∨ o.kind = 2 ∨ o.kind = 3 ∨ o.kind = 5 := by omega
  unfold op11C
  rcases hc with e | e | e | e | e | e
  · have hd : doT p size o = (p, [], 0, 0) := by
      unfold doT
      rw [if_neg (by omega), if_neg (by omega), if_neg (by omega), if_neg (by omega), if_neg (by omega)]
    rw [hd]
    exact does11_none (stay_pjr K w0 B p N (j + 2)) hL hw0 ⟨h, R.more (by omega)⟩ _ _ _ _ _ e _ _ _
  · have hd2 : doT p size o = ((lenT p sN size).1, [], (lenT p sN size).2.1, (lenT p sN size).2.2) := by unfold doT; rw [e]; rfl
    rw [hd2, e]
    exact does11_len (stay_pjr K w0 B _ N (j + 2)) hL hw0 _ _ _ _ _ _ _ _ _ (fun W kw => (slen_any PK (h.keep kw) hZ hS R hN (by omega) (b.keep kw) hb sN_len hsz hn).mono fun e w' q => ⟨q.1, by
      obtain ⟨S', q1, q2⟩ := q.2
      exact ⟨S', ⟨q1, (R.lenS hd sN size).more (by omega)⟩, q2⟩⟩)
  · have hd2 : doT p size o = ((getT p sN size o.i).1, (getT p sN size o.i).2.1, 0, (getT p sN size o.i).2.2) := by unfold doT; rw [e]; rfl
    rw [hd2, e]
    exact does11_get (stay_pjr K w0 B _ N (j + 2)) hL hw0 _ _ _ _ _ _ _ _ (get_len hd R.t o.i) _ (fun W kw => (sget_any PK (h.keep kw) hZ hS R hN (by omega) (b.keep kw) hb sN_len hsz o.i ho.i).mono fun e w' q => by
      obtain ⟨v, q0, q1, S', q2, q3, q4⟩ := q
      exact ⟨v, q0, q1, S', ⟨q2, (R.getS hd sN size o.i).more (by omega)⟩, q3, q4⟩)
  · have hd2 : doT p size o = ((addT p sN size o.b).1, o.b, 0, (addT p sN size o.b).2) := by unfold doT; rw [e]; rfl
    rw [hd2, e]
    refine does11_add (stay_pjr K w0 B _ N (j + 2)) hL hw0 _ _ _ _ _ _ _ _ ok'.len (by omega) ok'.b _ (fun W V A' c' kw kv hwW q => ?_)
    have hBs : Bs V A' o.b := by have := q.at_; exact this
    refine (sadd_any PK (h.keep (keeps_trans kw kv)) hZ hS R hN (by omega) (b.keep (keeps_trans kw kv)) hb sN_len hsz hn hBs (fun ad ha hF => by
      subst ha
      have h1 := (q.lt ad.block rfl).1
      have h2 := hL _ hF
      omega) ok'.len (by omega)).mono fun e w' q => ⟨q.1, ?_⟩
    obtain ⟨⟨S', q1, q2⟩, q3⟩ := q.2
    exact ⟨S', ⟨q1, q3⟩, q2⟩
  · have hd2 : doT p size o = ((setT p sN size o.i o.b).1, o.b, 0, (setT p sN size o.i o.b).2) := by unfold doT; rw [e]; rfl
    rw [hd2, e]
    refine does11_set (stay_pjr K w0 B _ N (j + 2)) hL hw0 _ _ _ _ _ _ _ _ ok'.len (by omega) ok'.b _ (fun W V A' c' kw kv hwW q => ?_)
    have hBs : Bs V A' o.b := by have := q.at_; exact this
    refine (sset_any PK (h.keep (keeps_trans kw kv)) hZ hS R hN (by omega) (b.keep (keeps_trans kw kv)) hb sN_len hsz o.i ho.i hBs (fun ad ha hF => by
      subst ha
      have h1 := (q.lt ad.block rfl).1
      have h2 := hL _ hF
      omega) ok'.len (by omega)).mono fun e w' q => ⟨q.1, ?_⟩
    obtain ⟨⟨S', q1, q2⟩, q3⟩ := q.2
    exact ⟨S', ⟨q1, q3⟩, q2⟩
  · have hd2 : doT p size o = ((flushPl p sN).1, [], 0, (flushPl p sN).2) := by unfold doT; rw [e]; rfl
    rw [hd2, e]
    exact does11_flush (stay_pjr K w0 B _ N (j + 2)) hL hw0 _ _ _ _ _ _ _ _ (fun W kw => (flush_pj PK (h.keep kw) hZ hS R (by omega) sN sN_len).mono fun e w' q => ⟨q.1, by
      obtain ⟨S', q1, q2⟩ := q.2
      exact ⟨S', ⟨q1, (R.flush hd sN).more (by omega)⟩, q2⟩⟩)
end
end Go.Proofs.YtmholhjdpkfleaaDoor
