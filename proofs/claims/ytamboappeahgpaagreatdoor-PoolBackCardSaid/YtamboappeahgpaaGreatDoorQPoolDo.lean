/- What is done with a pool, and told: what 'does' leaves. -/
import Derived.Test.YtamboappeahgpaaGreatDoorQPoolBa
import Derived.Test.YtamboappeahgpaaGreatDoorQRefA
namespace Go.Proofs.YtamboappeahgpaaGreatDoor
open Go.RowKit
set_option linter.unusedSimpArgs false
set_option linter.unusedVariables false
set_option maxRecDepth 100000

/-- what stands in blocks of its own, made since w0 -/
structure Stay (w0 : World) (J : (Nat → Prop) → World → Prop) : Prop where
  turn : ∀ {S : Nat → Prop} {w w' : World} {T : Nat → Prop}, J S w → Only w w' T → (∀ i, T i → w0.heap.size ≤ i ∧ ¬ S i) → J S w'
  lt : ∀ {S : Nat → Prop} {w : World}, J S w → ∀ i, S i → i < w.heap.size
def Done10 (w : World) (S : Nat → Prop) (J' : (Nat → Prop) → World → Prop) (l : List UInt8) (n E : Int) (e : Ending) (w' : World) : Prop :=
  ∃ v S', e = .returned (.agg #[v, .int .i64 n, .int .i64 E]) ∧ Own w' w.heap.size 5 1 v l.length (cel l) ∧ J' S' w' ∧ Turns w w' S S' ∧ (∀ g, v.ownBlock = some g → ¬ S' g)
theorem done10 {w0 w W w1 W4 : World} {S S' : Nat → Prop} {J' : (Nat → Prop) → World → Prop} (st : Stay w0 J') (hL : ∀ i, S i → i < w.heap.size) (hw0 : w0.heap.size ≤ w.heap.size) (kW : Keeps w W) (hsz : W.heap.size = w.heap.size + 3)
    (j : J' S' w1) (t : Turns W w1 S S') (o : Only w1 W4 (fun i => w.heap.size ≤ i ∧ i < w.heap.size + 3)) : J' S' W4 ∧ Turns w W4 S S' := by
  have hn : ∀ i, (w.heap.size ≤ i ∧ i < w.heap.size + 3) → ¬ S' i := fun i hi hs => by
    rcases t.next i hs with h | h
    · have := hL i h; omega
    · omega
  exact ⟨st.turn j o (fun i hi => ⟨by omega, hn i hi⟩), ((Turns.of_keeps kW).trans t).only.trans o (fun i hi => .inr hi.1), ((Turns.of_keeps kW).trans t).next⟩
theorem Turns.put10 {w w' : World} {F F' : Nat → Prop} (t : Turns w w' F F') (p : Addr) (u : Value) (hp : w.heap.size ≤ p.block) : Turns w (w'.setCell p u) F F' :=
  ⟨t.only.trans (only_set w' p u) (fun i hi => .inr (by rw [show i = p.block from hi]; exact hp)), t.next⟩
theorem box_third10 (w : World) (x y : Obj) (T : TypeId) (cs : Array Value) : Box (((w.alloc x).alloc y).alloc (.cells cs T)) (w.heap.size + 1 + 1) T cs := by
  have := Box.new ((w.alloc x).alloc y) T cs
  simpa using this
theorem box_mid10 (w : World) (x : Obj) (T : TypeId) (cs : Array Value) (z : Obj) : Box (((w.alloc x).alloc (.cells cs T)).alloc z) (w.heap.size + 1) T cs := by
  have h : Box ((w.alloc x).alloc (.cells cs T)) (w.heap.size + 1) T cs := by
    have := Box.new (w.alloc x) T cs
    simpa using this
  exact h.keep (keeps_alloc _ _)
end Go.Proofs.YtamboappeahgpaaGreatDoor
/- What milepostlaw10.does does. (Written by mkdo10.py.) -/
namespace Go.Proofs.YtamboappeahgpaaGreatDoor
open Go.RowKit
set_option linter.unusedSimpArgs false
set_option linter.unusedVariables false
set_option maxRecDepth 100000

section
variable {w0 w : World} {S : Nat → Prop} {J' : (Nat → Prop) → World → Prop}
set_option maxHeartbeats 8000000 in
theorem does10_create (st : Stay w0 J') (hL : ∀ i, S i → i < w.heap.size) (hw0 : w0.heap.size ≤ w.heap.size) (pv dv : Value) (sv : ByteArray) (k : Int) (A : Option Addr) (len c : Nat) (E : Int)
    (C : ∀ W, Keeps w W → Calls Tryz.prog 64 #[pv, .string sv] W fun e w' => e = .returned (.int .i64 E) ∧ ∃ S', J' S' w' ∧ Turns W w' S S') :
    Calls Tryz.prog 26 #[pv, dv, .agg #[.int .i64 0, .string sv, .int .i64 k, .slice A len c]] w (Done10 w S J' [] 0 E) := by
  have kW : Keeps w (((w.alloc (.cells #[.int .i64 0, .string sv, .int .i64 k, .slice A len c] 52)).alloc (.cells #[.slice none 0 0, .int .i64 0, .int .i64 0] 65)).alloc (.cells #[.slice none 0 0, .int .i64 0, .int .i64 0] 65)) := keeps_trans (keeps_trans (keeps_alloc _ _) (keeps_alloc _ _)) (keeps_alloc _ _)
  have hs3 : ((((w.alloc (.cells #[.int .i64 0, .string sv, .int .i64 k, .slice A len c] 52)).alloc (.cells #[.slice none 0 0, .int .i64 0, .int .i64 0] 65)).alloc (.cells #[.slice none 0 0, .int .i64 0, .int .i64 0] 65))).heap.size = w.heap.size + 3 := by simp
  have B1 := box_mid10 w (.cells #[.int .i64 0, .string sv, .int .i64 k, .slice A len c] 52) 65 #[.slice none 0 0, .int .i64 0, .int .i64 0] (.cells #[.slice none 0 0, .int .i64 0, .int .i64 0] 65)
  have B2 := box_third10 w (.cells #[.int .i64 0, .string sv, .int .i64 k, .slice A len c] 52) (.cells #[.slice none 0 0, .int .i64 0, .int .i64 0] 65) 65 #[.slice none 0 0, .int .i64 0, .int .i64 0]
  have CC := Lib.hid (C _ kW)
  have HL := Lib.hid hL
  have FIN := Lib.hid (fun w1 W4 S' => done10 (W4 := W4) (w1 := w1) (S' := S') st hL hw0 kW hs3)
  clear C hL hs3
  go_enter Tryz.func26, Tryz.ntmps26
  go_wp2_with fail
  refine CC.out.mono ?_
  rintro e w1 ⟨rfl, S', hJ, hT⟩
  have n1 : ¬ S (w.heap.size + 1) := fun e => by have := HL.out _ e; omega
  have n2 : ¬ S (w.heap.size + 1 + 1) := fun e => by have := HL.out _ e; omega
  have X1 := B1.turned hT n1
  have X2 := B2.turned hT n2
  have c10 := X1.cell 0 rfl
  have c11 := X1.cell 1 rfl
  have c12 := X1.cell 2 rfl
  have f10 := X1.frozen 0
  have f11 := X1.frozen 1
  have f12 := X1.frozen 2
  have c20 := X2.cell 0 rfl
  have c21 := X2.cell 1 rfl
  have c22 := X2.cell 2 rfl
  have f20 := X2.frozen 0
  have f21 := X2.frozen 1
  have f22 := X2.frozen 2
  have HJ := Lib.hid hJ
  have HT := Lib.hid hT
  clear hJ hT n1 n2
  have XB : Box ((((w1.setCell ⟨w.heap.size + 1 + 1, 2, none⟩ (.int .i64 E)).setCell ⟨w.heap.size + 1, 0, none⟩ (.slice none 0 0)).setCell ⟨w.heap.size + 1, 1, none⟩ (.int .i64 0)).setCell ⟨w.heap.size + 1, 2, none⟩ (.int .i64 E)) (w.heap.size + 1) 65 #[.slice none 0 0, .int .i64 0, .int .i64 E] := by simpa using ((((X1.far (p := ⟨w.heap.size + 1 + 1, 2, none⟩) (show w.heap.size + 1 ≠ w.heap.size + 1 + 1 by omega) (.int .i64 E)).set 0 (.slice none 0 0)).set 1 (.int .i64 0)).set 2 (.int .i64 E))
  have XO : Only w1 ((((w1.setCell ⟨w.heap.size + 1 + 1, 2, none⟩ (.int .i64 E)).setCell ⟨w.heap.size + 1, 0, none⟩ (.slice none 0 0)).setCell ⟨w.heap.size + 1, 1, none⟩ (.int .i64 0)).setCell ⟨w.heap.size + 1, 2, none⟩ (.int .i64 E)) (fun i => w.heap.size ≤ i ∧ i < w.heap.size + 3) := only_xt w1 w.heap.size (w.heap.size + 3) [((⟨w.heap.size + 1 + 1, 2, none⟩ : Addr), (.int .i64 E : Value)), (⟨w.heap.size + 1, 0, none⟩, .slice none 0 0), (⟨w.heap.size + 1, 1, none⟩, .int .i64 0), (⟨w.heap.size + 1, 2, none⟩, .int .i64 E)] (by intro p hp; simp only [List.mem_cons, List.not_mem_nil, or_false] at hp; rcases hp with rfl | rfl | rfl | rfl <;> simp only <;> omega)
  have XB := Lib.hid XB
  have XO := Lib.hid XO
  clear X1 X2 B1 B2
  go_wp2_with fail
  have d0 := XB.out.cell 0 rfl
  have d1 := XB.out.cell 1 rfl
  have d2 := XB.out.cell 2 rfl
  refine bodyPost_ret (v := .agg #[.slice none 0 0, .int .i64 0, .int .i64 E]) (by simp [results, Tryz.results26, go_sem, d0, d1, d2]) rfl ?_
  exact ⟨_, S', rfl, Own.nil _ _ _ _, (FIN.out w1 _ S' HJ.out HT.out XO.out).1, (FIN.out w1 _ S' HJ.out HT.out XO.out).2, fun g hg => by cases hg⟩
set_option maxHeartbeats 8000000 in
theorem does10_drop (st : Stay w0 J') (hL : ∀ i, S i → i < w.heap.size) (hw0 : w0.heap.size ≤ w.heap.size) (pv dv : Value) (sv : ByteArray) (k : Int) (A : Option Addr) (len c : Nat) (E : Int)
    (C : ∀ W, Keeps w W → Calls Tryz.prog 39 #[pv, .string sv] W fun e w' => e = .returned (.int .i64 E) ∧ ∃ S', J' S' w' ∧ Turns W w' S S') :
    Calls Tryz.prog 26 #[pv, dv, .agg #[.int .i64 1, .string sv, .int .i64 k, .slice A len c]] w (Done10 w S J' [] 0 E) := by
  have kW : Keeps w (((w.alloc (.cells #[.int .i64 1, .string sv, .int .i64 k, .slice A len c] 52)).alloc (.cells #[.slice none 0 0, .int .i64 0, .int .i64 0] 65)).alloc (.cells #[.slice none 0 0, .int .i64 0, .int .i64 0] 65)) := keeps_trans (keeps_trans (keeps_alloc _ _) (keeps_alloc _ _)) (keeps_alloc _ _)
  have hs3 : ((((w.alloc (.cells #[.int .i64 1, .string sv, .int .i64 k, .slice A len c] 52)).alloc (.cells #[.slice none 0 0, .int .i64 0, .int .i64 0] 65)).alloc (.cells #[.slice none 0 0, .int .i64 0, .int .i64 0] 65))).heap.size = w.heap.size + 3 := by simp
  have B1 := box_mid10 w (.cells #[.int .i64 1, .string sv, .int .i64 k, .slice A len c] 52) 65 #[.slice none 0 0, .int .i64 0, .int .i64 0] (.cells #[.slice none 0 0, .int .i64 0, .int .i64 0] 65)
  have B2 := box_third10 w (.cells #[.int .i64 1, .string sv, .int .i64 k, .slice A len c] 52) (.cells #[.slice none 0 0, .int .i64 0, .int .i64 0] 65) 65 #[.slice none 0 0, .int .i64 0, .int .i64 0]
  have CC := Lib.hid (C _ kW)
  have HL := Lib.hid hL
  have FIN := Lib.hid (fun w1 W4 S' => done10 (W4 := W4) (w1 := w1) (S' := S') st hL hw0 kW hs3)
  clear C hL hs3
  go_enter Tryz.func26, Tryz.ntmps26
  go_wp2_with fail
  refine CC.out.mono ?_
  rintro e w1 ⟨rfl, S', hJ, hT⟩
  have n1 : ¬ S (w.heap.size + 1) := fun e => by have := HL.out _ e; omega
  have n2 : ¬ S (w.heap.size + 1 + 1) := fun e => by have := HL.out _ e; omega
  have X1 := B1.turned hT n1
  have X2 := B2.turned hT n2
  have c10 := X1.cell 0 rfl
  have c11 := X1.cell 1 rfl
  have c12 := X1.cell 2 rfl
  have f10 := X1.frozen 0
  have f11 := X1.frozen 1
  have f12 := X1.frozen 2
  have c20 := X2.cell 0 rfl
  have c21 := X2.cell 1 rfl
  have c22 := X2.cell 2 rfl
  have f20 := X2.frozen 0
  have f21 := X2.frozen 1
  have f22 := X2.frozen 2
  have HJ := Lib.hid hJ
  have HT := Lib.hid hT
  clear hJ hT n1 n2
  have XB : Box ((((w1.setCell ⟨w.heap.size + 1 + 1, 2, none⟩ (.int .i64 E)).setCell ⟨w.heap.size + 1, 0, none⟩ (.slice none 0 0)).setCell ⟨w.heap.size + 1, 1, none⟩ (.int .i64 0)).setCell ⟨w.heap.size + 1, 2, none⟩ (.int .i64 E)) (w.heap.size + 1) 65 #[.slice none 0 0, .int .i64 0, .int .i64 E] := by simpa using ((((X1.far (p := ⟨w.heap.size + 1 + 1, 2, none⟩) (show w.heap.size + 1 ≠ w.heap.size + 1 + 1 by omega) (.int .i64 E)).set 0 (.slice none 0 0)).set 1 (.int .i64 0)).set 2 (.int .i64 E))
  have XO : Only w1 ((((w1.setCell ⟨w.heap.size + 1 + 1, 2, none⟩ (.int .i64 E)).setCell ⟨w.heap.size + 1, 0, none⟩ (.slice none 0 0)).setCell ⟨w.heap.size + 1, 1, none⟩ (.int .i64 0)).setCell ⟨w.heap.size + 1, 2, none⟩ (.int .i64 E)) (fun i => w.heap.size ≤ i ∧ i < w.heap.size + 3) := only_xt w1 w.heap.size (w.heap.size + 3) [((⟨w.heap.size + 1 + 1, 2, none⟩ : Addr), (.int .i64 E : Value)), (⟨w.heap.size + 1, 0, none⟩, .slice none 0 0), (⟨w.heap.size + 1, 1, none⟩, .int .i64 0), (⟨w.heap.size + 1, 2, none⟩, .int .i64 E)] (by intro p hp; simp only [List.mem_cons, List.not_mem_nil, or_false] at hp; rcases hp with rfl | rfl | rfl | rfl <;> simp only <;> omega)
  have XB := Lib.hid XB
  have XO := Lib.hid XO
  clear X1 X2 B1 B2
  go_wp2_with fail
  have d0 := XB.out.cell 0 rfl
  have d1 := XB.out.cell 1 rfl
  have d2 := XB.out.cell 2 rfl
  refine bodyPost_ret (v := .agg #[.slice none 0 0, .int .i64 0, .int .i64 E]) (by simp [results, Tryz.results26, go_sem, d0, d1, d2]) rfl ?_
  exact ⟨_, S', rfl, Own.nil _ _ _ _, (FIN.out w1 _ S' HJ.out HT.out XO.out).1, (FIN.out w1 _ S' HJ.out HT.out XO.out).2, fun g hg => by cases hg⟩
set_option maxHeartbeats 8000000 in
theorem does10_unpin (st : Stay w0 J') (hL : ∀ i, S i → i < w.heap.size) (hw0 : w0.heap.size ≤ w.heap.size) (pv dv : Value) (sv : ByteArray) (k : Int) (A : Option Addr) (len c : Nat) (E : Int)
    (C : ∀ W, Keeps w W → Calls Tryz.prog 67 #[pv, .string sv, .int .i64 k] W fun e w' => e = .returned (.int .i64 E) ∧ ∃ S', J' S' w' ∧ Turns W w' S S') :
    Calls Tryz.prog 26 #[pv, dv, .agg #[.int .i64 4, .string sv, .int .i64 k, .slice A len c]] w (Done10 w S J' [] 0 E) := by
  have kW : Keeps w (((w.alloc (.cells #[.int .i64 4, .string sv, .int .i64 k, .slice A len c] 52)).alloc (.cells #[.slice none 0 0, .int .i64 0, .int .i64 0] 65)).alloc (.cells #[.slice none 0 0, .int .i64 0, .int .i64 0] 65)) := keeps_trans (keeps_trans (keeps_alloc _ _) (keeps_alloc _ _)) (keeps_alloc _ _)
  have hs3 : ((((w.alloc (.cells #[.int .i64 4, .string sv, .int .i64 k, .slice A len c] 52)).alloc (.cells #[.slice none 0 0, .int .i64 0, .int .i64 0] 65)).alloc (.cells #[.slice none 0 0, .int .i64 0, .int .i64 0] 65))).heap.size = w.heap.size + 3 := by simp
  have B1 := box_mid10 w (.cells #[.int .i64 4, .string sv, .int .i64 k, .slice A len c] 52) 65 #[.slice none 0 0, .int .i64 0, .int .i64 0] (.cells #[.slice none 0 0, .int .i64 0, .int .i64 0] 65)
  have B2 := box_third10 w (.cells #[.int .i64 4, .string sv, .int .i64 k, .slice A len c] 52) (.cells #[.slice none 0 0, .int .i64 0, .int .i64 0] 65) 65 #[.slice none 0 0, .int .i64 0, .int .i64 0]
  have CC := Lib.hid (C _ kW)
  have HL := Lib.hid hL
  have FIN := Lib.hid (fun w1 W4 S' => done10 (W4 := W4) (w1 := w1) (S' := S') st hL hw0 kW hs3)
  clear C hL hs3
  go_enter Tryz.func26, Tryz.ntmps26
  go_wp2_with fail
  refine CC.out.mono ?_
  rintro e w1 ⟨rfl, S', hJ, hT⟩
  have n1 : ¬ S (w.heap.size + 1) := fun e => by have := HL.out _ e; omega
  have n2 : ¬ S (w.heap.size + 1 + 1) := fun e => by have := HL.out _ e; omega
  have X1 := B1.turned hT n1
  have X2 := B2.turned hT n2
  have c10 := X1.cell 0 rfl
  have c11 := X1.cell 1 rfl
  have c12 := X1.cell 2 rfl
  have f10 := X1.frozen 0
  have f11 := X1.frozen 1
  have f12 := X1.frozen 2
  have c20 := X2.cell 0 rfl
  have c21 := X2.cell 1 rfl
  have c22 := X2.cell 2 rfl
  have f20 := X2.frozen 0
  have f21 := X2.frozen 1
  have f22 := X2.frozen 2
  have HJ := Lib.hid hJ
  have HT := Lib.hid hT
  clear hJ hT n1 n2
  have XB : Box ((((w1.setCell ⟨w.heap.size + 1 + 1, 2, none⟩ (.int .i64 E)).setCell ⟨w.heap.size + 1, 0, none⟩ (.slice none 0 0)).setCell ⟨w.heap.size + 1, 1, none⟩ (.int .i64 0)).setCell ⟨w.heap.size + 1, 2, none⟩ (.int .i64 E)) (w.heap.size + 1) 65 #[.slice none 0 0, .int .i64 0, .int .i64 E] := by simpa using ((((X1.far (p := ⟨w.heap.size + 1 + 1, 2, none⟩) (show w.heap.size + 1 ≠ w.heap.size + 1 + 1 by omega) (.int .i64 E)).set 0 (.slice none 0 0)).set 1 (.int .i64 0)).set 2 (.int .i64 E))
  have XO : Only w1 ((((w1.setCell ⟨w.heap.size + 1 + 1, 2, none⟩ (.int .i64 E)).setCell ⟨w.heap.size + 1, 0, none⟩ (.slice none 0 0)).setCell ⟨w.heap.size + 1, 1, none⟩ (.int .i64 0)).setCell ⟨w.heap.size + 1, 2, none⟩ (.int .i64 E)) (fun i => w.heap.size ≤ i ∧ i < w.heap.size + 3) := only_xt w1 w.heap.size (w.heap.size + 3) [((⟨w.heap.size + 1 + 1, 2, none⟩ : Addr), (.int .i64 E : Value)), (⟨w.heap.size + 1, 0, none⟩, .slice none 0 0), (⟨w.heap.size + 1, 1, none⟩, .int .i64 0), (⟨w.heap.size + 1, 2, none⟩, .int .i64 E)] (by intro p hp; simp only [List.mem_cons, List.not_mem_nil, or_false] at hp; rcases hp with rfl | rfl | rfl | rfl <;> simp only <;> omega)
  have XB := Lib.hid XB
  have XO := Lib.hid XO
  clear X1 X2 B1 B2
  go_wp2_with fail
  have d0 := XB.out.cell 0 rfl
  have d1 := XB.out.cell 1 rfl
  have d2 := XB.out.cell 2 rfl
  refine bodyPost_ret (v := .agg #[.slice none 0 0, .int .i64 0, .int .i64 E]) (by simp [results, Tryz.results26, go_sem, d0, d1, d2]) rfl ?_
  exact ⟨_, S', rfl, Own.nil _ _ _ _, (FIN.out w1 _ S' HJ.out HT.out XO.out).1, (FIN.out w1 _ S' HJ.out HT.out XO.out).2, fun g hg => by cases hg⟩
set_option maxHeartbeats 8000000 in
theorem does10_flush (st : Stay w0 J') (hL : ∀ i, S i → i < w.heap.size) (hw0 : w0.heap.size ≤ w.heap.size) (pv dv : Value) (sv : ByteArray) (k : Int) (A : Option Addr) (len c : Nat) (E : Int)
    (C : ∀ W, Keeps w W → Calls Tryz.prog 30 #[pv, .string sv] W fun e w' => e = .returned (.int .i64 E) ∧ ∃ S', J' S' w' ∧ Turns W w' S S') :
    Calls Tryz.prog 26 #[pv, dv, .agg #[.int .i64 7, .string sv, .int .i64 k, .slice A len c]] w (Done10 w S J' [] 0 E) := by
  have kW : Keeps w (((w.alloc (.cells #[.int .i64 7, .string sv, .int .i64 k, .slice A len c] 52)).alloc (.cells #[.slice none 0 0, .int .i64 0, .int .i64 0] 65)).alloc (.cells #[.slice none 0 0, .int .i64 0, .int .i64 0] 65)) := keeps_trans (keeps_trans (keeps_alloc _ _) (keeps_alloc _ _)) (keeps_alloc _ _)
  have hs3 : ((((w.alloc (.cells #[.int .i64 7, .string sv, .int .i64 k, .slice A len c] 52)).alloc (.cells #[.slice none 0 0, .int .i64 0, .int .i64 0] 65)).alloc (.cells #[.slice none 0 0, .int .i64 0, .int .i64 0] 65))).heap.size = w.heap.size + 3 := by simp
  have B1 := box_mid10 w (.cells #[.int .i64 7, .string sv, .int .i64 k, .slice A len c] 52) 65 #[.slice none 0 0, .int .i64 0, .int .i64 0] (.cells #[.slice none 0 0, .int .i64 0, .int .i64 0] 65)
  have B2 := box_third10 w (.cells #[.int .i64 7, .string sv, .int .i64 k, .slice A len c] 52) (.cells #[.slice none 0 0, .int .i64 0, .int .i64 0] 65) 65 #[.slice none 0 0, .int .i64 0, .int .i64 0]
  have CC := Lib.hid (C _ kW)
  have HL := Lib.hid hL
  have FIN := Lib.hid (fun w1 W4 S' => done10 (W4 := W4) (w1 := w1) (S' := S') st hL hw0 kW hs3)
  clear C hL hs3
  go_enter Tryz.func26, Tryz.ntmps26
  go_wp2_with fail
  refine CC.out.mono ?_
  rintro e w1 ⟨rfl, S', hJ, hT⟩
  have n1 : ¬ S (w.heap.size + 1) := fun e => by have := HL.out _ e; omega
  have n2 : ¬ S (w.heap.size + 1 + 1) := fun e => by have := HL.out _ e; omega
  have X1 := B1.turned hT n1
  have X2 := B2.turned hT n2
  have c10 := X1.cell 0 rfl
  have c11 := X1.cell 1 rfl
  have c12 := X1.cell 2 rfl
  have f10 := X1.frozen 0
  have f11 := X1.frozen 1
  have f12 := X1.frozen 2
  have c20 := X2.cell 0 rfl
  have c21 := X2.cell 1 rfl
  have c22 := X2.cell 2 rfl
  have f20 := X2.frozen 0
  have f21 := X2.frozen 1
  have f22 := X2.frozen 2
  have HJ := Lib.hid hJ
  have HT := Lib.hid hT
  clear hJ hT n1 n2
  have XB : Box ((((w1.setCell ⟨w.heap.size + 1 + 1, 2, none⟩ (.int .i64 E)).setCell ⟨w.heap.size + 1, 0, none⟩ (.slice none 0 0)).setCell ⟨w.heap.size + 1, 1, none⟩ (.int .i64 0)).setCell ⟨w.heap.size + 1, 2, none⟩ (.int .i64 E)) (w.heap.size + 1) 65 #[.slice none 0 0, .int .i64 0, .int .i64 E] := by simpa using ((((X1.far (p := ⟨w.heap.size + 1 + 1, 2, none⟩) (show w.heap.size + 1 ≠ w.heap.size + 1 + 1 by omega) (.int .i64 E)).set 0 (.slice none 0 0)).set 1 (.int .i64 0)).set 2 (.int .i64 E))
  have XO : Only w1 ((((w1.setCell ⟨w.heap.size + 1 + 1, 2, none⟩ (.int .i64 E)).setCell ⟨w.heap.size + 1, 0, none⟩ (.slice none 0 0)).setCell ⟨w.heap.size + 1, 1, none⟩ (.int .i64 0)).setCell ⟨w.heap.size + 1, 2, none⟩ (.int .i64 E)) (fun i => w.heap.size ≤ i ∧ i < w.heap.size + 3) := only_xt w1 w.heap.size (w.heap.size + 3) [((⟨w.heap.size + 1 + 1, 2, none⟩ : Addr), (.int .i64 E : Value)), (⟨w.heap.size + 1, 0, none⟩, .slice none 0 0), (⟨w.heap.size + 1, 1, none⟩, .int .i64 0), (⟨w.heap.size + 1, 2, none⟩, .int .i64 E)] (by intro p hp; simp only [List.mem_cons, List.not_mem_nil, or_false] at hp; rcases hp with rfl | rfl | rfl | rfl <;> simp only <;> omega)
  have XB := Lib.hid XB
  have XO := Lib.hid XO
  clear X1 X2 B1 B2
  go_wp2_with fail
  have d0 := XB.out.cell 0 rfl
  have d1 := XB.out.cell 1 rfl
  have d2 := XB.out.cell 2 rfl
  refine bodyPost_ret (v := .agg #[.slice none 0 0, .int .i64 0, .int .i64 E]) (by simp [results, Tryz.results26, go_sem, d0, d1, d2]) rfl ?_
  exact ⟨_, S', rfl, Own.nil _ _ _ _, (FIN.out w1 _ S' HJ.out HT.out XO.out).1, (FIN.out w1 _ S' HJ.out HT.out XO.out).2, fun g hg => by cases hg⟩
set_option maxHeartbeats 8000000 in
theorem does10_quota (st : Stay w0 J') (hL : ∀ i, S i → i < w.heap.size) (hw0 : w0.heap.size ≤ w.heap.size) (pv dv : Value) (sv : ByteArray) (k : Int) (A : Option Addr) (len c : Nat) (E : Int)
    (C : ∀ W, Keeps w W → Calls Tryz.prog 68 #[dv, .int .i64 k] W fun e w' => e = .returned (.int .i64 E) ∧ ∃ S', J' S' w' ∧ Turns W w' S S') :
    Calls Tryz.prog 26 #[pv, dv, .agg #[.int .i64 8, .string sv, .int .i64 k, .slice A len c]] w (Done10 w S J' [] 0 E) := by
  have kW : Keeps w (((w.alloc (.cells #[.int .i64 8, .string sv, .int .i64 k, .slice A len c] 52)).alloc (.cells #[.slice none 0 0, .int .i64 0, .int .i64 0] 65)).alloc (.cells #[.slice none 0 0, .int .i64 0, .int .i64 0] 65)) := keeps_trans (keeps_trans (keeps_alloc _ _) (keeps_alloc _ _)) (keeps_alloc _ _)
  have hs3 : ((((w.alloc (.cells #[.int .i64 8, .string sv, .int .i64 k, .slice A len c] 52)).alloc (.cells #[.slice none 0 0, .int .i64 0, .int .i64 0] 65)).alloc (.cells #[.slice none 0 0, .int .i64 0, .int .i64 0] 65))).heap.size = w.heap.size + 3 := by simp
  have B1 := box_mid10 w (.cells #[.int .i64 8, .string sv, .int .i64 k, .slice A len c] 52) 65 #[.slice none 0 0, .int .i64 0, .int .i64 0] (.cells #[.slice none 0 0, .int .i64 0, .int .i64 0] 65)
  have B2 := box_third10 w (.cells #[.int .i64 8, .string sv, .int .i64 k, .slice A len c] 52) (.cells #[.slice none 0 0, .int .i64 0, .int .i64 0] 65) 65 #[.slice none 0 0, .int .i64 0, .int .i64 0]
  have CC := Lib.hid (C _ kW)
  have HL := Lib.hid hL
  have FIN := Lib.hid (fun w1 W4 S' => done10 (W4 := W4) (w1 := w1) (S' := S') st hL hw0 kW hs3)
  clear C hL hs3
  go_enter Tryz.func26, Tryz.ntmps26
  go_wp2_with fail
  refine CC.out.mono ?_
  rintro e w1 ⟨rfl, S', hJ, hT⟩
  have n1 : ¬ S (w.heap.size + 1) := fun e => by have := HL.out _ e; omega
  have n2 : ¬ S (w.heap.size + 1 + 1) := fun e => by have := HL.out _ e; omega
  have X1 := B1.turned hT n1
  have X2 := B2.turned hT n2
  have c10 := X1.cell 0 rfl
  have c11 := X1.cell 1 rfl
  have c12 := X1.cell 2 rfl
  have f10 := X1.frozen 0
  have f11 := X1.frozen 1
  have f12 := X1.frozen 2
  have c20 := X2.cell 0 rfl
  have c21 := X2.cell 1 rfl
  have c22 := X2.cell 2 rfl
  have f20 := X2.frozen 0
  have f21 := X2.frozen 1
  have f22 := X2.frozen 2
  have HJ := Lib.hid hJ
  have HT := Lib.hid hT
  clear hJ hT n1 n2
  have XB : Box ((((w1.setCell ⟨w.heap.size + 1 + 1, 2, none⟩ (.int .i64 E)).setCell ⟨w.heap.size + 1, 0, none⟩ (.slice none 0 0)).setCell ⟨w.heap.size + 1, 1, none⟩ (.int .i64 0)).setCell ⟨w.heap.size + 1, 2, none⟩ (.int .i64 E)) (w.heap.size + 1) 65 #[.slice none 0 0, .int .i64 0, .int .i64 E] := by simpa using ((((X1.far (p := ⟨w.heap.size + 1 + 1, 2, none⟩) (show w.heap.size + 1 ≠ w.heap.size + 1 + 1 by omega) (.int .i64 E)).set 0 (.slice none 0 0)).set 1 (.int .i64 0)).set 2 (.int .i64 E))
  have XO : Only w1 ((((w1.setCell ⟨w.heap.size + 1 + 1, 2, none⟩ (.int .i64 E)).setCell ⟨w.heap.size + 1, 0, none⟩ (.slice none 0 0)).setCell ⟨w.heap.size + 1, 1, none⟩ (.int .i64 0)).setCell ⟨w.heap.size + 1, 2, none⟩ (.int .i64 E)) (fun i => w.heap.size ≤ i ∧ i < w.heap.size + 3) := only_xt w1 w.heap.size (w.heap.size + 3) [((⟨w.heap.size + 1 + 1, 2, none⟩ : Addr), (.int .i64 E : Value)), (⟨w.heap.size + 1, 0, none⟩, .slice none 0 0), (⟨w.heap.size + 1, 1, none⟩, .int .i64 0), (⟨w.heap.size + 1, 2, none⟩, .int .i64 E)] (by intro p hp; simp only [List.mem_cons, List.not_mem_nil, or_false] at hp; rcases hp with rfl | rfl | rfl | rfl <;> simp only <;> omega)
  have XB := Lib.hid XB
  have XO := Lib.hid XO
  clear X1 X2 B1 B2
  go_wp2_with fail
  have d0 := XB.out.cell 0 rfl
  have d1 := XB.out.cell 1 rfl
  have d2 := XB.out.cell 2 rfl
  refine bodyPost_ret (v := .agg #[.slice none 0 0, .int .i64 0, .int .i64 E]) (by simp [results, Tryz.results26, go_sem, d0, d1, d2]) rfl ?_
  exact ⟨_, S', rfl, Own.nil _ _ _ _, (FIN.out w1 _ S' HJ.out HT.out XO.out).1, (FIN.out w1 _ S' HJ.out HT.out XO.out).2, fun g hg => by cases hg⟩
set_option maxHeartbeats 8000000 in
theorem does10_arm (st : Stay w0 J') (hL : ∀ i, S i → i < w.heap.size) (hw0 : w0.heap.size ≤ w.heap.size) (pv dv : Value) (sv : ByteArray) (k : Int) (A : Option Addr) (len c : Nat) (E : Int)
    (C : ∀ W, Keeps w W → Calls Tryz.prog 34 #[dv, .int .i64 k] W fun e w' => e = .returned (.int .i64 E) ∧ ∃ S', J' S' w' ∧ Turns W w' S S') :
    Calls Tryz.prog 26 #[pv, dv, .agg #[.int .i64 9, .string sv, .int .i64 k, .slice A len c]] w (Done10 w S J' [] 0 E) := by
  have kW : Keeps w (((w.alloc (.cells #[.int .i64 9, .string sv, .int .i64 k, .slice A len c] 52)).alloc (.cells #[.slice none 0 0, .int .i64 0, .int .i64 0] 65)).alloc (.cells #[.slice none 0 0, .int .i64 0, .int .i64 0] 65)) := keeps_trans (keeps_trans (keeps_alloc _ _) (keeps_alloc _ _)) (keeps_alloc _ _)
  have hs3 : ((((w.alloc (.cells #[.int .i64 9, .string sv, .int .i64 k, .slice A len c] 52)).alloc (.cells #[.slice none 0 0, .int .i64 0, .int .i64 0] 65)).alloc (.cells #[.slice none 0 0, .int .i64 0, .int .i64 0] 65))).heap.size = w.heap.size + 3 := by simp
  have B1 := box_mid10 w (.cells #[.int .i64 9, .string sv, .int .i64 k, .slice A len c] 52) 65 #[.slice none 0 0, .int .i64 0, .int .i64 0] (.cells #[.slice none 0 0, .int .i64 0, .int .i64 0] 65)
  have B2 := box_third10 w (.cells #[.int .i64 9, .string sv, .int .i64 k, .slice A len c] 52) (.cells #[.slice none 0 0, .int .i64 0, .int .i64 0] 65) 65 #[.slice none 0 0, .int .i64 0, .int .i64 0]
  have CC := Lib.hid (C _ kW)
  have HL := Lib.hid hL
  have FIN := Lib.hid (fun w1 W4 S' => done10 (W4 := W4) (w1 := w1) (S' := S') st hL hw0 kW hs3)
  clear C hL hs3
  go_enter Tryz.func26, Tryz.ntmps26
  go_wp2_with fail
  refine CC.out.mono ?_
  rintro e w1 ⟨rfl, S', hJ, hT⟩
  have n1 : ¬ S (w.heap.size + 1) := fun e => by have := HL.out _ e; omega
  have n2 : ¬ S (w.heap.size + 1 + 1) := fun e => by have := HL.out _ e; omega
  have X1 := B1.turned hT n1
  have X2 := B2.turned hT n2
  have c10 := X1.cell 0 rfl
  have c11 := X1.cell 1 rfl
  have c12 := X1.cell 2 rfl
  have f10 := X1.frozen 0
  have f11 := X1.frozen 1
  have f12 := X1.frozen 2
  have c20 := X2.cell 0 rfl
  have c21 := X2.cell 1 rfl
  have c22 := X2.cell 2 rfl
  have f20 := X2.frozen 0
  have f21 := X2.frozen 1
  have f22 := X2.frozen 2
  have HJ := Lib.hid hJ
  have HT := Lib.hid hT
  clear hJ hT n1 n2
  have XB : Box ((((w1.setCell ⟨w.heap.size + 1 + 1, 2, none⟩ (.int .i64 E)).setCell ⟨w.heap.size + 1, 0, none⟩ (.slice none 0 0)).setCell ⟨w.heap.size + 1, 1, none⟩ (.int .i64 0)).setCell ⟨w.heap.size + 1, 2, none⟩ (.int .i64 E)) (w.heap.size + 1) 65 #[.slice none 0 0, .int .i64 0, .int .i64 E] := by simpa using ((((X1.far (p := ⟨w.heap.size + 1 + 1, 2, none⟩) (show w.heap.size + 1 ≠ w.heap.size + 1 + 1 by omega) (.int .i64 E)).set 0 (.slice none 0 0)).set 1 (.int .i64 0)).set 2 (.int .i64 E))
  have XO : Only w1 ((((w1.setCell ⟨w.heap.size + 1 + 1, 2, none⟩ (.int .i64 E)).setCell ⟨w.heap.size + 1, 0, none⟩ (.slice none 0 0)).setCell ⟨w.heap.size + 1, 1, none⟩ (.int .i64 0)).setCell ⟨w.heap.size + 1, 2, none⟩ (.int .i64 E)) (fun i => w.heap.size ≤ i ∧ i < w.heap.size + 3) := only_xt w1 w.heap.size (w.heap.size + 3) [((⟨w.heap.size + 1 + 1, 2, none⟩ : Addr), (.int .i64 E : Value)), (⟨w.heap.size + 1, 0, none⟩, .slice none 0 0), (⟨w.heap.size + 1, 1, none⟩, .int .i64 0), (⟨w.heap.size + 1, 2, none⟩, .int .i64 E)] (by intro p hp; simp only [List.mem_cons, List.not_mem_nil, or_false] at hp; rcases hp with rfl | rfl | rfl | rfl <;> simp only <;> omega)
  have XB := Lib.hid XB
  have XO := Lib.hid XO
  clear X1 X2 B1 B2
  go_wp2_with fail
  have d0 := XB.out.cell 0 rfl
  have d1 := XB.out.cell 1 rfl
  have d2 := XB.out.cell 2 rfl
  refine bodyPost_ret (v := .agg #[.slice none 0 0, .int .i64 0, .int .i64 E]) (by simp [results, Tryz.results26, go_sem, d0, d1, d2]) rfl ?_
  exact ⟨_, S', rfl, Own.nil _ _ _ _, (FIN.out w1 _ S' HJ.out HT.out XO.out).1, (FIN.out w1 _ S' HJ.out HT.out XO.out).2, fun g hg => by cases hg⟩
set_option maxHeartbeats 8000000 in
theorem does10_on (st : Stay w0 J') (hL : ∀ i, S i → i < w.heap.size) (hw0 : w0.heap.size ≤ w.heap.size) (pv dv : Value) (sv : ByteArray) (k : Int) (A : Option Addr) (len c : Nat) (E : Int)
    (C : ∀ W, Keeps w W → Calls Tryz.prog 36 #[dv, .slice none 0 0] W fun e w' => e = .returned (.int .i64 E) ∧ ∃ S', J' S' w' ∧ Turns W w' S S') :
    Calls Tryz.prog 26 #[pv, dv, .agg #[.int .i64 10, .string sv, .int .i64 k, .slice A len c]] w (Done10 w S J' [] 0 E) := by
  have kW : Keeps w (((w.alloc (.cells #[.int .i64 10, .string sv, .int .i64 k, .slice A len c] 52)).alloc (.cells #[.slice none 0 0, .int .i64 0, .int .i64 0] 65)).alloc (.cells #[.slice none 0 0, .int .i64 0, .int .i64 0] 65)) := keeps_trans (keeps_trans (keeps_alloc _ _) (keeps_alloc _ _)) (keeps_alloc _ _)
  have hs3 : ((((w.alloc (.cells #[.int .i64 10, .string sv, .int .i64 k, .slice A len c] 52)).alloc (.cells #[.slice none 0 0, .int .i64 0, .int .i64 0] 65)).alloc (.cells #[.slice none 0 0, .int .i64 0, .int .i64 0] 65))).heap.size = w.heap.size + 3 := by simp
  have B1 := box_mid10 w (.cells #[.int .i64 10, .string sv, .int .i64 k, .slice A len c] 52) 65 #[.slice none 0 0, .int .i64 0, .int .i64 0] (.cells #[.slice none 0 0, .int .i64 0, .int .i64 0] 65)
  have B2 := box_third10 w (.cells #[.int .i64 10, .string sv, .int .i64 k, .slice A len c] 52) (.cells #[.slice none 0 0, .int .i64 0, .int .i64 0] 65) 65 #[.slice none 0 0, .int .i64 0, .int .i64 0]
  have CC := Lib.hid (C _ kW)
  have HL := Lib.hid hL
  have FIN := Lib.hid (fun w1 W4 S' => done10 (W4 := W4) (w1 := w1) (S' := S') st hL hw0 kW hs3)
  clear C hL hs3
  go_enter Tryz.func26, Tryz.ntmps26
  go_wp2_with fail
  refine CC.out.mono ?_
  rintro e w1 ⟨rfl, S', hJ, hT⟩
  have n1 : ¬ S (w.heap.size + 1) := fun e => by have := HL.out _ e; omega
  have n2 : ¬ S (w.heap.size + 1 + 1) := fun e => by have := HL.out _ e; omega
  have X1 := B1.turned hT n1
  have X2 := B2.turned hT n2
  have c10 := X1.cell 0 rfl
  have c11 := X1.cell 1 rfl
  have c12 := X1.cell 2 rfl
  have f10 := X1.frozen 0
  have f11 := X1.frozen 1
  have f12 := X1.frozen 2
  have c20 := X2.cell 0 rfl
  have c21 := X2.cell 1 rfl
  have c22 := X2.cell 2 rfl
  have f20 := X2.frozen 0
  have f21 := X2.frozen 1
  have f22 := X2.frozen 2
  have HJ := Lib.hid hJ
  have HT := Lib.hid hT
  clear hJ hT n1 n2
  have XB : Box ((((w1.setCell ⟨w.heap.size + 1 + 1, 2, none⟩ (.int .i64 E)).setCell ⟨w.heap.size + 1, 0, none⟩ (.slice none 0 0)).setCell ⟨w.heap.size + 1, 1, none⟩ (.int .i64 0)).setCell ⟨w.heap.size + 1, 2, none⟩ (.int .i64 E)) (w.heap.size + 1) 65 #[.slice none 0 0, .int .i64 0, .int .i64 E] := by simpa using ((((X1.far (p := ⟨w.heap.size + 1 + 1, 2, none⟩) (show w.heap.size + 1 ≠ w.heap.size + 1 + 1 by omega) (.int .i64 E)).set 0 (.slice none 0 0)).set 1 (.int .i64 0)).set 2 (.int .i64 E))
  have XO : Only w1 ((((w1.setCell ⟨w.heap.size + 1 + 1, 2, none⟩ (.int .i64 E)).setCell ⟨w.heap.size + 1, 0, none⟩ (.slice none 0 0)).setCell ⟨w.heap.size + 1, 1, none⟩ (.int .i64 0)).setCell ⟨w.heap.size + 1, 2, none⟩ (.int .i64 E)) (fun i => w.heap.size ≤ i ∧ i < w.heap.size + 3) := only_xt w1 w.heap.size (w.heap.size + 3) [((⟨w.heap.size + 1 + 1, 2, none⟩ : Addr), (.int .i64 E : Value)), (⟨w.heap.size + 1, 0, none⟩, .slice none 0 0), (⟨w.heap.size + 1, 1, none⟩, .int .i64 0), (⟨w.heap.size + 1, 2, none⟩, .int .i64 E)] (by intro p hp; simp only [List.mem_cons, List.not_mem_nil, or_false] at hp; rcases hp with rfl | rfl | rfl | rfl <;> simp only <;> omega)
  have XB := Lib.hid XB
  have XO := Lib.hid XO
  clear X1 X2 B1 B2
  go_wp2_with fail
  have d0 := XB.out.cell 0 rfl
  have d1 := XB.out.cell 1 rfl
  have d2 := XB.out.cell 2 rfl
  refine bodyPost_ret (v := .agg #[.slice none 0 0, .int .i64 0, .int .i64 E]) (by simp [results, Tryz.results26, go_sem, d0, d1, d2]) rfl ?_
  exact ⟨_, S', rfl, Own.nil _ _ _ _, (FIN.out w1 _ S' HJ.out HT.out XO.out).1, (FIN.out w1 _ S' HJ.out HT.out XO.out).2, fun g hg => by cases hg⟩
set_option maxHeartbeats 8000000 in
theorem does10_flip (st : Stay w0 J') (hL : ∀ i, S i → i < w.heap.size) (hw0 : w0.heap.size ≤ w.heap.size) (pv dv : Value) (sv : ByteArray) (k : Int) (A : Option Addr) (len c : Nat) (E : Int)
    (C : ∀ W, Keeps w W → Calls Tryz.prog 69 #[dv, .string sv, .int .i64 k, .int .u8 1] W fun e w' => e = .returned (.int .i64 E) ∧ ∃ S', J' S' w' ∧ Turns W w' S S') :
    Calls Tryz.prog 26 #[pv, dv, .agg #[.int .i64 11, .string sv, .int .i64 k, .slice A len c]] w (Done10 w S J' [] 0 E) := by
  have kW : Keeps w (((w.alloc (.cells #[.int .i64 11, .string sv, .int .i64 k, .slice A len c] 52)).alloc (.cells #[.slice none 0 0, .int .i64 0, .int .i64 0] 65)).alloc (.cells #[.slice none 0 0, .int .i64 0, .int .i64 0] 65)) := keeps_trans (keeps_trans (keeps_alloc _ _) (keeps_alloc _ _)) (keeps_alloc _ _)
  have hs3 : ((((w.alloc (.cells #[.int .i64 11, .string sv, .int .i64 k, .slice A len c] 52)).alloc (.cells #[.slice none 0 0, .int .i64 0, .int .i64 0] 65)).alloc (.cells #[.slice none 0 0, .int .i64 0, .int .i64 0] 65))).heap.size = w.heap.size + 3 := by simp
  have B1 := box_mid10 w (.cells #[.int .i64 11, .string sv, .int .i64 k, .slice A len c] 52) 65 #[.slice none 0 0, .int .i64 0, .int .i64 0] (.cells #[.slice none 0 0, .int .i64 0, .int .i64 0] 65)
  have B2 := box_third10 w (.cells #[.int .i64 11, .string sv, .int .i64 k, .slice A len c] 52) (.cells #[.slice none 0 0, .int .i64 0, .int .i64 0] 65) 65 #[.slice none 0 0, .int .i64 0, .int .i64 0]
  have CC := Lib.hid (C _ kW)
  have HL := Lib.hid hL
  have FIN := Lib.hid (fun w1 W4 S' => done10 (W4 := W4) (w1 := w1) (S' := S') st hL hw0 kW hs3)
  clear C hL hs3
  go_enter Tryz.func26, Tryz.ntmps26
  go_wp2_with fail
  refine CC.out.mono ?_
  rintro e w1 ⟨rfl, S', hJ, hT⟩
  have n1 : ¬ S (w.heap.size + 1) := fun e => by have := HL.out _ e; omega
  have n2 : ¬ S (w.heap.size + 1 + 1) := fun e => by have := HL.out _ e; omega
  have X1 := B1.turned hT n1
  have X2 := B2.turned hT n2
  have c10 := X1.cell 0 rfl
  have c11 := X1.cell 1 rfl
  have c12 := X1.cell 2 rfl
  have f10 := X1.frozen 0
  have f11 := X1.frozen 1
  have f12 := X1.frozen 2
  have c20 := X2.cell 0 rfl
  have c21 := X2.cell 1 rfl
  have c22 := X2.cell 2 rfl
  have f20 := X2.frozen 0
  have f21 := X2.frozen 1
  have f22 := X2.frozen 2
  have HJ := Lib.hid hJ
  have HT := Lib.hid hT
  clear hJ hT n1 n2
  have XB : Box ((((w1.setCell ⟨w.heap.size + 1 + 1, 2, none⟩ (.int .i64 E)).setCell ⟨w.heap.size + 1, 0, none⟩ (.slice none 0 0)).setCell ⟨w.heap.size + 1, 1, none⟩ (.int .i64 0)).setCell ⟨w.heap.size + 1, 2, none⟩ (.int .i64 E)) (w.heap.size + 1) 65 #[.slice none 0 0, .int .i64 0, .int .i64 E] := by simpa using ((((X1.far (p := ⟨w.heap.size + 1 + 1, 2, none⟩) (show w.heap.size + 1 ≠ w.heap.size + 1 + 1 by omega) (.int .i64 E)).set 0 (.slice none 0 0)).set 1 (.int .i64 0)).set 2 (.int .i64 E))
  have XO : Only w1 ((((w1.setCell ⟨w.heap.size + 1 + 1, 2, none⟩ (.int .i64 E)).setCell ⟨w.heap.size + 1, 0, none⟩ (.slice none 0 0)).setCell ⟨w.heap.size + 1, 1, none⟩ (.int .i64 0)).setCell ⟨w.heap.size + 1, 2, none⟩ (.int .i64 E)) (fun i => w.heap.size ≤ i ∧ i < w.heap.size + 3) := only_xt w1 w.heap.size (w.heap.size + 3) [((⟨w.heap.size + 1 + 1, 2, none⟩ : Addr), (.int .i64 E : Value)), (⟨w.heap.size + 1, 0, none⟩, .slice none 0 0), (⟨w.heap.size + 1, 1, none⟩, .int .i64 0), (⟨w.heap.size + 1, 2, none⟩, .int .i64 E)] (by intro p hp; simp only [List.mem_cons, List.not_mem_nil, or_false] at hp; rcases hp with rfl | rfl | rfl | rfl <;> simp only <;> omega)
  have XB := Lib.hid XB
  have XO := Lib.hid XO
  clear X1 X2 B1 B2
  go_wp2_with fail
  have d0 := XB.out.cell 0 rfl
  have d1 := XB.out.cell 1 rfl
  have d2 := XB.out.cell 2 rfl
  refine bodyPost_ret (v := .agg #[.slice none 0 0, .int .i64 0, .int .i64 E]) (by simp [results, Tryz.results26, go_sem, d0, d1, d2]) rfl ?_
  exact ⟨_, S', rfl, Own.nil _ _ _ _, (FIN.out w1 _ S' HJ.out HT.out XO.out).1, (FIN.out w1 _ S' HJ.out HT.out XO.out).2, fun g hg => by cases hg⟩
end
end Go.Proofs.YtamboappeahgpaaGreatDoor
/- What milepostlaw10.does does. (Written by mkdo10.py.) -/
namespace Go.Proofs.YtamboappeahgpaaGreatDoor
open Go.RowKit
set_option linter.unusedSimpArgs false
set_option linter.unusedVariables false
set_option maxRecDepth 100000

section
variable {w0 w : World} {S : Nat → Prop} {J' : (Nat → Prop) → World → Prop}
set_option maxHeartbeats 8000000 in
theorem does10_pages (st : Stay w0 J') (hL : ∀ i, S i → i < w.heap.size) (hw0 : w0.heap.size ≤ w.heap.size) (pv dv : Value) (sv : ByteArray) (k : Int) (A : Option Addr) (len c : Nat) (n E : Int)
    (C : ∀ W, Keeps w W → Calls Tryz.prog 37 #[pv, .string sv] W fun e w' => e = .returned (.tuple #[.int .i64 n, .int .i64 E]) ∧ ∃ S', J' S' w' ∧ Turns W w' S S') :
    Calls Tryz.prog 26 #[pv, dv, .agg #[.int .i64 2, .string sv, .int .i64 k, .slice A len c]] w (Done10 w S J' [] n E) := by
  have kW : Keeps w (((w.alloc (.cells #[.int .i64 2, .string sv, .int .i64 k, .slice A len c] 52)).alloc (.cells #[.slice none 0 0, .int .i64 0, .int .i64 0] 65)).alloc (.cells #[.slice none 0 0, .int .i64 0, .int .i64 0] 65)) := keeps_trans (keeps_trans (keeps_alloc _ _) (keeps_alloc _ _)) (keeps_alloc _ _)
  have hs3 : ((((w.alloc (.cells #[.int .i64 2, .string sv, .int .i64 k, .slice A len c] 52)).alloc (.cells #[.slice none 0 0, .int .i64 0, .int .i64 0] 65)).alloc (.cells #[.slice none 0 0, .int .i64 0, .int .i64 0] 65))).heap.size = w.heap.size + 3 := by simp
  have B1 := box_mid10 w (.cells #[.int .i64 2, .string sv, .int .i64 k, .slice A len c] 52) 65 #[.slice none 0 0, .int .i64 0, .int .i64 0] (.cells #[.slice none 0 0, .int .i64 0, .int .i64 0] 65)
  have B2 := box_third10 w (.cells #[.int .i64 2, .string sv, .int .i64 k, .slice A len c] 52) (.cells #[.slice none 0 0, .int .i64 0, .int .i64 0] 65) 65 #[.slice none 0 0, .int .i64 0, .int .i64 0]
  have CC := Lib.hid (C _ kW)
  have HL := Lib.hid hL
  have FIN := Lib.hid (fun w1 W4 S' => done10 (W4 := W4) (w1 := w1) (S' := S') st hL hw0 kW hs3)
  clear C hL hs3
  go_enter Tryz.func26, Tryz.ntmps26
  go_wp2_with fail
  refine CC.out.mono ?_
  rintro e w1 ⟨rfl, S', hJ, hT⟩
  have n1 : ¬ S (w.heap.size + 1) := fun e => by have := HL.out _ e; omega
  have n2 : ¬ S (w.heap.size + 1 + 1) := fun e => by have := HL.out _ e; omega
  have X1 := B1.turned hT n1
  have X2 := B2.turned hT n2
  have c10 := X1.cell 0 rfl
  have c11 := X1.cell 1 rfl
  have c12 := X1.cell 2 rfl
  have f10 := X1.frozen 0
  have f11 := X1.frozen 1
  have f12 := X1.frozen 2
  have c20 := X2.cell 0 rfl
  have c21 := X2.cell 1 rfl
  have c22 := X2.cell 2 rfl
  have f20 := X2.frozen 0
  have f21 := X2.frozen 1
  have f22 := X2.frozen 2
  have HJ := Lib.hid hJ
  have HT := Lib.hid hT
  clear hJ hT n1 n2
  have XB : Box (((((w1.setCell ⟨w.heap.size + 1 + 1, 1, none⟩ (.int .i64 n)).setCell ⟨w.heap.size + 1 + 1, 2, none⟩ (.int .i64 E)).setCell ⟨w.heap.size + 1, 0, none⟩ (.slice none 0 0)).setCell ⟨w.heap.size + 1, 1, none⟩ (.int .i64 n)).setCell ⟨w.heap.size + 1, 2, none⟩ (.int .i64 E)) (w.heap.size + 1) 65 #[.slice none 0 0, .int .i64 n, .int .i64 E] := by simpa using (((((X1.far (p := ⟨w.heap.size + 1 + 1, 1, none⟩) (show w.heap.size + 1 ≠ w.heap.size + 1 + 1 by omega) (.int .i64 n)).far (p := ⟨w.heap.size + 1 + 1, 2, none⟩) (show w.heap.size + 1 ≠ w.heap.size + 1 + 1 by omega) (.int .i64 E)).set 0 (.slice none 0 0)).set 1 (.int .i64 n)).set 2 (.int .i64 E))
  have XO : Only w1 (((((w1.setCell ⟨w.heap.size + 1 + 1, 1, none⟩ (.int .i64 n)).setCell ⟨w.heap.size + 1 + 1, 2, none⟩ (.int .i64 E)).setCell ⟨w.heap.size + 1, 0, none⟩ (.slice none 0 0)).setCell ⟨w.heap.size + 1, 1, none⟩ (.int .i64 n)).setCell ⟨w.heap.size + 1, 2, none⟩ (.int .i64 E)) (fun i => w.heap.size ≤ i ∧ i < w.heap.size + 3) := only_xt w1 w.heap.size (w.heap.size + 3) [((⟨w.heap.size + 1 + 1, 1, none⟩ : Addr), (.int .i64 n : Value)), (⟨w.heap.size + 1 + 1, 2, none⟩, .int .i64 E), (⟨w.heap.size + 1, 0, none⟩, .slice none 0 0), (⟨w.heap.size + 1, 1, none⟩, .int .i64 n), (⟨w.heap.size + 1, 2, none⟩, .int .i64 E)] (by intro p hp; simp only [List.mem_cons, List.not_mem_nil, or_false] at hp; rcases hp with rfl | rfl | rfl | rfl | rfl <;> simp only <;> omega)
  have XB := Lib.hid XB
  have XO := Lib.hid XO
  clear X1 X2 B1 B2
  go_wp2_with fail
  have d0 := XB.out.cell 0 rfl
  have d1 := XB.out.cell 1 rfl
  have d2 := XB.out.cell 2 rfl
  refine bodyPost_ret (v := .agg #[.slice none 0 0, .int .i64 n, .int .i64 E]) (by simp [results, Tryz.results26, go_sem, d0, d1, d2]) rfl ?_
  exact ⟨_, S', rfl, Own.nil _ _ _ _, (FIN.out w1 _ S' HJ.out HT.out XO.out).1, (FIN.out w1 _ S' HJ.out HT.out XO.out).2, fun g hg => by cases hg⟩
set_option maxHeartbeats 16000000 in
theorem does10_read (st : Stay w0 J') (hL : ∀ i, S i → i < w.heap.size) (hw0 : w0.heap.size ≤ w.heap.size) (pv dv : Value) (sv : ByteArray) (k : Int) (A : Option Addr) (len c : Nat) (l : List UInt8) (hl : l.length ≤ 20000000) (E : Int)
    (C : ∀ W, Keeps w W → Calls Tryz.prog 38 #[pv, .string sv, .int .i64 k] W fun e w' => ∃ v, e = .returned (.tuple #[v, .int .i64 E]) ∧ Own w' W.heap.size 5 1 v l.length (cel l) ∧ ∃ S', J' S' w' ∧ Turns W w' S S' ∧ (∀ g, v.ownBlock = some g → ¬ S' g)) :
    Calls Tryz.prog 26 #[pv, dv, .agg #[.int .i64 5, .string sv, .int .i64 k, .slice A len c]] w (Done10 w S J' l 0 E) := by
  have kW : Keeps w (((w.alloc (.cells #[.int .i64 5, .string sv, .int .i64 k, .slice A len c] 52)).alloc (.cells #[.slice none 0 0, .int .i64 0, .int .i64 0] 65)).alloc (.cells #[.slice none 0 0, .int .i64 0, .int .i64 0] 65)) := keeps_trans (keeps_trans (keeps_alloc _ _) (keeps_alloc _ _)) (keeps_alloc _ _)
  have hs3 : ((((w.alloc (.cells #[.int .i64 5, .string sv, .int .i64 k, .slice A len c] 52)).alloc (.cells #[.slice none 0 0, .int .i64 0, .int .i64 0] 65)).alloc (.cells #[.slice none 0 0, .int .i64 0, .int .i64 0] 65))).heap.size = w.heap.size + 3 := by simp
  have B1 := box_mid10 w (.cells #[.int .i64 5, .string sv, .int .i64 k, .slice A len c] 52) 65 #[.slice none 0 0, .int .i64 0, .int .i64 0] (.cells #[.slice none 0 0, .int .i64 0, .int .i64 0] 65)
  have B2 := box_third10 w (.cells #[.int .i64 5, .string sv, .int .i64 k, .slice A len c] 52) (.cells #[.slice none 0 0, .int .i64 0, .int .i64 0] 65) 65 #[.slice none 0 0, .int .i64 0, .int .i64 0]
  have CC := Lib.hid (C _ kW)
  have HL := Lib.hid hL
  have FIN := Lib.hid (fun w1 W4 S' => done10 (W4 := W4) (w1 := w1) (S' := S') st hL hw0 kW hs3)
  have HS3 := Lib.hid hs3
  obtain ⟨L, hLL⟩ : ∃ L, l.length = L := ⟨_, rfl⟩
  rw [hLL] at CC hl
  have HLL := Lib.hid hLL
  clear C hL hLL
  go_enter Tryz.func26, Tryz.ntmps26
  go_wp2_with fail
  refine CC.out.mono ?_
  rintro e w1 ⟨v, rfl, o1, S', hJ, hT, hnv⟩
  rw [hs3] at o1
  obtain ⟨A1, c1, rfl, -⟩ := o1.form
  have hsz1 : w.heap.size + 3 ≤ w1.heap.size := by have := hT.only.size; omega
  have n1 : ¬ S (w.heap.size + 1) := fun e => by have := HL.out _ e; omega
  have n2 : ¬ S (w.heap.size + 1 + 1) := fun e => by have := HL.out _ e; omega
  have X1 := B1.turned hT n1
  have X2 := B2.turned hT n2
  have c10 := X1.cell 0 rfl
  have c11 := X1.cell 1 rfl
  have c12 := X1.cell 2 rfl
  have f10 := X1.frozen 0
  have f11 := X1.frozen 1
  have f12 := X1.frozen 2
  have c20 := X2.cell 0 rfl
  have c21 := X2.cell 1 rfl
  have c22 := X2.cell 2 rfl
  have f20 := X2.frozen 0
  have f21 := X2.frozen 1
  have f22 := X2.frozen 2
  have HJ := Lib.hid hJ
  have HT := Lib.hid hT
  clear hJ hT n1 n2
  have T1 := Lib.hid ((Turns.of_keeps kW).trans HT.out)
  have NS := Lib.hid (show (∀ i, w.heap.size ≤ i → i < w.heap.size + 3 → ¬ S' i) from fun i h1 h2 hs => by
    rcases HT.out.next i hs with h | h
    · have := HL.out i h; omega
    · omega)
  have XB := Lib.hid (show Box (w1.setCell ⟨w.heap.size + 1 + 1, 2, none⟩ (.int .i64 E)) (w.heap.size + 1 + 1) 65 #[.slice none 0 0, .int .i64 0, .int .i64 E] from X2.set 2 (.int .i64 E))
  have YB := Lib.hid (X1.far (p := ⟨w.heap.size + 1 + 1, 2, none⟩) (show w.heap.size + 1 ≠ w.heap.size + 1 + 1 by omega) (.int .i64 E))
  have OX := Lib.hid (o1.same (w' := w1.setCell ⟨w.heap.size + 1 + 1, 2, none⟩ (.int .i64 E)) (fun j hj => Below.heap_setCell w1 ⟨w.heap.size + 1 + 1, 2, none⟩ (.int .i64 E) j (fun e => by have h1 := (o1.lt j hj).1; have h2 : j = w.heap.size + 1 + 1 := e; omega)))
  have SX : w1.heap.size ≤ (w1.setCell ⟨w.heap.size + 1 + 1, 2, none⟩ (.int .i64 E)).heap.size := by simp
  have J2 := Lib.hid (st.turn HJ.out (only_set w1 ⟨w.heap.size + 1 + 1, 2, none⟩ (.int .i64 E)) (fun i hi => by rw [show i = w.heap.size + 1 + 1 from hi]; exact ⟨by omega, NS.out _ (by omega) (by omega)⟩))
  have T2 := Lib.hid (T1.out.put10 ⟨w.heap.size + 1 + 1, 2, none⟩ (.int .i64 E) (show w.heap.size ≤ w.heap.size + 1 + 1 by omega))
  have CB := Lib.hid (copyBytes_any A1 L c1 l (w1.setCell ⟨w.heap.size + 1 + 1, 2, none⟩ (.int .i64 E)) OX.out.at_ HLL.out.symm (by unfold maxLen; omega))
  have NV := Lib.hid hnv
  clear o1 X1 X2 B1 B2 hnv
  go_wp2_with fail
  obtain ⟨w2, hw2⟩ : ∃ w2, w1.setCell ⟨w.heap.size + 1 + 1, 2, none⟩ (.int .i64 E) = w2 := ⟨_, rfl⟩
  rw [hw2] at XB YB OX SX J2 T2 CB ⊢
  clear hw2 c10 c11 c12 c20 c21 c22 f10 f11 f12 f20 f21 f22
  refine CB.out.mono ?_
  rintro e w4 ⟨v4, rfl, o4, k4⟩
  rw [HLL.out] at o4
  obtain ⟨A2, c2, rfl, -⟩ := o4.form
  have X4 := XB.out.keep k4
  have Y4 := YB.out.keep k4
  have c20 := X4.cell 0 rfl
  have c21 := X4.cell 1 rfl
  have c22 := X4.cell 2 rfl
  have f20 := X4.frozen 0
  have sz4 := k4.size
  have SZ2 := Lib.hid (show w.heap.size + 3 ≤ w2.heap.size from Nat.le_trans hsz1 SX)
  have O14 := OX.out.keep k4
  have X5 := Lib.hid (show Box (w4.setCell ⟨w.heap.size + 1 + 1, 0, none⟩ (.slice A2 L c2)) (w.heap.size + 1 + 1) 65 #[.slice A2 L c2, .int .i64 0, .int .i64 E] by simpa using X4.set 0 (.slice A2 L c2))
  have Y5 := Lib.hid (Y4.far (p := ⟨w.heap.size + 1 + 1, 0, none⟩) (show w.heap.size + 1 ≠ w.heap.size + 1 + 1 by omega) (.slice A2 L c2))
  have O15 := Lib.hid (O14.same (fun k hk => Below.heap_setCell w4 ⟨w.heap.size + 1 + 1, 0, none⟩ (.slice A2 L c2) k (fun e => by have h1 := (O14.lt k hk).1; have h2 : k = w.heap.size + 1 + 1 := e; omega)))
  have O25 := Lib.hid (o4.same (fun k hk => Below.heap_setCell w4 ⟨w.heap.size + 1 + 1, 0, none⟩ (.slice A2 L c2) k (fun e => by have h1 := (o4.lt k hk).1; have h2 : k = w.heap.size + 1 + 1 := e; have := SZ2.out; omega)))
  have J5 := Lib.hid (st.turn (st.turn J2.out (Only.of_keeps k4) (fun i hi => hi.elim)) (only_set w4 ⟨w.heap.size + 1 + 1, 0, none⟩ (.slice A2 L c2)) (fun i hi => by rw [show i = w.heap.size + 1 + 1 from hi]; exact ⟨by omega, NS.out _ (by omega) (by omega)⟩))
  have T5 := Lib.hid ((T2.out.trans (Turns.of_keeps k4)).put10 ⟨w.heap.size + 1 + 1, 0, none⟩ (.slice A2 L c2) (show w.heap.size ≤ w.heap.size + 1 + 1 by omega))
  have LT2 := Lib.hid (show ∀ g, (Value.slice A1 L c1).ownBlock = some g → g < w2.heap.size from fun g hg => (OX.out.lt g hg).2)
  have NV2 := Lib.hid (show ∀ g, (Value.slice A2 L c2).ownBlock = some g → ¬ S' g from fun g hg hs => by
    have h1 := (o4.lt g hg).1
    have h2 := st.lt J2.out g hs
    omega)
  clear o4 k4 X4 Y4 O14 sz4
  go_wp2_with fail
  go_loopw [9] (fun i wr => ∃ (j : Nat) (ys : List Value), j ≤ L ∧ i = .int .i64 j ∧ Hid (Own wr (w.heap.size + 3) 5 1 (.slice A1 L c1) L ys) ∧ Hid (Own wr w2.heap.size 5 1 (.slice A2 L c2) L (cel l)) ∧ Hid (Box wr (w.heap.size + 1 + 1) 65 #[.slice A2 L c2, .int .i64 0, .int .i64 E]) ∧ Hid (Box wr (w.heap.size + 1) 65 #[.slice none 0 0, .int .i64 0, .int .i64 0]) ∧ Hid (J' S' wr) ∧ Hid (Turns w wr S S')) (fun i _ => L - (intOf i).toNat)
  case atStart => exact ⟨0, _, Nat.zero_le _, rfl, O15, O25, X5, Y5, J5, T5⟩
  case round =>
    clear O15 O25 X5 Y5 J5 T5
    obtain ⟨j, ys, hj, rfl, HO1, HO2, XB, YB, HVR, TR⟩ := hrel
    by_cases hlt : j < L
    · have hji : (j : Int) < (L : Int) := by omega
      have hlen : ys.length = L := by have := HO1.out.1; omega
      obtain ⟨g, rfl, hcc, hff, hgb⟩ := HO1.out.cell (j := j) (by omega)
      obtain ⟨u, hu⟩ : ∃ u, ys[j]? = some u := ⟨_, List.getElem?_eq_getElem (by omega)⟩
      rw [hu] at hcc
      have hg1 := LT2.out g rfl
      have N1 := Lib.hid (HO1.out.store (j := j) (by omega) (.int .u8 238))
      have N2 := Lib.hid (HO2.out.same (fun k hk => Below.heap_setCell wr ⟨g, j, none⟩ (.int .u8 238) k (fun e => by have := (HO2.out.lt k hk).1; simp only at e; omega)))
      have NX := Lib.hid (XB.out.far (p := ⟨g, j, none⟩) (show w.heap.size + 1 + 1 ≠ g by omega) (.int .u8 238))
      have NY := Lib.hid (YB.out.far (p := ⟨g, j, none⟩) (show w.heap.size + 1 ≠ g by omega) (.int .u8 238))
      have NH := Lib.hid (st.turn HVR.out (only_set wr ⟨g, j, none⟩ (.int .u8 238)) (fun i hi => by rw [show i = g from hi]; exact ⟨by omega, NV.out g rfl⟩))
      have NT := Lib.hid (TR.out.put10 ⟨g, j, none⟩ (.int .u8 238) (by show w.heap.size ≤ g; omega))
      clear hu hlen hg1 hgb hlt
      go_wp2_with fail
      go_roundw
      case rel => exact ⟨j + 1, _, by omega, by go_num, N1, N2, NX, NY, NH, NT⟩
      case measure => simp [intOf] <;> omega
    · obtain rfl : L = j := by omega
      have c20 := XB.out.cell 0 rfl
      have c21 := XB.out.cell 1 rfl
      have c22 := XB.out.cell 2 rfl
      have c10 := YB.out.cell 0 rfl
      have c11 := YB.out.cell 1 rfl
      have c12 := YB.out.cell 2 rfl
      have f10 := YB.out.frozen 0
      have f11 := YB.out.frozen 1
      have f12 := YB.out.frozen 2
      clear hlt hj
      go_wp2_with fail
      have ZB : Box ((((wr).setCell ⟨w.heap.size + 1, 0, none⟩ (.slice A2 L c2)).setCell ⟨w.heap.size + 1, 1, none⟩ (.int .i64 0)).setCell ⟨w.heap.size + 1, 2, none⟩ (.int .i64 E)) (w.heap.size + 1) 65 #[.slice A2 L c2, .int .i64 0, .int .i64 E] := by simpa using (((YB.out.set 0 (.slice A2 L c2)).set 1 (.int .i64 0)).set 2 (.int .i64 E))
      have ZO : Only wr ((((wr).setCell ⟨w.heap.size + 1, 0, none⟩ (.slice A2 L c2)).setCell ⟨w.heap.size + 1, 1, none⟩ (.int .i64 0)).setCell ⟨w.heap.size + 1, 2, none⟩ (.int .i64 E)) (fun i => w.heap.size ≤ i ∧ i < w.heap.size + 3) := only_xt wr (w.heap.size) (w.heap.size + 3) [((⟨w.heap.size + 1, 0, none⟩ : Addr), (.slice A2 L c2 : Value)), (⟨w.heap.size + 1, 1, none⟩, .int .i64 0), (⟨w.heap.size + 1, 2, none⟩, .int .i64 E)] (by intro p hp; simp only [List.mem_cons, List.not_mem_nil, or_false] at hp; rcases hp with rfl | rfl | rfl <;> simp only <;> omega)
      have ZH := st.turn HVR.out ZO (fun i hi => ⟨by omega, NS.out i hi.1 hi.2⟩)
      have ZT : Turns w ((((wr).setCell ⟨w.heap.size + 1, 0, none⟩ (.slice A2 L c2)).setCell ⟨w.heap.size + 1, 1, none⟩ (.int .i64 0)).setCell ⟨w.heap.size + 1, 2, none⟩ (.int .i64 E)) S S' := ⟨TR.out.only.trans ZO (fun i hi => .inr hi.1), TR.out.next⟩
      generalize ((((wr).setCell ⟨w.heap.size + 1, 0, none⟩ (.slice A2 L c2)).setCell ⟨w.heap.size + 1, 1, none⟩ (.int .i64 0)).setCell ⟨w.heap.size + 1, 2, none⟩ (.int .i64 E)) = W4 at *
      have d0 := ZB.cell 0 rfl
      have d1 := ZB.cell 1 rfl
      have d2 := ZB.cell 2 rfl
      refine bodyPost_ret (v := .agg #[.slice A2 L c2, .int .i64 0, .int .i64 E]) (by simp [results, Tryz.results26, go_sem, d0, d1, d2]) rfl ?_
      refine ⟨.slice A2 L c2, S', rfl, ?_, ZH, ZT, NV2.out⟩
      rw [HLL.out]
      exact (HO2.out.only_ ZO (fun k hk hs => by have := (HO2.out.lt k hk).1; have := SZ2.out; omega)).base_le (by have := SZ2.out; omega)
set_option maxHeartbeats 16000000 in
theorem does10_pin (st : Stay w0 J') (hL : ∀ i, S i → i < w.heap.size) (hw0 : w0.heap.size ≤ w.heap.size) (pv dv : Value) (sv : ByteArray) (k : Int) (A : Option Addr) (len c : Nat) (l : List UInt8) (hl : l.length ≤ 20000000) (E : Int)
    (C : ∀ W, Keeps w W → Calls Tryz.prog 66 #[pv, .string sv, .int .i64 k] W fun e w' => ∃ v, e = .returned (.tuple #[v, .int .i64 E]) ∧ Own w' W.heap.size 5 1 v l.length (cel l) ∧ ∃ S', J' S' w' ∧ Turns W w' S S' ∧ (∀ g, v.ownBlock = some g → ¬ S' g)) :
    Calls Tryz.prog 26 #[pv, dv, .agg #[.int .i64 3, .string sv, .int .i64 k, .slice A len c]] w (Done10 w S J' l 0 E) := by
  have kW : Keeps w (((w.alloc (.cells #[.int .i64 3, .string sv, .int .i64 k, .slice A len c] 52)).alloc (.cells #[.slice none 0 0, .int .i64 0, .int .i64 0] 65)).alloc (.cells #[.slice none 0 0, .int .i64 0, .int .i64 0] 65)) := keeps_trans (keeps_trans (keeps_alloc _ _) (keeps_alloc _ _)) (keeps_alloc _ _)
  have hs3 : ((((w.alloc (.cells #[.int .i64 3, .string sv, .int .i64 k, .slice A len c] 52)).alloc (.cells #[.slice none 0 0, .int .i64 0, .int .i64 0] 65)).alloc (.cells #[.slice none 0 0, .int .i64 0, .int .i64 0] 65))).heap.size = w.heap.size + 3 := by simp
  have B1 := box_mid10 w (.cells #[.int .i64 3, .string sv, .int .i64 k, .slice A len c] 52) 65 #[.slice none 0 0, .int .i64 0, .int .i64 0] (.cells #[.slice none 0 0, .int .i64 0, .int .i64 0] 65)
  have B2 := box_third10 w (.cells #[.int .i64 3, .string sv, .int .i64 k, .slice A len c] 52) (.cells #[.slice none 0 0, .int .i64 0, .int .i64 0] 65) 65 #[.slice none 0 0, .int .i64 0, .int .i64 0]
  have CC := Lib.hid (C _ kW)
  have HL := Lib.hid hL
  have FIN := Lib.hid (fun w1 W4 S' => done10 (W4 := W4) (w1 := w1) (S' := S') st hL hw0 kW hs3)
  have HS3 := Lib.hid hs3
  obtain ⟨L, hLL⟩ : ∃ L, l.length = L := ⟨_, rfl⟩
  rw [hLL] at CC hl
  have HLL := Lib.hid hLL
  clear C hL hLL
  go_enter Tryz.func26, Tryz.ntmps26
  go_wp2_with fail
  refine CC.out.mono ?_
  rintro e w1 ⟨v, rfl, o1, S', hJ, hT, hnv⟩
  rw [hs3] at o1
  obtain ⟨A1, c1, rfl, -⟩ := o1.form
  have hsz1 : w.heap.size + 3 ≤ w1.heap.size := by have := hT.only.size; omega
  have n1 : ¬ S (w.heap.size + 1) := fun e => by have := HL.out _ e; omega
  have n2 : ¬ S (w.heap.size + 1 + 1) := fun e => by have := HL.out _ e; omega
  have X1 := B1.turned hT n1
  have X2 := B2.turned hT n2
  have c10 := X1.cell 0 rfl
  have c11 := X1.cell 1 rfl
  have c12 := X1.cell 2 rfl
  have f10 := X1.frozen 0
  have f11 := X1.frozen 1
  have f12 := X1.frozen 2
  have c20 := X2.cell 0 rfl
  have c21 := X2.cell 1 rfl
  have c22 := X2.cell 2 rfl
  have f20 := X2.frozen 0
  have f21 := X2.frozen 1
  have f22 := X2.frozen 2
  have HJ := Lib.hid hJ
  have HT := Lib.hid hT
  clear hJ hT n1 n2
  have T1 := Lib.hid ((Turns.of_keeps kW).trans HT.out)
  have NS := Lib.hid (show (∀ i, w.heap.size ≤ i → i < w.heap.size + 3 → ¬ S' i) from fun i h1 h2 hs => by
    rcases HT.out.next i hs with h | h
    · have := HL.out i h; omega
    · omega)
  have XB := Lib.hid (show Box (w1.setCell ⟨w.heap.size + 1 + 1, 2, none⟩ (.int .i64 E)) (w.heap.size + 1 + 1) 65 #[.slice none 0 0, .int .i64 0, .int .i64 E] from X2.set 2 (.int .i64 E))
  have YB := Lib.hid (X1.far (p := ⟨w.heap.size + 1 + 1, 2, none⟩) (show w.heap.size + 1 ≠ w.heap.size + 1 + 1 by omega) (.int .i64 E))
  have OX := Lib.hid (o1.same (w' := w1.setCell ⟨w.heap.size + 1 + 1, 2, none⟩ (.int .i64 E)) (fun j hj => Below.heap_setCell w1 ⟨w.heap.size + 1 + 1, 2, none⟩ (.int .i64 E) j (fun e => by have h1 := (o1.lt j hj).1; have h2 : j = w.heap.size + 1 + 1 := e; omega)))
  have SX : w1.heap.size ≤ (w1.setCell ⟨w.heap.size + 1 + 1, 2, none⟩ (.int .i64 E)).heap.size := by simp
  have J2 := Lib.hid (st.turn HJ.out (only_set w1 ⟨w.heap.size + 1 + 1, 2, none⟩ (.int .i64 E)) (fun i hi => by rw [show i = w.heap.size + 1 + 1 from hi]; exact ⟨by omega, NS.out _ (by omega) (by omega)⟩))
  have T2 := Lib.hid (T1.out.put10 ⟨w.heap.size + 1 + 1, 2, none⟩ (.int .i64 E) (show w.heap.size ≤ w.heap.size + 1 + 1 by omega))
  have CB := Lib.hid (copyBytes_any A1 L c1 l (w1.setCell ⟨w.heap.size + 1 + 1, 2, none⟩ (.int .i64 E)) OX.out.at_ HLL.out.symm (by unfold maxLen; omega))
  have NV := Lib.hid hnv
  clear o1 X1 X2 B1 B2 hnv
  go_wp2_with fail
  obtain ⟨w2, hw2⟩ : ∃ w2, w1.setCell ⟨w.heap.size + 1 + 1, 2, none⟩ (.int .i64 E) = w2 := ⟨_, rfl⟩
  rw [hw2] at XB YB OX SX J2 T2 CB ⊢
  clear hw2 c10 c11 c12 c20 c21 c22 f10 f11 f12 f20 f21 f22
  refine CB.out.mono ?_
  rintro e w4 ⟨v4, rfl, o4, k4⟩
  rw [HLL.out] at o4
  obtain ⟨A2, c2, rfl, -⟩ := o4.form
  have X4 := XB.out.keep k4
  have Y4 := YB.out.keep k4
  have c20 := X4.cell 0 rfl
  have c21 := X4.cell 1 rfl
  have c22 := X4.cell 2 rfl
  have f20 := X4.frozen 0
  have sz4 := k4.size
  have SZ2 := Lib.hid (show w.heap.size + 3 ≤ w2.heap.size from Nat.le_trans hsz1 SX)
  have O14 := OX.out.keep k4
  have X5 := Lib.hid (show Box (w4.setCell ⟨w.heap.size + 1 + 1, 0, none⟩ (.slice A2 L c2)) (w.heap.size + 1 + 1) 65 #[.slice A2 L c2, .int .i64 0, .int .i64 E] by simpa using X4.set 0 (.slice A2 L c2))
  have Y5 := Lib.hid (Y4.far (p := ⟨w.heap.size + 1 + 1, 0, none⟩) (show w.heap.size + 1 ≠ w.heap.size + 1 + 1 by omega) (.slice A2 L c2))
  have O15 := Lib.hid (O14.same (fun k hk => Below.heap_setCell w4 ⟨w.heap.size + 1 + 1, 0, none⟩ (.slice A2 L c2) k (fun e => by have h1 := (O14.lt k hk).1; have h2 : k = w.heap.size + 1 + 1 := e; omega)))
  have O25 := Lib.hid (o4.same (fun k hk => Below.heap_setCell w4 ⟨w.heap.size + 1 + 1, 0, none⟩ (.slice A2 L c2) k (fun e => by have h1 := (o4.lt k hk).1; have h2 : k = w.heap.size + 1 + 1 := e; have := SZ2.out; omega)))
  have J5 := Lib.hid (st.turn (st.turn J2.out (Only.of_keeps k4) (fun i hi => hi.elim)) (only_set w4 ⟨w.heap.size + 1 + 1, 0, none⟩ (.slice A2 L c2)) (fun i hi => by rw [show i = w.heap.size + 1 + 1 from hi]; exact ⟨by omega, NS.out _ (by omega) (by omega)⟩))
  have T5 := Lib.hid ((T2.out.trans (Turns.of_keeps k4)).put10 ⟨w.heap.size + 1 + 1, 0, none⟩ (.slice A2 L c2) (show w.heap.size ≤ w.heap.size + 1 + 1 by omega))
  have LT2 := Lib.hid (show ∀ g, (Value.slice A1 L c1).ownBlock = some g → g < w2.heap.size from fun g hg => (OX.out.lt g hg).2)
  have NV2 := Lib.hid (show ∀ g, (Value.slice A2 L c2).ownBlock = some g → ¬ S' g from fun g hg hs => by
    have h1 := (o4.lt g hg).1
    have h2 := st.lt J2.out g hs
    omega)
  clear o4 k4 X4 Y4 O14 sz4
  go_wp2_with fail
  go_loopw [9] (fun i wr => ∃ (j : Nat) (ys : List Value), j ≤ L ∧ i = .int .i64 j ∧ Hid (Own wr (w.heap.size + 3) 5 1 (.slice A1 L c1) L ys) ∧ Hid (Own wr w2.heap.size 5 1 (.slice A2 L c2) L (cel l)) ∧ Hid (Box wr (w.heap.size + 1 + 1) 65 #[.slice A2 L c2, .int .i64 0, .int .i64 E]) ∧ Hid (Box wr (w.heap.size + 1) 65 #[.slice none 0 0, .int .i64 0, .int .i64 0]) ∧ Hid (J' S' wr) ∧ Hid (Turns w wr S S')) (fun i _ => L - (intOf i).toNat)
  case atStart => exact ⟨0, _, Nat.zero_le _, rfl, O15, O25, X5, Y5, J5, T5⟩
  case round =>
    clear O15 O25 X5 Y5 J5 T5
    obtain ⟨j, ys, hj, rfl, HO1, HO2, XB, YB, HVR, TR⟩ := hrel
    by_cases hlt : j < L
    · have hji : (j : Int) < (L : Int) := by omega
      have hlen : ys.length = L := by have := HO1.out.1; omega
      obtain ⟨g, rfl, hcc, hff, hgb⟩ := HO1.out.cell (j := j) (by omega)
      obtain ⟨u, hu⟩ : ∃ u, ys[j]? = some u := ⟨_, List.getElem?_eq_getElem (by omega)⟩
      rw [hu] at hcc
      have hg1 := LT2.out g rfl
      have N1 := Lib.hid (HO1.out.store (j := j) (by omega) (.int .u8 238))
      have N2 := Lib.hid (HO2.out.same (fun k hk => Below.heap_setCell wr ⟨g, j, none⟩ (.int .u8 238) k (fun e => by have := (HO2.out.lt k hk).1; simp only at e; omega)))
      have NX := Lib.hid (XB.out.far (p := ⟨g, j, none⟩) (show w.heap.size + 1 + 1 ≠ g by omega) (.int .u8 238))
      have NY := Lib.hid (YB.out.far (p := ⟨g, j, none⟩) (show w.heap.size + 1 ≠ g by omega) (.int .u8 238))
      have NH := Lib.hid (st.turn HVR.out (only_set wr ⟨g, j, none⟩ (.int .u8 238)) (fun i hi => by rw [show i = g from hi]; exact ⟨by omega, NV.out g rfl⟩))
      have NT := Lib.hid (TR.out.put10 ⟨g, j, none⟩ (.int .u8 238) (by show w.heap.size ≤ g; omega))
      clear hu hlen hg1 hgb hlt
      go_wp2_with fail
      go_roundw
      case rel => exact ⟨j + 1, _, by omega, by go_num, N1, N2, NX, NY, NH, NT⟩
      case measure => simp [intOf] <;> omega
    · obtain rfl : L = j := by omega
      have c20 := XB.out.cell 0 rfl
      have c21 := XB.out.cell 1 rfl
      have c22 := XB.out.cell 2 rfl
      have c10 := YB.out.cell 0 rfl
      have c11 := YB.out.cell 1 rfl
      have c12 := YB.out.cell 2 rfl
      have f10 := YB.out.frozen 0
      have f11 := YB.out.frozen 1
      have f12 := YB.out.frozen 2
      clear hlt hj
      go_wp2_with fail
      have ZB : Box ((((wr).setCell ⟨w.heap.size + 1, 0, none⟩ (.slice A2 L c2)).setCell ⟨w.heap.size + 1, 1, none⟩ (.int .i64 0)).setCell ⟨w.heap.size + 1, 2, none⟩ (.int .i64 E)) (w.heap.size + 1) 65 #[.slice A2 L c2, .int .i64 0, .int .i64 E] := by simpa using (((YB.out.set 0 (.slice A2 L c2)).set 1 (.int .i64 0)).set 2 (.int .i64 E))
      have ZO : Only wr ((((wr).setCell ⟨w.heap.size + 1, 0, none⟩ (.slice A2 L c2)).setCell ⟨w.heap.size + 1, 1, none⟩ (.int .i64 0)).setCell ⟨w.heap.size + 1, 2, none⟩ (.int .i64 E)) (fun i => w.heap.size ≤ i ∧ i < w.heap.size + 3) := only_xt wr (w.heap.size) (w.heap.size + 3) [((⟨w.heap.size + 1, 0, none⟩ : Addr), (.slice A2 L c2 : Value)), (⟨w.heap.size + 1, 1, none⟩, .int .i64 0), (⟨w.heap.size + 1, 2, none⟩, .int .i64 E)] (by intro p hp; simp only [List.mem_cons, List.not_mem_nil, or_false] at hp; rcases hp with rfl | rfl | rfl <;> simp only <;> omega)
      have ZH := st.turn HVR.out ZO (fun i hi => ⟨by omega, NS.out i hi.1 hi.2⟩)
      have ZT : Turns w ((((wr).setCell ⟨w.heap.size + 1, 0, none⟩ (.slice A2 L c2)).setCell ⟨w.heap.size + 1, 1, none⟩ (.int .i64 0)).setCell ⟨w.heap.size + 1, 2, none⟩ (.int .i64 E)) S S' := ⟨TR.out.only.trans ZO (fun i hi => .inr hi.1), TR.out.next⟩
      generalize ((((wr).setCell ⟨w.heap.size + 1, 0, none⟩ (.slice A2 L c2)).setCell ⟨w.heap.size + 1, 1, none⟩ (.int .i64 0)).setCell ⟨w.heap.size + 1, 2, none⟩ (.int .i64 E)) = W4 at *
      have d0 := ZB.cell 0 rfl
      have d1 := ZB.cell 1 rfl
      have d2 := ZB.cell 2 rfl
      refine bodyPost_ret (v := .agg #[.slice A2 L c2, .int .i64 0, .int .i64 E]) (by simp [results, Tryz.results26, go_sem, d0, d1, d2]) rfl ?_
      refine ⟨.slice A2 L c2, S', rfl, ?_, ZH, ZT, NV2.out⟩
      rw [HLL.out]
      exact (HO2.out.only_ ZO (fun k hk hs => by have := (HO2.out.lt k hk).1; have := SZ2.out; omega)).base_le (by have := SZ2.out; omega)
end
end Go.Proofs.YtamboappeahgpaaGreatDoor
/- What milepostlaw10.does does. (Written by mkdo10.py.) -/
namespace Go.Proofs.YtamboappeahgpaaGreatDoor
open Go.RowKit
set_option linter.unusedSimpArgs false
set_option linter.unusedVariables false
set_option maxRecDepth 100000

section
variable {w0 w : World} {S : Nat → Prop} {J' : (Nat → Prop) → World → Prop}
set_option maxHeartbeats 16000000 in
theorem does10_write (st : Stay w0 J') (hL : ∀ i, S i → i < w.heap.size) (hw0 : w0.heap.size ≤ w.heap.size) (pv dv : Value) (sv : ByteArray) (k : Int) (A : Option Addr) (len c : Nat) (l : List UInt8) (hlen : len = l.length) (hl : len ≤ 20000000) (hB : Bs w A l) (E : Int)
    (C : ∀ W V A' c', Keeps w W → Keeps W V → w.heap.size ≤ W.heap.size → Own V W.heap.size 5 1 (.slice A' len c') len (cel l) → Calls Tryz.prog 65 #[pv, .string sv, .int .i64 k, .slice A' len c'] V fun e w' => e = .returned (.int .i64 E) ∧ ∃ S', J' S' w' ∧ Turns V w' S S') :
    Calls Tryz.prog 26 #[pv, dv, .agg #[.int .i64 6, .string sv, .int .i64 k, .slice A len c]] w (Done10 w S J' l 0 E) := by
  have kW : Keeps w (((w.alloc (.cells #[.int .i64 6, .string sv, .int .i64 k, .slice A len c] 52)).alloc (.cells #[.slice none 0 0, .int .i64 0, .int .i64 0] 65)).alloc (.cells #[.slice none 0 0, .int .i64 0, .int .i64 0] 65)) := keeps_trans (keeps_trans (keeps_alloc _ _) (keeps_alloc _ _)) (keeps_alloc _ _)
  have hs3 : ((((w.alloc (.cells #[.int .i64 6, .string sv, .int .i64 k, .slice A len c] 52)).alloc (.cells #[.slice none 0 0, .int .i64 0, .int .i64 0] 65)).alloc (.cells #[.slice none 0 0, .int .i64 0, .int .i64 0] 65))).heap.size = w.heap.size + 3 := by simp
  have B1 := box_mid10 w (.cells #[.int .i64 6, .string sv, .int .i64 k, .slice A len c] 52) 65 #[.slice none 0 0, .int .i64 0, .int .i64 0] (.cells #[.slice none 0 0, .int .i64 0, .int .i64 0] 65)
  have B2 := box_third10 w (.cells #[.int .i64 6, .string sv, .int .i64 k, .slice A len c] 52) (.cells #[.slice none 0 0, .int .i64 0, .int .i64 0] 65) 65 #[.slice none 0 0, .int .i64 0, .int .i64 0]
  have CC := Lib.hid (fun V A' c' kv o => C _ V A' c' kW kv kW.size o)
  have HL := Lib.hid hL
  have HS3 := Lib.hid hs3
  have CB0 := Lib.hid (copyBytes_any A len c l _ (hB.keep kW) hlen (by unfold maxLen; omega))
  have HLL := Lib.hid hlen.symm
  generalize len = L at *
  have OB := Lib.hid ((Box.new w 52 #[.int .i64 6, .string sv, .int .i64 k, .slice A L c]).keep (keeps_trans (keeps_alloc (w.alloc (.cells #[.int .i64 6, .string sv, .int .i64 k, .slice A L c] 52)) (.cells #[.slice none 0 0, .int .i64 0, .int .i64 0] 65)) (keeps_alloc _ (.cells #[.slice none 0 0, .int .i64 0, .int .i64 0] 65))))
  clear C hL hlen hB
  go_enter Tryz.func26, Tryz.ntmps26
  go_wp2_with fail
  refine CB0.out.mono ?_
  rintro e w1 ⟨v1, rfl, o1, k1⟩
  rw [HLL.out] at o1
  obtain ⟨A1, c1, rfl, -⟩ := o1.form
  have CC1 := Lib.hid (CC.out w1 A1 c1 k1 o1)
  rw [hs3] at o1
  have hsz1 : w.heap.size + 3 ≤ w1.heap.size := by have := k1.size; omega
  have z1 := (OB.out.keep k1).cell 1 rfl
  have z2 := (OB.out.keep k1).cell 2 rfl
  have O1 := Lib.hid o1
  have K1 := Lib.hid k1
  clear o1 k1 CB0 CC
  go_wp2_with fail
  refine CC1.out.mono ?_
  rintro e w2 ⟨rfl, S', hJ, hT⟩
  have n1 : ¬ S (w.heap.size + 1) := fun e => by have := HL.out _ e; omega
  have n2 : ¬ S (w.heap.size + 1 + 1) := fun e => by have := HL.out _ e; omega
  have X1 := (B1.keep K1.out).turned hT n1
  have X2 := (B2.keep K1.out).turned hT n2
  have c10 := X1.cell 0 rfl
  have c20 := X2.cell 0 rfl
  have c22 := X2.cell 2 rfl
  have f22 := X2.frozen 2
  have f20 := X2.frozen 0
  have nG : ∀ g, (Value.slice A1 L c1).ownBlock = some g → ¬ S g := fun g hg e => by have h1 := (O1.out.lt g hg).1; have h2 := HL.out _ e; omega
  have NV := Lib.hid (show ∀ g, (Value.slice A1 L c1).ownBlock = some g → ¬ S' g from fun g hg => hT.notIn (O1.out.lt g hg).2 (nG g hg))
  have O2 := O1.out.turns hT nG
  have sz12 := hT.only.size
  have T1 := Lib.hid ((Turns.of_keeps (keeps_trans kW K1.out)).trans hT)
  have NS := Lib.hid (show (∀ i, w.heap.size ≤ i → i < w.heap.size + 3 → ¬ S' i) from fun i h1 h2 hs => by
    rcases hT.next i hs with h | h
    · have := HL.out i h; omega
    · omega)
  have XB := Lib.hid (show Box (w2.setCell ⟨w.heap.size + 1 + 1, 2, none⟩ (.int .i64 E)) (w.heap.size + 1 + 1) 65 #[.slice none 0 0, .int .i64 0, .int .i64 E] from X2.set 2 (.int .i64 E))
  have YB := Lib.hid (X1.far (p := ⟨w.heap.size + 1 + 1, 2, none⟩) (show w.heap.size + 1 ≠ w.heap.size + 1 + 1 by omega) (.int .i64 E))
  have OX := Lib.hid (O2.same (w' := w2.setCell ⟨w.heap.size + 1 + 1, 2, none⟩ (.int .i64 E)) (fun j hj => Below.heap_setCell w2 ⟨w.heap.size + 1 + 1, 2, none⟩ (.int .i64 E) j (fun e => by have h1 := (O2.lt j hj).1; have h2 : j = w.heap.size + 1 + 1 := e; omega)))
  have SX : w2.heap.size ≤ (w2.setCell ⟨w.heap.size + 1 + 1, 2, none⟩ (.int .i64 E)).heap.size := by simp
  have J2 := Lib.hid (st.turn hJ (only_set w2 ⟨w.heap.size + 1 + 1, 2, none⟩ (.int .i64 E)) (fun i hi => by rw [show i = w.heap.size + 1 + 1 from hi]; exact ⟨by omega, NS.out _ (by omega) (by omega)⟩))
  have T2 := Lib.hid (T1.out.put10 ⟨w.heap.size + 1 + 1, 2, none⟩ (.int .i64 E) (show w.heap.size ≤ w.heap.size + 1 + 1 by omega))
  have CB := Lib.hid (copyBytes_any A1 L c1 l (w2.setCell ⟨w.heap.size + 1 + 1, 2, none⟩ (.int .i64 E)) OX.out.at_ HLL.out.symm (by unfold maxLen; omega))
  clear O2 X1 X2 B1 B2 hT hJ n1 n2 nG z1 z2
  go_wp2_with fail
  obtain ⟨w3, hw3⟩ : ∃ w3, w2.setCell ⟨w.heap.size + 1 + 1, 2, none⟩ (.int .i64 E) = w3 := ⟨_, rfl⟩
  rw [hw3] at XB YB OX SX J2 T2 CB ⊢
  clear hw3 c10 c20 c22 f20 f22
  refine CB.out.mono ?_
  rintro e w4 ⟨v4, rfl, o4, k4⟩
  rw [HLL.out] at o4
  obtain ⟨A2, c2, rfl, -⟩ := o4.form
  have X4 := XB.out.keep k4
  have Y4 := YB.out.keep k4
  have c20 := X4.cell 0 rfl
  have c21 := X4.cell 1 rfl
  have c22 := X4.cell 2 rfl
  have f20 := X4.frozen 0
  have sz4 := k4.size
  have SZ2 := Lib.hid (show w.heap.size + 3 ≤ w3.heap.size from Nat.le_trans hsz1 (Nat.le_trans sz12 SX))
  have O14 := OX.out.keep k4
  have X5 := Lib.hid (show Box (w4.setCell ⟨w.heap.size + 1 + 1, 0, none⟩ (.slice A2 L c2)) (w.heap.size + 1 + 1) 65 #[.slice A2 L c2, .int .i64 0, .int .i64 E] by simpa using X4.set 0 (.slice A2 L c2))
  have Y5 := Lib.hid (Y4.far (p := ⟨w.heap.size + 1 + 1, 0, none⟩) (show w.heap.size + 1 ≠ w.heap.size + 1 + 1 by omega) (.slice A2 L c2))
  have O15 := Lib.hid (O14.same (fun k hk => Below.heap_setCell w4 ⟨w.heap.size + 1 + 1, 0, none⟩ (.slice A2 L c2) k (fun e => by have h1 := (O14.lt k hk).1; have h2 : k = w.heap.size + 1 + 1 := e; omega)))
  have O25 := Lib.hid (o4.same (fun k hk => Below.heap_setCell w4 ⟨w.heap.size + 1 + 1, 0, none⟩ (.slice A2 L c2) k (fun e => by have h1 := (o4.lt k hk).1; have h2 : k = w.heap.size + 1 + 1 := e; have := SZ2.out; omega)))
  have J5 := Lib.hid (st.turn (st.turn J2.out (Only.of_keeps k4) (fun i hi => hi.elim)) (only_set w4 ⟨w.heap.size + 1 + 1, 0, none⟩ (.slice A2 L c2)) (fun i hi => by rw [show i = w.heap.size + 1 + 1 from hi]; exact ⟨by omega, NS.out _ (by omega) (by omega)⟩))
  have T5 := Lib.hid ((T2.out.trans (Turns.of_keeps k4)).put10 ⟨w.heap.size + 1 + 1, 0, none⟩ (.slice A2 L c2) (show w.heap.size ≤ w.heap.size + 1 + 1 by omega))
  have LT2 := Lib.hid (show ∀ g, (Value.slice A1 L c1).ownBlock = some g → g < w3.heap.size from fun g hg => (OX.out.lt g hg).2)
  have NV2 := Lib.hid (show ∀ g, (Value.slice A2 L c2).ownBlock = some g → ¬ S' g from fun g hg hs => by
    have h1 := (o4.lt g hg).1
    have h2 := st.lt J2.out g hs
    omega)
  clear o4 k4 X4 Y4 O14 sz4 sz12
  go_wp2_with fail
  go_loopw [11] (fun i wr => ∃ (j : Nat) (ys : List Value), j ≤ L ∧ i = .int .i64 j ∧ Hid (Own wr (w.heap.size + 3) 5 1 (.slice A1 L c1) L ys) ∧ Hid (Own wr w3.heap.size 5 1 (.slice A2 L c2) L (cel l)) ∧ Hid (Box wr (w.heap.size + 1 + 1) 65 #[.slice A2 L c2, .int .i64 0, .int .i64 E]) ∧ Hid (Box wr (w.heap.size + 1) 65 #[.slice none 0 0, .int .i64 0, .int .i64 0]) ∧ Hid (J' S' wr) ∧ Hid (Turns w wr S S')) (fun i _ => L - (intOf i).toNat)
  case atStart => exact ⟨0, _, Nat.zero_le _, rfl, O15, O25, X5, Y5, J5, T5⟩
  case round =>
    clear O15 O25 X5 Y5 J5 T5
    obtain ⟨j, ys, hj, rfl, HO1, HO2, XB, YB, HVR, TR⟩ := hrel
    by_cases hlt : j < L
    · have hji : (j : Int) < (L : Int) := by omega
      have hlen : ys.length = L := by have := HO1.out.1; omega
      obtain ⟨g, rfl, hcc, hff, hgb⟩ := HO1.out.cell (j := j) (by omega)
      obtain ⟨u, hu⟩ : ∃ u, ys[j]? = some u := ⟨_, List.getElem?_eq_getElem (by omega)⟩
      rw [hu] at hcc
      have hg1 := LT2.out g rfl
      have N1 := Lib.hid (HO1.out.store (j := j) (by omega) (.int .u8 237))
      have N2 := Lib.hid (HO2.out.same (fun k hk => Below.heap_setCell wr ⟨g, j, none⟩ (.int .u8 237) k (fun e => by have := (HO2.out.lt k hk).1; simp only at e; omega)))
      have NX := Lib.hid (XB.out.far (p := ⟨g, j, none⟩) (show w.heap.size + 1 + 1 ≠ g by omega) (.int .u8 237))
      have NY := Lib.hid (YB.out.far (p := ⟨g, j, none⟩) (show w.heap.size + 1 ≠ g by omega) (.int .u8 237))
      have NH := Lib.hid (st.turn HVR.out (only_set wr ⟨g, j, none⟩ (.int .u8 237)) (fun i hi => by rw [show i = g from hi]; exact ⟨by omega, NV.out g rfl⟩))
      have NT := Lib.hid (TR.out.put10 ⟨g, j, none⟩ (.int .u8 237) (by show w.heap.size ≤ g; omega))
      clear hu hlen hg1 hgb hlt
      go_wp2_with fail
      go_roundw
      case rel => exact ⟨j + 1, _, by omega, by go_num, N1, N2, NX, NY, NH, NT⟩
      case measure => simp [intOf] <;> omega
    · obtain rfl : L = j := by omega
      have c20 := XB.out.cell 0 rfl
      have c21 := XB.out.cell 1 rfl
      have c22 := XB.out.cell 2 rfl
      have c10 := YB.out.cell 0 rfl
      have c11 := YB.out.cell 1 rfl
      have c12 := YB.out.cell 2 rfl
      have f10 := YB.out.frozen 0
      have f11 := YB.out.frozen 1
      have f12 := YB.out.frozen 2
      clear hlt hj
      go_wp2_with fail
      have ZB : Box ((((wr).setCell ⟨w.heap.size + 1, 0, none⟩ (.slice A2 L c2)).setCell ⟨w.heap.size + 1, 1, none⟩ (.int .i64 0)).setCell ⟨w.heap.size + 1, 2, none⟩ (.int .i64 E)) (w.heap.size + 1) 65 #[.slice A2 L c2, .int .i64 0, .int .i64 E] := by simpa using (((YB.out.set 0 (.slice A2 L c2)).set 1 (.int .i64 0)).set 2 (.int .i64 E))
      have ZO : Only wr ((((wr).setCell ⟨w.heap.size + 1, 0, none⟩ (.slice A2 L c2)).setCell ⟨w.heap.size + 1, 1, none⟩ (.int .i64 0)).setCell ⟨w.heap.size + 1, 2, none⟩ (.int .i64 E)) (fun i => w.heap.size ≤ i ∧ i < w.heap.size + 3) := only_xt wr (w.heap.size) (w.heap.size + 3) [((⟨w.heap.size + 1, 0, none⟩ : Addr), (.slice A2 L c2 : Value)), (⟨w.heap.size + 1, 1, none⟩, .int .i64 0), (⟨w.heap.size + 1, 2, none⟩, .int .i64 E)] (by intro p hp; simp only [List.mem_cons, List.not_mem_nil, or_false] at hp; rcases hp with rfl | rfl | rfl <;> simp only <;> omega)
      have ZH := st.turn HVR.out ZO (fun i hi => ⟨by omega, NS.out i hi.1 hi.2⟩)
      have ZT : Turns w ((((wr).setCell ⟨w.heap.size + 1, 0, none⟩ (.slice A2 L c2)).setCell ⟨w.heap.size + 1, 1, none⟩ (.int .i64 0)).setCell ⟨w.heap.size + 1, 2, none⟩ (.int .i64 E)) S S' := ⟨TR.out.only.trans ZO (fun i hi => .inr hi.1), TR.out.next⟩
      generalize ((((wr).setCell ⟨w.heap.size + 1, 0, none⟩ (.slice A2 L c2)).setCell ⟨w.heap.size + 1, 1, none⟩ (.int .i64 0)).setCell ⟨w.heap.size + 1, 2, none⟩ (.int .i64 E)) = W4 at *
      have d0 := ZB.cell 0 rfl
      have d1 := ZB.cell 1 rfl
      have d2 := ZB.cell 2 rfl
      refine bodyPost_ret (v := .agg #[.slice A2 L c2, .int .i64 0, .int .i64 E]) (by simp [results, Tryz.results26, go_sem, d0, d1, d2]) rfl ?_
      refine ⟨.slice A2 L c2, S', rfl, ?_, ZH, ZT, NV2.out⟩
      rw [HLL.out]
      exact (HO2.out.only_ ZO (fun k hk hs => by have := (HO2.out.lt k hk).1; have := SZ2.out; omega)).base_le (by have := SZ2.out; omega)
set_option maxHeartbeats 8000000 in
theorem does10_none (st : Stay w0 J') (hL : ∀ i, S i → i < w.heap.size) (hw0 : w0.heap.size ≤ w.heap.size) (hj : J' S w) (pv dv : Value) (sv : ByteArray) (kind k : Int) (hk : kind < 0 ∨ 11 < kind) (A : Option Addr) (len c : Nat) :
    Calls Tryz.prog 26 #[pv, dv, .agg #[.int .i64 kind, .string sv, .int .i64 k, .slice A len c]] w (Done10 w S J' [] 0 0) := by
  have kW : Keeps w (((w.alloc (.cells #[.int .i64 kind, .string sv, .int .i64 k, .slice A len c] 52)).alloc (.cells #[.slice none 0 0, .int .i64 0, .int .i64 0] 65)).alloc (.cells #[.slice none 0 0, .int .i64 0, .int .i64 0] 65)) := keeps_trans (keeps_trans (keeps_alloc _ _) (keeps_alloc _ _)) (keeps_alloc _ _)
  have hs3 : ((((w.alloc (.cells #[.int .i64 kind, .string sv, .int .i64 k, .slice A len c] 52)).alloc (.cells #[.slice none 0 0, .int .i64 0, .int .i64 0] 65)).alloc (.cells #[.slice none 0 0, .int .i64 0, .int .i64 0] 65))).heap.size = w.heap.size + 3 := by simp
  have B1 := box_mid10 w (.cells #[.int .i64 kind, .string sv, .int .i64 k, .slice A len c] 52) 65 #[.slice none 0 0, .int .i64 0, .int .i64 0] (.cells #[.slice none 0 0, .int .i64 0, .int .i64 0] 65)
  have B2 := box_third10 w (.cells #[.int .i64 kind, .string sv, .int .i64 k, .slice A len c] 52) (.cells #[.slice none 0 0, .int .i64 0, .int .i64 0] 65) 65 #[.slice none 0 0, .int .i64 0, .int .i64 0]
  have HJ := Lib.hid (st.turn hj (Only.of_keeps kW) (fun i hi => hi.elim))
  have FIN := Lib.hid (fun w1 W4 S' => done10 (W4 := W4) (w1 := w1) (S' := S') st hL hw0 kW hs3)
  have q0 : (kind == 0) = false := by rw [beq_eq_false_iff_ne]; omega
  have q1 : (kind == 1) = false := by rw [beq_eq_false_iff_ne]; omega
  have q2 : (kind == 2) = false := by rw [beq_eq_false_iff_ne]; omega
  have q3 : (kind == 3) = false := by rw [beq_eq_false_iff_ne]; omega
  have q4 : (kind == 4) = false := by rw [beq_eq_false_iff_ne]; omega
  have q5 : (kind == 5) = false := by rw [beq_eq_false_iff_ne]; omega
  have q6 : (kind == 6) = false := by rw [beq_eq_false_iff_ne]; omega
  have q7 : (kind == 7) = false := by rw [beq_eq_false_iff_ne]; omega
  have q8 : (kind == 8) = false := by rw [beq_eq_false_iff_ne]; omega
  have q9 : (kind == 9) = false := by rw [beq_eq_false_iff_ne]; omega
  have qa : (kind == 10) = false := by rw [beq_eq_false_iff_ne]; omega
  have qb : (kind == 11) = false := by rw [beq_eq_false_iff_ne]; omega
  clear hj hL hk
  go_enter Tryz.func26, Tryz.ntmps26
  have c10 := B1.cell 0 rfl
  have c11 := B1.cell 1 rfl
  have c12 := B1.cell 2 rfl
  have f10 := B1.frozen 0
  have f11 := B1.frozen 1
  have f12 := B1.frozen 2
  have c20 := B2.cell 0 rfl
  have c21 := B2.cell 1 rfl
  have c22 := B2.cell 2 rfl
  have XB := Lib.hid (show Box (((((((w.alloc (.cells #[.int .i64 kind, .string sv, .int .i64 k, .slice A len c] 52)).alloc (.cells #[.slice none 0 0, .int .i64 0, .int .i64 0] 65)).alloc (.cells #[.slice none 0 0, .int .i64 0, .int .i64 0] 65))).setCell ⟨w.heap.size + 1, 0, none⟩ (.slice none 0 0)).setCell ⟨w.heap.size + 1, 1, none⟩ (.int .i64 0)).setCell ⟨w.heap.size + 1, 2, none⟩ (.int .i64 0)) (w.heap.size + 1) 65 #[.slice none 0 0, .int .i64 0, .int .i64 0] by simpa using (((B1.set 0 (.slice none 0 0)).set 1 (.int .i64 0)).set 2 (.int .i64 0)))
  have XO := Lib.hid (show Only (((w.alloc (.cells #[.int .i64 kind, .string sv, .int .i64 k, .slice A len c] 52)).alloc (.cells #[.slice none 0 0, .int .i64 0, .int .i64 0] 65)).alloc (.cells #[.slice none 0 0, .int .i64 0, .int .i64 0] 65)) (((((((w.alloc (.cells #[.int .i64 kind, .string sv, .int .i64 k, .slice A len c] 52)).alloc (.cells #[.slice none 0 0, .int .i64 0, .int .i64 0] 65)).alloc (.cells #[.slice none 0 0, .int .i64 0, .int .i64 0] 65))).setCell ⟨w.heap.size + 1, 0, none⟩ (.slice none 0 0)).setCell ⟨w.heap.size + 1, 1, none⟩ (.int .i64 0)).setCell ⟨w.heap.size + 1, 2, none⟩ (.int .i64 0)) (fun i => w.heap.size ≤ i ∧ i < w.heap.size + 3) from only_xt (((w.alloc (.cells #[.int .i64 kind, .string sv, .int .i64 k, .slice A len c] 52)).alloc (.cells #[.slice none 0 0, .int .i64 0, .int .i64 0] 65)).alloc (.cells #[.slice none 0 0, .int .i64 0, .int .i64 0] 65)) w.heap.size (w.heap.size + 3) [((⟨w.heap.size + 1, 0, none⟩ : Addr), (.slice none 0 0 : Value)), (⟨w.heap.size + 1, 1, none⟩, .int .i64 0), (⟨w.heap.size + 1, 2, none⟩, .int .i64 0)] (by intro p hp; simp only [List.mem_cons, List.not_mem_nil, or_false] at hp; rcases hp with rfl | rfl | rfl <;> simp only <;> omega))
  have YB := Lib.hid B1
  clear B1 B2
  go_wp2_with fail
  have d0 := XB.out.cell 0 rfl
  have d1 := XB.out.cell 1 rfl
  have d2 := XB.out.cell 2 rfl
  refine bodyPost_ret (v := .agg #[.slice none 0 0, .int .i64 0, .int .i64 0]) (by simp [results, Tryz.results26, go_sem, d0, d1, d2]) rfl ?_
  first
    | exact ⟨_, S, rfl, Own.nil _ _ _ _, (FIN.out _ _ S HJ.out (Turns.refl _ _) XO.out).1, (FIN.out _ _ S HJ.out (Turns.refl _ _) XO.out).2, fun g hg => by cases hg⟩
    | exact ⟨_, S, rfl, Own.nil _ _ _ _, (FIN.out _ _ S HJ.out (Turns.refl _ _) (Only.refl _ _)).1, (FIN.out _ _ S HJ.out (Turns.refl _ _) (Only.refl _ _)).2, fun g hg => by cases hg⟩
end
end Go.Proofs.YtamboappeahgpaaGreatDoor
