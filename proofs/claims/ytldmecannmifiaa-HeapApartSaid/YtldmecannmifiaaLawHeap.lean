/- What the calls of package heap answer; the first walks of layer 4's statements. -/
import Derived.Test.YtldmecannmifiaaProg
import Derived.Test.YtldmecannmifiaaOnly
import Derived.Test.YtldmecannmifiaaHeapMath
import Derived.Deep.RegionHeld3
import Derived.Outline
namespace Go.Proofs.Ytldmecannmifiaa
open Go.RowKit
set_option linter.unusedSimpArgs false
set_option linter.unusedVariables false
set_option maxRecDepth 100000

/-- What a law leaves. -/
def Yes (w : World) (e : Ending) (w' : World) : Prop := e = .returned (.bool true) ∧ Keeps w w'
/-- What the calls of package heap answer, whatever a heap is made of: H w p F l: at p stands, in the blocks F, a heap of the items l. -/
structure HeapOk where
  H : World → Addr → (Nat → Prop) → List It → Prop
  lt : ∀ {w p F l}, H w p F l → ∀ b, F b → b < w.heap.size
  same : ∀ {w w' p F l}, H w p F l → (∀ b, F b → w'.heap[b]? = w.heap[b]?) → H w' p F l
  perm : ∀ {w p F l m}, H w p F l → l.Perm m → H w p F m
  new : ∀ w, Calls Try.prog 10 #[] w fun e w' => ∃ p F, e = .returned (.pointer (some p)) ∧ H w' p F [] ∧ (∀ b, F b → w.heap.size ≤ b) ∧ Keeps w w'
  push : ∀ {w p F l} (x : It), H w p F l → ItOk x → l.length < 65536 → Calls Try.prog 13 #[.pointer (some p), .agg #[.int .u64 (x.k : Int), .int .u32 (x.i : Int)]] w fun e w' => ∃ F', e = .returned (.int .i64 0) ∧ H w' p F' (x :: l) ∧ Turns w w' F F'
  full : ∀ {w p F l} (x : It), H w p F l → ItOk x → l.length = 65536 → Calls Try.prog 13 #[.pointer (some p), .agg #[.int .u64 (x.k : Int), .int .u32 (x.i : Int)]] w fun e w' => ∃ F', e = .returned (.int .i64 9) ∧ H w' p F' l ∧ Turns w w' F F'
  pop : ∀ {w p F l} (x : It), H w p F l → Least x l → (∀ y ∈ l, ItOk y) → l.length ≤ 65536 → Calls Try.prog 11 #[.pointer (some p)] w fun e w' => ∃ F', e = .returned (.tuple #[.agg #[.int .u64 (x.k : Int), .int .u32 (x.i : Int)], .bool true]) ∧ H w' p F' (l.erase x) ∧ Turns w w' F F'
  empty : ∀ {w p F}, H w p F [] → Calls Try.prog 11 #[.pointer (some p)] w fun e w' => ∃ F', e = .returned (.tuple #[.agg #[.int .u64 0, .int .u32 0], .bool false]) ∧ H w' p F' [] ∧ Turns w w' F F'
  len : ∀ {w p F l}, H w p F l → l.length ≤ 65536 → Calls Try.prog 15 #[.pointer (some p)] w fun e w' => e = .returned (.int .i64 (l.length : Int)) ∧ Keeps w w'
  pushNil : ∀ (x : It) (w : World), ItOk x → Calls Try.prog 13 #[.pointer none, .agg #[.int .u64 (x.k : Int), .int .u32 (x.i : Int)]] w fun e w' => e = .returned (.int .i64 2) ∧ Keeps w w'
  popNil : ∀ (w : World), Calls Try.prog 11 #[.pointer none] w fun e w' => e = .returned (.tuple #[.agg #[.int .u64 0, .int .u32 0], .bool false]) ∧ Keeps w w'
  lenNil : ∀ (w : World), Calls Try.prog 15 #[.pointer none] w fun e w' => e = .returned (.int .i64 0) ∧ Keeps w w'

/-- A heap of the call's own: all its blocks lie from B on. -/
structure Mine (K : HeapOk) (B : Nat) (w : World) (p : Addr) (F : Nat → Prop) (l : List It) : Prop where
  h : K.H w p F l
  b : ∀ b, F b → B ≤ b
theorem Mine.keep {K : HeapOk} {B : Nat} {w w' : World} {p : Addr} {F : Nat → Prop} {l : List It} (m : Mine K B w p F l) (k : Keeps w w') : Mine K B w' p F l := ⟨K.same m.h (k.same (K.lt m.h)), m.b⟩
theorem Mine.next {K : HeapOk} {B : Nat} {w w' : World} {p : Addr} {F F' : Nat → Prop} {l l' : List It} (m : Mine K B w p F l) (h : K.H w' p F' l') (t : Turns w w' F F') (hB : B ≤ w.heap.size) : Mine K B w' p F' l' :=
  ⟨h, fun b hb => by rcases t.next b hb with e | e; exact m.b b e; omega⟩

set_option maxHeartbeats 1000000 in
theorem works_heap (K : HeapOk) (w : World) : Calls Try.prog 17 #[] w (Yes w) := by
  go_enter Try.func17, Try.ntmps17
  go_wp2_with fail
  refine (K.new w).mono ?_
  rintro e w1 ⟨p, F, rfl, h1, hF, k1⟩
  have M1 : Mine K w.heap.size w1 p F [] := ⟨h1, hF⟩
  clear h1 hF
  go_wp2_with fail
  refine (K.push ⟨5, 1⟩ M1.h ⟨by decide, by decide⟩ (by decide)).mono ?_
  rintro e w2 ⟨F2, rfl, h2, t2⟩
  have M2 := M1.next h2 t2 k1.size
  have k2 := t2.keeps k1 M1.b
  clear h2 t2 M1 k1
  go_wp2_with fail
  refine (K.push ⟨3, 9⟩ M2.h ⟨by decide, by decide⟩ (by decide)).mono ?_
  rintro e w3 ⟨F3, rfl, h3, t3⟩
  have M3 := M2.next h3 t3 k2.size
  have k3 := t3.keeps k2 M2.b
  clear h3 t3 M2 k2
  go_wp2_with fail
  refine (K.pop ⟨3, 9⟩ M3.h ⟨by simp, by intro y hy; simp at hy; rcases hy with rfl | rfl <;> decide⟩ (by intro y hy; simp at hy; rcases hy with rfl | rfl <;> exact ⟨by decide, by decide⟩) (by decide)).mono ?_
  rintro e w4 ⟨F4, rfl, h4, t4⟩
  have M4 := M3.next h4 t4 k3.size
  have k4 := t4.keeps k3 M3.b
  clear h4 t4 M3 k3
  have M5 := M4.keep (keeps_alloc _ (.cells #[.int .u64 3, .int .u32 9] 32))
  have k5 := keeps_trans k4 (keeps_alloc _ (.cells #[.int .u64 3, .int .u32 9] 32))
  go_wp2_with fail
  refine (K.len M5.h (by decide)).mono ?_
  rintro e w6 ⟨rfl, k6⟩
  go_wp2_with fail
  go_ret
  exact ⟨rfl, keeps_trans k5 k6⟩

set_option maxHeartbeats 1000000 in
theorem nil_walk (K : HeapOk) (x : It) (hx : ItOk x) (w : World) : Calls Try.prog 7 #[.agg #[.int .u64 (x.k : Int), .int .u32 (x.i : Int)]] w (Yes w) := by
  go_enter Try.func7, Try.ntmps7
  go_wp2_with fail
  have k0 := keeps_alloc w (.cells #[.int .u64 (x.k : Int), .int .u32 (x.i : Int)] 32)
  have B0 := Box.new w 32 #[.int .u64 (x.k : Int), .int .u32 (x.i : Int)]
  generalize w.alloc (.cells #[.int .u64 (x.k : Int), .int .u32 (x.i : Int)] 32) = W0 at *
  refine (K.popNil _).mono ?_
  rintro e w1 ⟨rfl, k1⟩
  have B1 := B0.keep k1
  have hb := B1.lt
  have c0 := B1.cell 0 rfl
  have c1 := B1.cell 1 rfl
  go_wp2_with fail
  refine (K.pushNil x _ hx).mono ?_
  rintro e w2 ⟨rfl, k2⟩
  have Z2 := (Box.new w1 32 #[.int .u64 0, .int .u32 0]).keep k2
  have z0 := Z2.cell 0 rfl
  have z1 := Z2.cell 1 rfl
  go_wp2_with fail
  refine (K.lenNil _).mono ?_
  rintro e w3 ⟨rfl, k3⟩
  go_wp2_with fail
  refine (works_heap K _).mono ?_
  rintro e w4 ⟨rfl, k4⟩
  go_wp2_with fail
  go_ret
  exact ⟨rfl, keeps_trans k0 (keeps_trans k1 (keeps_trans (keeps_alloc _ _) (keeps_trans k2 (keeps_trans k3 k4))))⟩
end Go.Proofs.Ytldmecannmifiaa
