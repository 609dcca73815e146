/- What the calls of package heap answer; the first walks of layer 4's statements. -/
import Derived.Test.YtkijfbnibfbldaaProg
import Derived.Test.YtkijfbnibfbldaaOnly
import Derived.Test.YtkijfbnibfbldaaHeapMath
import Derived.Deep.RegionHeld3
import Derived.Outline
namespace Go.Proofs.Ytkijfbnibfbldaa
open Go.RowKit
set_option linter.unusedSimpArgs false
set_option linter.unusedVariables false
set_option maxRecDepth 100000

/-- What a law leaves. -/
def Yes (w : World) (e : Ending) (w' : World) : Prop := e = .returned (.bool true) ∧ Keeps w w'
/-- What the calls of package heap answer, whatever a heap is made of: H w p F l: at p stands, in the blocks F, a heap of the items l. -/
structure HeapOk where
  H : World → Addr → (Nat → Prop) → List It → Prop
  lt : ∀ {w p F l}, H w p F l → ∀ b, F b → b < w.heap.size
  same : ∀ {w w' p F l}, H w p F l → (∀ b, F b → w'.heap[b]? = w.heap[b]?) → H w' p F l
  perm : ∀ {w p F l m}, H w p F l → l.Perm m → H w p F m
  new : ∀ w, Calls Try.prog 36 #[] w fun e w' => ∃ p F, e = .returned (.pointer (some p)) ∧ H w' p F [] ∧ (∀ b, F b → w.heap.size ≤ b) ∧ Keeps w w'
  push : ∀ {w p F l} (x : It), H w p F l → ItOk x → l.length < 65536 → Calls Try.prog 44 #[.pointer (some p), .agg #[.int .u64 (x.k : Int), .int .u32 (x.i : Int)]] w fun e w' => ∃ F', e = .returned (.int .i64 0) ∧ H w' p F' (x :: l) ∧ Turns w w' F F'
  full : ∀ {w p F l} (x : It), H w p F l → ItOk x → l.length = 65536 → Calls Try.prog 44 #[.pointer (some p), .agg #[.int .u64 (x.k : Int), .int .u32 (x.i : Int)]] w fun e w' => ∃ F', e = .returned (.int .i64 9) ∧ H w' p F' l ∧ Turns w w' F F'
  pop : ∀ {w p F l} (x : It), H w p F l → Least x l → (∀ y ∈ l, ItOk y) → l.length ≤ 65536 → Calls Try.prog 38 #[.pointer (some p)] w fun e w' => ∃ F', e = .returned (.tuple #[.agg #[.int .u64 (x.k : Int), .int .u32 (x.i : Int)], .bool true]) ∧ H w' p F' (l.erase x) ∧ Turns w w' F F'
  empty : ∀ {w p F}, H w p F [] → Calls Try.prog 38 #[.pointer (some p)] w fun e w' => ∃ F', e = .returned (.tuple #[.agg #[.int .u64 0, .int .u32 0], .bool false]) ∧ H w' p F' [] ∧ Turns w w' F F'
  len : ∀ {w p F l}, H w p F l → l.length ≤ 65536 → Calls Try.prog 42 #[.pointer (some p)] w fun e w' => e = .returned (.int .i64 (l.length : Int)) ∧ Keeps w w'
  pushNil : ∀ (x : It) (w : World), ItOk x → Calls Try.prog 44 #[.pointer none, .agg #[.int .u64 (x.k : Int), .int .u32 (x.i : Int)]] w fun e w' => e = .returned (.int .i64 2) ∧ Keeps w w'
  popNil : ∀ (w : World), Calls Try.prog 38 #[.pointer none] w fun e w' => e = .returned (.tuple #[.agg #[.int .u64 0, .int .u32 0], .bool false]) ∧ Keeps w w'
  lenNil : ∀ (w : World), Calls Try.prog 42 #[.pointer none] w fun e w' => e = .returned (.int .i64 0) ∧ Keeps w w'

/-- A heap of the call's own: all its blocks lie from B on. -/
structure Mine (K : HeapOk) (B : Nat) (w : World) (p : Addr) (F : Nat → Prop) (l : List It) : Prop where
  h : K.H w p F l
  b : ∀ b, F b → B ≤ b
theorem Mine.keep {K : HeapOk} {B : Nat} {w w' : World} {p : Addr} {F : Nat → Prop} {l : List It} (m : Mine K B w p F l) (k : Keeps w w') : Mine K B w' p F l := ⟨K.same m.h (k.same (K.lt m.h)), m.b⟩
theorem Mine.next {K : HeapOk} {B : Nat} {w w' : World} {p : Addr} {F F' : Nat → Prop} {l l' : List It} (m : Mine K B w p F l) (h : K.H w' p F' l') (t : Turns w w' F F') (hB : B ≤ w.heap.size) : Mine K B w' p F' l' :=
  ⟨h, fun b hb => by rcases t.next b hb with e | e; exact m.b b e; omega⟩

end Go.Proofs.Ytkijfbnibfbldaa
