/- What stays but for some blocks: objects that calls of their own turn. -/
import Derived.Test.YtdfaogagadoooaaBase
namespace Go.Proofs.Ytdfaogagadoooaa
open Go.RowKit
set_option linter.unusedVariables false
set_option maxRecDepth 100000

/-! ### What stays but for some blocks -/
structure Only (w w' : World) (S : Nat → Prop) : Prop where
  os : w'.os = w.os
  tape : w'.tape = w.tape
  output : w'.output = w.output
  size : w.heap.size ≤ w'.heap.size
  block : ∀ k, k < w.heap.size → ¬ S k → w'.heap[k]? = w.heap[k]?
theorem Only.refl (w : World) (S : Nat → Prop) : Only w w S := ⟨rfl, rfl, rfl, Nat.le_refl _, fun _ _ _ => rfl⟩
theorem Only.trans {w w1 w2 : World} {S S1 : Nat → Prop} (h : Only w w1 S) (k : Only w1 w2 S1) (hS : ∀ i, S1 i → S i ∨ w.heap.size ≤ i) : Only w w2 S :=
  ⟨k.os.trans h.os, k.tape.trans h.tape, k.output.trans h.output, Nat.le_trans h.size k.size, fun i hi hn => (k.block i (Nat.lt_of_lt_of_le hi h.size) (fun e => by rcases hS i e with e | e; exact hn e; omega)).trans (h.block i hi hn)⟩
theorem Only.of_keeps {w w' : World} (k : Keeps w w') : Only w w' (fun _ => False) := ⟨k.os, k.tape, k.output, k.size, fun i hi _ => k.block i hi⟩
theorem Only.keep {w w1 w2 : World} {S : Nat → Prop} (h : Only w w1 S) (k : Keeps w1 w2) : Only w w2 S := h.trans (Only.of_keeps k) (fun _ e => e.elim)
theorem Only.grown {w w1 w2 : World} {S : Nat → Prop} {row : Option Nat} (h : Only w w1 S) (k : w1.grownBy w2 row) (hr : ∀ g, row = some g → S g ∨ w.heap.size ≤ g) : Only w w2 S :=
  h.trans (S1 := fun i => row = some i) ⟨k.os, k.tape, k.output, k.size, fun i hi hn => k.block i hi (fun e => hn e.symm)⟩ (fun i e => hr i e)
theorem Only.below {w w' : World} {S : Nat → Prop} {B : Nat} (h : Only w w' S) (hS : ∀ k, S k → B ≤ k) (hB : B ≤ w.heap.size) : Below B w w' :=
  ⟨h.os, h.tape, h.output, h.size, fun k hk => h.block k (by omega) (fun e => by have := hS k e; omega)⟩
/-- an object of blocks S has become one of blocks S'; nothing else has turned -/
structure Turns (w w' : World) (S S' : Nat → Prop) : Prop where
  only : Only w w' S
  next : ∀ b, S' b → S b ∨ w.heap.size ≤ b
theorem Only.same {w w' : World} {S T : Nat → Prop} (h : Only w w' S) (hT : ∀ b, T b → b < w.heap.size ∧ ¬ S b) : ∀ b, T b → w'.heap[b]? = w.heap[b]? := fun b hb => h.block b (hT b hb).1 (hT b hb).2
theorem Keeps.same {w w' : World} {T : Nat → Prop} (h : Keeps w w') (hT : ∀ b, T b → b < w.heap.size) : ∀ b, T b → w'.heap[b]? = w.heap[b]? := fun b hb => h.block b (hT b hb)
theorem Turns.refl (w : World) (S : Nat → Prop) : Turns w w S S := ⟨Only.refl w S, fun _ h => .inl h⟩
theorem Turns.trans {a b c : World} {S T U : Nat → Prop} (h : Turns a b S T) (k : Turns b c T U) : Turns a c S U :=
  ⟨h.only.trans k.only h.next, fun i hi => by
    rcases k.next i hi with hh | hh
    · exact h.next i hh
    · exact .inr (Nat.le_trans h.only.size hh)⟩
theorem Turns.of_keeps {w w' : World} {S : Nat → Prop} (k : Keeps w w') : Turns w w' S S := ⟨⟨k.os, k.tape, k.output, k.size, fun i hi _ => k.block i hi⟩, fun _ h => .inl h⟩
theorem Turns.keeps {w w0 w' : World} {S S' : Nat → Prop} (k0 : Keeps w0 w) (h : Turns w w' S S') (hS : ∀ b, S b → w0.heap.size ≤ b) : Keeps w0 w' :=
  ⟨h.only.os.trans k0.os, h.only.tape.trans k0.tape, h.only.output.trans k0.output, Nat.le_trans k0.size h.only.size, fun b hb => by
    rw [h.only.block b (Nat.lt_of_lt_of_le hb k0.size) (fun e => by have := hS b e; omega)]
    exact k0.block b hb⟩
end Go.Proofs.Ytdfaogagadoooaa
