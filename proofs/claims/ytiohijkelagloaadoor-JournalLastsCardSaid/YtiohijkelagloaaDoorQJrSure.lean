/- A row of a law's own beside a disk and a journal. -/
import Derived.Test.YtiohijkelagloaaDoorQLawJr
import Derived.Test.YtiohijkelagloaaDoorQJrU
namespace Go.Proofs.YtiohijkelagloaaDoor
open Go.RowKit
set_option linter.unusedSimpArgs false
set_option linter.unusedVariables false
set_option maxRecDepth 100000

/-- a row of the law's own grows: the disk and the journal stay -/
theorem Have.grown_ {K : DiskOk} {w0 w1 w2 : World} {b : Nat} {F : Nat → Prop} {s : Ds} {row : Option Nat} (h : Have K w0 w1 b F s) (g : w1.grownBy w2 row) (hr : ∀ k, row = some k → w0.heap.size ≤ k ∧ ¬ F k) : Have K w0 w2 b F s :=
  ⟨K.same h.D (fun i hi => g.block i (K.lt h.D i hi) (fun e => (hr i e.symm).2 hi)) g.size, h.low, Below.grown h.kp g h.kp.size (fun k hk => (hr k hk).1)⟩
theorem JrAt.grown_ {w1 w2 : World} {base j b : Nat} {G : Nat → Prop} {l : List RecS} {row : Option Nat} (h : JrAt w1 base j b G l) (g : w1.grownBy w2 row) (hr : ∀ k, row = some k → ¬ G k) : JrAt w2 base j b G l :=
  h.same fun i hi => g.block i (h.lt i hi) (fun e => hr i e.symm hi)
/-- the law's own row of records that are sure -/
structure SureAt (w0 w : World) (F : Nat → Prop) (A : Option Addr) (n c : Nat) (l : List RecS) : Prop where
  own : Own w w0.heap.size 43 3 (.slice A n c) n (rowsC l)
  len : n = l.length
  out : ∀ k, (Value.slice A n c).ownBlock = some k → ¬ F k
section
variable {w0 w w' : World} {F F' : Nat → Prop} {A : Option Addr} {n c : Nat} {l : List RecS}
theorem SureAt.turn (h : SureAt w0 w F A n c l) (t : Turns w w' F F') : SureAt w0 w' F' A n c l :=
  ⟨h.own.turns t h.out, h.len, fun k hk => t.notIn (h.own.lt k hk).2 (h.out k hk)⟩
theorem SureAt.keep (h : SureAt w0 w F A n c l) (k : Keeps w w') : SureAt w0 w' F A n c l := ⟨h.own.keep k, h.len, h.out⟩
theorem SureAt.weak (h : SureAt w0 w F A n c l) (hF : ∀ i, F' i → F i) : SureAt w0 w F' A n c l := ⟨h.own, h.len, fun k hk hf => h.out k hk (hF k hf)⟩
/-- something that is new is not in it -/
theorem SureAt.more {G : Nat → Prop} (h : SureAt w0 w F A n c l) {W : World} (hs : ∀ k, (Value.slice A n c).ownBlock = some k → k < W.heap.size) (hG : ∀ i, G i → W.heap.size ≤ i) : SureAt w0 w (fun i => F i ∨ G i) A n c l :=
  ⟨h.own, h.len, fun k hk hf => hf.elim (h.out k hk) (fun hg => by have := hs k hk; have := hG k hg; omega)⟩
end
end Go.Proofs.YtiohijkelagloaaDoor
