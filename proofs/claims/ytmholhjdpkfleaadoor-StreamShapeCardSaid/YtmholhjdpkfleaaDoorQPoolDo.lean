/- What is done with a pool, and told: what 'does' leaves. -/
import Derived.Test.YtmholhjdpkfleaaDoorQPoolBa
import Derived.Test.YtmholhjdpkfleaaDoorQRefA
namespace Go.Proofs.YtmholhjdpkfleaaDoor
open Go.RowKit
set_option linter.unusedSimpArgs false
set_option linter.unusedVariables false
set_option maxRecDepth 100000

/-- what stands in blocks of its own, made since w0 -/
structure Stay (w0 : World) (J : (Nat → Prop) → World → Prop) : Prop where
  turn : ∀ {S : Nat → Prop} {w w' : World} {T : Nat → Prop}, J S w → Only w w' T → (∀ i, T i → w0.heap.size ≤ i ∧ ¬ S i) → J S w'
  lt : ∀ {S : Nat → Prop} {w : World}, J S w → ∀ i, S i → i < w.heap.size
def Done10 (w : World) (S : Nat → Prop) (J' : (Nat → Prop) → World → Prop) (l : List UInt8) (n E : Int) (e : Ending) (w' : World) : Prop :=
  ∃ v S', e = .returned (.agg #[v, .int .i64 n, .int .i64 E]) ∧ Own w' w.heap.size 5 1 v l.length (cel l) ∧ J' S' w' ∧ Turns w w' S S' ∧ (∀ g, v.ownBlock = some g → ¬ S' g)
theorem done10 {w0 w W w1 W4 : World} {S S' : Nat → Prop} {J' : (Nat → Prop) → World → Prop} (st : Stay w0 J') (hL : ∀ i, S i → i < w.heap.size) (hw0 : w0.heap.size ≤ w.heap.size) (kW : Keeps w W) (hsz : W.heap.size = w.heap.size + 3)
    (j : J' S' w1) (t : Turns W w1 S S') (o : Only w1 W4 (fun i => w.heap.size ≤ i ∧ i < w.heap.size + 3)) : J' S' W4 ∧ Turns w W4 S S' := by
  have hn : ∀ i, (w.heap.size ≤ i ∧ i < w.heap.size + 3) → ¬ S' i := fun i hi hs => by
    rcases t.next i hs with h | h
    · have := hL i h; omega
    · omega
  exact ⟨st.turn j o (fun i hi => ⟨by omega, hn i hi⟩), ((Turns.of_keeps kW).trans t).only.trans o (fun i hi => .inr hi.1), ((Turns.of_keeps kW).trans t).next⟩
theorem Turns.put10 {w w' : World} {F F' : Nat → Prop} (t : Turns w w' F F') (p : Addr) (u : Value) (hp : w.heap.size ≤ p.block) : Turns w (w'.setCell p u) F F' :=
  ⟨t.only.trans (only_set w' p u) (fun i hi => .inr (by rw [show i = p.block from hi]; exact hp)), t.next⟩
theorem box_third10 (w : World) (x y : Obj) (T : TypeId) (cs : Array Value) : Box (((w.alloc x).alloc y).alloc (.cells cs T)) (w.heap.size + 1 + 1) T cs := by
  have := Box.new ((w.alloc x).alloc y) T cs
  simpa using this
theorem box_mid10 (w : World) (x : Obj) (T : TypeId) (cs : Array Value) (z : Obj) : Box (((w.alloc x).alloc (.cells cs T)).alloc z) (w.heap.size + 1) T cs := by
  have h : Box ((w.alloc x).alloc (.cells cs T)) (w.heap.size + 1) T cs := by
    have := Box.new (w.alloc x) T cs
    simpa using this
  exact h.keep (keeps_alloc _ _)
end Go.Proofs.YtmholhjdpkfleaaDoor
/- What milepostlaw10.does does. (Written by mkdo10.py.) -/
namespace Go.Proofs.YtmholhjdpkfleaaDoor
open Go.RowKit
set_option linter.unusedSimpArgs false
set_option linter.unusedVariables false
set_option maxRecDepth 100000

section
variable {w0 w : World} {S : Nat → Prop} {J' : (Nat → Prop) → World → Prop}
end
end Go.Proofs.YtmholhjdpkfleaaDoor
/- What milepostlaw10.does does. (Written by mkdo10.py.) -/
namespace Go.Proofs.YtmholhjdpkfleaaDoor
open Go.RowKit
set_option linter.unusedSimpArgs false
set_option linter.unusedVariables false
set_option maxRecDepth 100000

section
variable {w0 w : World} {S : Nat → Prop} {J' : (Nat → Prop) → World → Prop}
end
end Go.Proofs.YtmholhjdpkfleaaDoor
/- What milepostlaw10.does does. (Written by mkdo10.py.) -/
namespace Go.Proofs.YtmholhjdpkfleaaDoor
open Go.RowKit
set_option linter.unusedSimpArgs false
set_option linter.unusedVariables false
set_option maxRecDepth 100000

section
variable {w0 w : World} {S : Nat → Prop} {J' : (Nat → Prop) → World → Prop}
end
end Go.Proofs.YtmholhjdpkfleaaDoor
