/- Something is done with a disk: the contract of the law's own 'does', kind by kind. -/
import Derived.Test.YtbpiiegjbcoapaaDoorLawDisk
namespace Go.Proofs.YtbpiiegjbcoapaaDoor
open Go.RowKit
set_option linter.unusedSimpArgs false
set_option linter.unusedVariables false
set_option maxRecDepth 100000

theorem Turns.notIn {w w' : World} {S S' : Nat → Prop} (t : Turns w w' S S') {b : Nat} (hb : b < w.heap.size) (h : ¬ S b) : ¬ S' b := fun e => by
  rcases t.next b e with h1 | h1
  · exact h h1
  · omega
theorem Box.turned {w w' : World} {S S' : Nat → Prop} {b : Nat} {T : TypeId} {cs : Array Value} (B : Box w b T cs) (t : Turns w w' S S') (h : ¬ S b) : Box w' b T cs := (t.only.block b B.lt h).trans B
theorem Only.weak {w w' : World} {S T : Nat → Prop} (h : Only w w' S) (hT : ∀ i, S i → T i) : Only w w' T := ⟨h.os, h.tape, h.output, h.size, fun i hi hn => h.block i hi (fun e => hn (hT i e))⟩
theorem Only.cell1 (w : World) (p : Addr) (u : Value) : Only w (w.setCell p u) (fun c => c = p.block) := ⟨rfl, rfl, rfl, by simp, fun k _ hn => Below.heap_setCell w p u k hn⟩
/-- what is done within, where new blocks are laid around it and turned -/
theorem Turns.wrap {w W w1 w2 : World} {F F' : Nat → Prop} (h : Turns W w1 F F') (k : Keeps w W) (hF : ∀ i, F i → i < w.heap.size) (o : Only w1 w2 (fun i => w.heap.size ≤ i)) : Turns w w2 F F' :=
  ⟨(((Only.of_keeps k).weak (T := F) (fun _ e => e.elim)).trans h.only (fun i hi => .inl hi)).trans o (fun i hi => .inr hi), fun i hi => by
    rcases h.next i hi with h1 | h1
    · exact .inl h1
    · exact .inr (Nat.le_trans k.size h1)⟩

/-- what is handed in with it, where it lies -/
structure OpS where
  x : Opx
  A : Option Addr
  len : Nat
  c : Nat
  A2 : Option Addr
  len2 : Nat
  c2 : Nat
def opA (o : OpS) : Array Value := #[.int .i64 o.x.kind, strV o.x.name, strV o.x.to, .int .i64 o.x.off, .int .i64 o.x.n, .slice o.A o.len o.c, .int .u8 (o.x.mask.toNat : Int), .slice o.A2 o.len2 o.c2]
def IsI (x : Int) : Prop := -9223372036854775808 ≤ x ∧ x ≤ 9223372036854775807
structure OpOk (W : World) (o : OpS) : Prop where
  kind : IsI o.x.kind
  nm : o.x.name.length ≤ maxLen
  to : o.x.to.length ≤ maxLen
  off : IsI o.x.off
  n : IsI o.x.n
  len : o.len = o.x.b.length
  c : o.len ≤ o.c
  m : o.c ≤ maxLen
  b : At W W.heap.size o.A (cel o.x.b)
  len2 : o.len2 = o.x.keep.length
  c2 : o.len2 ≤ o.c2
  m2 : o.c2 ≤ maxLen
  keep : At W W.heap.size o.A2 (intC o.x.keep)
/-- what was done, and answered -/
def DoneV (K : DiskOk) (w : World) (b : Nat) (F : Nat → Prop) (s : Ds) (o : Opx) (e : Ending) (w' : World) : Prop :=
  ∃ v F', e = .returned (.tuple #[.agg #[v, .int .i64 ((doS s o).2.n : Int), .int .i64 ((doS s o).2.e : Int)], .bool true]) ∧ Own w' w.heap.size 5 1 v (doS s o).2.b.length (cel (doS s o).2.b) ∧
    K.D w' b F' (doS s o).1 ∧ Turns w w' F F' ∧ (∀ k, v.ownBlock = some k → ¬ F' k)
/-- the end of it, where a number and an error are told -/
theorem done_close {K : DiskOk} {w W w1 w2 : World} {b : Nat} {F F' : Nat → Prop} {s : Ds} {o : Opx} {v : Value} (hb : (doS s o).2.b = [])
    (hD : K.D w1 b F' (doS s o).1) (hT : Turns W w1 F F') (k : Keeps w W) (hF : ∀ i, F i → i < w.heap.size) (ho : Only w1 w2 (fun i => w.heap.size ≤ i ∧ i < W.heap.size))
    (he : Ending.returned v = .returned (.tuple #[.agg #[.slice none 0 0, .int .i64 ((doS s o).2.n : Int), .int .i64 ((doS s o).2.e : Int)], .bool true])) : DoneV K w b F s o (.returned v) w2 := by
  refine ⟨.slice none 0 0, F', he, ?_, K.same hD (fun i hi => ho.block i (K.lt hD i hi) (fun h => ?_)) ho.size, hT.wrap k hF (ho.weak (fun i h => h.1)), fun k hk => by simp [Value.ownBlock] at hk⟩
  · rw [hb]
    exact Own.nil _ _ _ _
  · exact (hT.notIn h.2 (fun e => by have := hF i e; omega)) hi
theorem only_xt (w1 : World) (B S : Nat) (ps : List (Addr × Value)) (h : ∀ p ∈ ps, B ≤ p.1.block ∧ p.1.block < S) : Only w1 (ps.foldl (fun w p => w.setCell p.1 p.2) w1) (fun i => B ≤ i ∧ i < S) := by
  induction ps generalizing w1 with
  | nil => exact Only.refl _ _
  | cons p ps ih =>
    refine ((Only.cell1 w1 p.1 p.2).weak (T := fun i => B ≤ i ∧ i < S) (fun i e => by rw [e]; exact h p (by simp))).trans (ih _ (fun q hq => h q (by simp [hq]))) (fun i hi => .inl hi)

theorem size_turn (K : DiskOk) {w : World} {b : Nat} {F : Nat → Prop} {s : Ds} (nm : List UInt8) (hZ : K.Z w) (hD : K.D w b F s) (hnm : nm.length ≤ maxLen) :
    Calls Tryd.prog 27 #[dpt b, strV nm] w fun e w2 => e = .returned (.tuple #[.int .i64 ((sizeS s nm).1 : Int), .int .i64 ((sizeS s nm).2 : Int)]) ∧ ∃ F1, K.D w2 b F1 s ∧ Turns w w2 F F1 :=
  (K.size nm hZ hD hnm).mono fun e w2 q => ⟨q.1, F, K.same hD (fun i hi => q.2.block i (K.lt hD i hi)) q.2.size, Turns.of_keeps q.2⟩
theorem keeps_alloc3 (w : World) (x y z : Obj) : Keeps w (((w.alloc x).alloc y).alloc z) := keeps_trans (keeps_trans (keeps_alloc _ _) (keeps_alloc _ _)) (keeps_alloc _ _)
theorem box_second (w : World) (x : Obj) (T : TypeId) (cs : Array Value) (z : Obj) : Box (((w.alloc x).alloc (.cells cs T)).alloc z) (w.heap.size + 1) T cs := by
  have := (Box.new (w.alloc x) T cs).keep (keeps_alloc _ z)
  simpa using this
theorem box_third3 (w : World) (x y : Obj) (T : TypeId) (cs : Array Value) : Box (((w.alloc x).alloc y).alloc (.cells cs T)) (w.heap.size + 1 + 1) T cs := by
  have := Box.new ((w.alloc x).alloc y) T cs
  simpa using this

end Go.Proofs.YtbpiiegjbcoapaaDoor
