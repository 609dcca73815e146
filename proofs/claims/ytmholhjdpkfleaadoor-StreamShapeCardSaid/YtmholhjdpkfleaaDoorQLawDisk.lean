/- What the calls of package disk answer; the anchor of layer 6's statements. -/
import Derived.Test.YtmholhjdpkfleaaDoorProg
import Derived.Test.YtmholhjdpkfleaaDoorQDiskMath
import Derived.Test.YtmholhjdpkfleaaDoorQBase
import Derived.Deep.RegionHeld3
namespace Go.Proofs.YtmholhjdpkfleaaDoor
open Go.RowKit
set_option linter.unusedSimpArgs false
set_option linter.unusedVariables false
set_option maxRecDepth 100000

/-- What a law leaves. -/
def Yes (w : World) (e : Ending) (w' : World) : Prop := e = .returned (.bool true) ∧ Keeps w w'
def dpt (b : Nat) : Value := .pointer (some ⟨b, 0, none⟩)
def strV (l : List UInt8) : Value := .string (str l)
/-- numbers as a slice of int has them -/
def intC (l : List Int) : List Value := l.map fun x => .int .i64 x
def placeC (p : List UInt8 × Nat) : List Value := [strV p.1, .int .i64 (p.2 : Int)]
/-- What the calls of package disk answer; D: the object in block b, made of blocks F, is a disk of this state. -/
structure DiskOk where
  Z : World → Prop
  keep : ∀ {w w' : World}, Z w → Keeps w w' → Z w'
  D : World → Nat → (Nat → Prop) → Ds → Prop
  lt : ∀ {w : World} {b : Nat} {F : Nat → Prop} {s : Ds}, D w b F s → ∀ i, F i → i < w.heap.size
  same : ∀ {w w' : World} {b : Nat} {F : Nat → Prop} {s : Ds}, D w b F s → (∀ i, F i → w'.heap[i]? = w.heap[i]?) → w.heap.size ≤ w'.heap.size → D w' b F s
  ok : ∀ {w : World} {b : Nat} {F : Nat → Prop} {s : Ds}, D w b F s → DsOk s
  new : ∀ (q : Int) (w : World), Z w → -9223372036854775808 ≤ q → q ≤ 9223372036854775807 →
    Calls Tryd.prog 20 #[.int .i64 q] w fun e w' =>
      (0 ≤ q ∧ q ≤ 1048576 ∧ ∃ b F, e = .returned (.tuple #[dpt b, .int .i64 0]) ∧ D w' b F ⟨[], q.toNat, 0, false⟩ ∧ (∀ i, F i → w.heap.size ≤ i) ∧ Keeps w w') ∨
      ((q < 0 ∨ 1048576 < q) ∧ e = .returned (.tuple #[.pointer none, .int .i64 1]) ∧ Keeps w w')
  create : ∀ {w : World} {b : Nat} {F : Nat → Prop} {s : Ds} (nm : List UInt8), Z w → D w b F s → nm.length ≤ maxLen →
    Calls Tryd.prog 49 #[dpt b, strV nm] w fun e w' => e = .returned (.int .i64 ((createS s nm).2 : Int)) ∧ ∃ F', D w' b F' (createS s nm).1 ∧ Turns w w' F F'
  write : ∀ {w : World} {b : Nat} {F : Nat → Prop} {s : Ds} (nm : List UInt8) (off : Int) (A : Option Addr) (n c : Nat) (l : List UInt8), Z w → D w b F s → nm.length ≤ maxLen → -9223372036854775808 ≤ off → off ≤ 9223372036854775807 →
    Bs w A l → (∀ ad, A = some ad → ¬ F ad.block) → n = l.length → n ≤ c → n ≤ 70000 →
    Calls Tryd.prog 73 #[dpt b, strV nm, .int .i64 off, .slice A n c] w fun e w' => e = .returned (.int .i64 ((writeS s nm off l).2 : Int)) ∧ ∃ F', D w' b F' (writeS s nm off l).1 ∧ Turns w w' F F'
  sync : ∀ {w : World} {b : Nat} {F : Nat → Prop} {s : Ds} (nm : List UInt8), Z w → D w b F s → nm.length ≤ maxLen →
    Calls Tryd.prog 56 #[dpt b, strV nm] w fun e w' => e = .returned (.int .i64 ((syncS s nm).2 : Int)) ∧ ∃ F', D w' b F' (syncS s nm).1 ∧ Turns w w' F F'
  read : ∀ {w : World} {b : Nat} {F : Nat → Prop} {s : Ds} (nm : List UInt8) (off n : Int), Z w → D w b F s → nm.length ≤ maxLen → -9223372036854775808 ≤ off → off ≤ 9223372036854775807 → -9223372036854775808 ≤ n → n ≤ 9223372036854775807 →
    Calls Tryd.prog 77 #[dpt b, strV nm, .int .i64 off, .int .i64 n] w fun e w' => ∃ v, e = .returned (.tuple #[v, .int .i64 ((readS s nm off n).2 : Int)]) ∧ Own w' w.heap.size 5 1 v (readS s nm off n).1.length (cel (readS s nm off n).1) ∧ Keeps w w'
  size : ∀ {w : World} {b : Nat} {F : Nat → Prop} {s : Ds} (nm : List UInt8), Z w → D w b F s → nm.length ≤ maxLen →
    Calls Tryd.prog 58 #[dpt b, strV nm] w fun e w' => e = .returned (.tuple #[.int .i64 ((sizeS s nm).1 : Int), .int .i64 ((sizeS s nm).2 : Int)]) ∧ Keeps w w'
  used : ∀ {w : World} {b : Nat} {F : Nat → Prop} {s : Ds}, Z w → D w b F s →
    Calls Tryd.prog 95 #[dpt b] w fun e w' => e = .returned (.int .i64 (usedL s.l : Int)) ∧ Keeps w w'
  flip : ∀ {w : World} {b : Nat} {F : Nat → Prop} {s : Ds} (nm : List UInt8) (i : Int) (m : UInt8), Z w → D w b F s → nm.length ≤ maxLen → -9223372036854775808 ≤ i → i ≤ 9223372036854775807 →
    Calls Tryd.prog 25 #[dpt b, strV nm, .int .i64 i, .int .u8 (m.toNat : Int)] w fun e w' => e = .returned (.int .i64 ((flipS s nm i m).2 : Int)) ∧ ∃ F', D w' b F' (flipS s nm i m).1 ∧ Turns w w' F F'
/-- a disk that came of this call, made since w0 -/
structure Have (K : DiskOk) (w0 w : World) (b : Nat) (F : Nat → Prop) (s : Ds) : Prop where
  D : K.D w b F s
  low : ∀ i, F i → w0.heap.size ≤ i
  kp : Keeps w0 w
theorem Have.step {K : DiskOk} {w0 w w' : World} {b : Nat} {F F' : Nat → Prop} {s s' : Ds} (h : Have K w0 w b F s) (hD : K.D w' b F' s') (ht : Turns w w' F F') : Have K w0 w' b F' s' :=
  ⟨hD, fun i hi => by
    rcases ht.next i hi with h1 | h1
    · exact h.low i h1
    · exact Nat.le_trans h.kp.size h1, ht.keeps h.kp h.low⟩
theorem Have.keep {K : DiskOk} {w0 w w' : World} {b : Nat} {F : Nat → Prop} {s : Ds} (h : Have K w0 w b F s) (k : Keeps w w') : Have K w0 w' b F s :=
  ⟨K.same h.D (fun i hi => k.block i (K.lt h.D i hi)) k.size, h.low, keeps_trans h.kp k⟩
theorem Have.z {K : DiskOk} {w0 w : World} {b : Nat} {F : Nat → Prop} {s : Ds} (h : Have K w0 w b F s) (hZ : K.Z w0) : K.Z w := K.keep hZ h.kp
/-- bytes that lie elsewhere stay -/
theorem Turns.at_ {w w' : World} {F F' : Nat → Prop} {A : Option Addr} {xs : List Value} (h : Turns w w' F F') (hB : At w w.heap.size A xs) (hF : ∀ ad, A = some ad → ¬ F ad.block) : At w' w'.heap.size A xs := by
  rcases hB with h0 | ⟨ad, e, hb, hc⟩
  · exact .inl h0
  · refine .inr ⟨ad, e, Nat.lt_of_lt_of_le hb h.only.size, fun j u hu => ?_⟩
    have hc' := hc j u hu
    have e1 : w'.heap[(ad.add j).block]? = w.heap[(ad.add j).block]? := by rw [addr_block]; exact h.only.block _ hb (hF ad e)
    unfold World.cell? at hc' ⊢
    rw [e1]
    exact hc'
theorem Own.turns {w w' : World} {F F' : Nat → Prop} {base : Nat} {e : TypeId} {size : Nat} {v : Value} {n : Nat} {xs : List Value} (h : Own w base e size v n xs) (ht : Turns w w' F F') (hF : ∀ k, v.ownBlock = some k → ¬ F k) : Own w' base e size v n xs :=
  h.same fun k hk => ht.only.block k (h.lt k hk).2 (hF k hk)

theorem info_byte : (Tryd.prog.info? 5).map (fun i => (i.zero, i.size, i.bytes)) = some (some (.int .u8 0), 1, 1) := by kernel_rfl
end Go.Proofs.YtmholhjdpkfleaaDoor
/- Something is done with a disk: the contract of the law's own 'does', kind by kind. -/
namespace Go.Proofs.YtmholhjdpkfleaaDoor
open Go.RowKit
set_option linter.unusedSimpArgs false
set_option linter.unusedVariables false
set_option maxRecDepth 100000

theorem Turns.notIn {w w' : World} {S S' : Nat → Prop} (t : Turns w w' S S') {b : Nat} (hb : b < w.heap.size) (h : ¬ S b) : ¬ S' b := fun e => by
  rcases t.next b e with h1 | h1
  · exact h h1
  · omega
theorem Box.turned {w w' : World} {S S' : Nat → Prop} {b : Nat} {T : TypeId} {cs : Array Value} (B : Box w b T cs) (t : Turns w w' S S') (h : ¬ S b) : Box w' b T cs := (t.only.block b B.lt h).trans B
theorem Only.weak {w w' : World} {S T : Nat → Prop} (h : Only w w' S) (hT : ∀ i, S i → T i) : Only w w' T := ⟨h.os, h.tape, h.output, h.size, fun i hi hn => h.block i hi (fun e => hn (hT i e))⟩
theorem Only.cell1 (w : World) (p : Addr) (u : Value) : Only w (w.setCell p u) (fun c => c = p.block) := ⟨rfl, rfl, rfl, by simp, fun k _ hn => Below.heap_setCell w p u k hn⟩
/-- what is done within, where new blocks are laid around it and turned -/
theorem Turns.wrap {w W w1 w2 : World} {F F' : Nat → Prop} (h : Turns W w1 F F') (k : Keeps w W) (hF : ∀ i, F i → i < w.heap.size) (o : Only w1 w2 (fun i => w.heap.size ≤ i)) : Turns w w2 F F' :=
  ⟨(((Only.of_keeps k).weak (T := F) (fun _ e => e.elim)).trans h.only (fun i hi => .inl hi)).trans o (fun i hi => .inr hi), fun i hi => by
    rcases h.next i hi with h1 | h1
    · exact .inl h1
    · exact .inr (Nat.le_trans k.size h1)⟩

/-- what is handed in with it, where it lies -/
structure OpS where
  x : Opx
  A : Option Addr
  len : Nat
  c : Nat
  A2 : Option Addr
  len2 : Nat
  c2 : Nat
def opA (o : OpS) : Array Value := #[.int .i64 o.x.kind, strV o.x.name, strV o.x.to, .int .i64 o.x.off, .int .i64 o.x.n, .slice o.A o.len o.c, .int .u8 (o.x.mask.toNat : Int), .slice o.A2 o.len2 o.c2]
def IsI (x : Int) : Prop := -9223372036854775808 ≤ x ∧ x ≤ 9223372036854775807
structure OpOk (W : World) (o : OpS) : Prop where
  kind : IsI o.x.kind
  nm : o.x.name.length ≤ maxLen
  to : o.x.to.length ≤ maxLen
  off : IsI o.x.off
  n : IsI o.x.n
  len : o.len = o.x.b.length
  c : o.len ≤ o.c
  m : o.c ≤ maxLen
  b : At W W.heap.size o.A (cel o.x.b)
  len2 : o.len2 = o.x.keep.length
  c2 : o.len2 ≤ o.c2
  m2 : o.c2 ≤ maxLen
  keep : At W W.heap.size o.A2 (intC o.x.keep)
/-- what was done, and answered -/
def DoneV (K : DiskOk) (w : World) (b : Nat) (F : Nat → Prop) (s : Ds) (o : Opx) (e : Ending) (w' : World) : Prop :=
  ∃ v F', e = .returned (.tuple #[.agg #[v, .int .i64 ((doS s o).2.n : Int), .int .i64 ((doS s o).2.e : Int)], .bool true]) ∧ Own w' w.heap.size 5 1 v (doS s o).2.b.length (cel (doS s o).2.b) ∧
    K.D w' b F' (doS s o).1 ∧ Turns w w' F F' ∧ (∀ k, v.ownBlock = some k → ¬ F' k)
/-- the end of it, where a number and an error are told -/
theorem done_close {K : DiskOk} {w W w1 w2 : World} {b : Nat} {F F' : Nat → Prop} {s : Ds} {o : Opx} {v : Value} (hb : (doS s o).2.b = [])
    (hD : K.D w1 b F' (doS s o).1) (hT : Turns W w1 F F') (k : Keeps w W) (hF : ∀ i, F i → i < w.heap.size) (ho : Only w1 w2 (fun i => w.heap.size ≤ i ∧ i < W.heap.size))
    (he : Ending.returned v = .returned (.tuple #[.agg #[.slice none 0 0, .int .i64 ((doS s o).2.n : Int), .int .i64 ((doS s o).2.e : Int)], .bool true])) : DoneV K w b F s o (.returned v) w2 := by
  refine ⟨.slice none 0 0, F', he, ?_, K.same hD (fun i hi => ho.block i (K.lt hD i hi) (fun h => ?_)) ho.size, hT.wrap k hF (ho.weak (fun i h => h.1)), fun k hk => by simp [Value.ownBlock] at hk⟩
  · rw [hb]
    exact Own.nil _ _ _ _
  · exact (hT.notIn h.2 (fun e => by have := hF i e; omega)) hi
theorem only_xt (w1 : World) (B S : Nat) (ps : List (Addr × Value)) (h : ∀ p ∈ ps, B ≤ p.1.block ∧ p.1.block < S) : Only w1 (ps.foldl (fun w p => w.setCell p.1 p.2) w1) (fun i => B ≤ i ∧ i < S) := by
  induction ps generalizing w1 with
  | nil => exact Only.refl _ _
  | cons p ps ih =>
    refine ((Only.cell1 w1 p.1 p.2).weak (T := fun i => B ≤ i ∧ i < S) (fun i e => by rw [e]; exact h p (by simp))).trans (ih _ (fun q hq => h q (by simp [hq]))) (fun i hi => .inl hi)

theorem size_turn (K : DiskOk) {w : World} {b : Nat} {F : Nat → Prop} {s : Ds} (nm : List UInt8) (hZ : K.Z w) (hD : K.D w b F s) (hnm : nm.length ≤ maxLen) :
    Calls Tryd.prog 58 #[dpt b, strV nm] w fun e w2 => e = .returned (.tuple #[.int .i64 ((sizeS s nm).1 : Int), .int .i64 ((sizeS s nm).2 : Int)]) ∧ ∃ F1, K.D w2 b F1 s ∧ Turns w w2 F F1 :=
  (K.size nm hZ hD hnm).mono fun e w2 q => ⟨q.1, F, K.same hD (fun i hi => q.2.block i (K.lt hD i hi)) q.2.size, Turns.of_keeps q.2⟩
theorem keeps_alloc3 (w : World) (x y z : Obj) : Keeps w (((w.alloc x).alloc y).alloc z) := keeps_trans (keeps_trans (keeps_alloc _ _) (keeps_alloc _ _)) (keeps_alloc _ _)
theorem box_second (w : World) (x : Obj) (T : TypeId) (cs : Array Value) (z : Obj) : Box (((w.alloc x).alloc (.cells cs T)).alloc z) (w.heap.size + 1) T cs := by
  have := (Box.new (w.alloc x) T cs).keep (keeps_alloc _ z)
  simpa using this
theorem box_third3 (w : World) (x y : Obj) (T : TypeId) (cs : Array Value) : Box (((w.alloc x).alloc y).alloc (.cells cs T)) (w.heap.size + 1 + 1) T cs := by
  have := Box.new ((w.alloc x).alloc y) T cs
  simpa using this

end Go.Proofs.YtmholhjdpkfleaaDoor
/- Something is done with a disk: bytes are written, read, the power comes back; the contract of 'does'. -/
namespace Go.Proofs.YtmholhjdpkfleaaDoor
open Go.RowKit
set_option linter.unusedSimpArgs false
set_option linter.unusedVariables false
set_option maxRecDepth 100000

theorem info_int : (Tryd.prog.info? 3).map (fun i => (i.zero, i.size, i.bytes)) = some (some (.int .i64 0), 1, 8) := by kernel_rfl
theorem intC_length (l : List Int) : (intC l).length = l.length := by simp [intC]
theorem intC_one (l : List Int) : ∀ u ∈ intC l, u.oneCell' = true := by
  intro u hu
  obtain ⟨_, _, rfl⟩ := List.mem_map.1 hu
  rfl
/-- what was handed in lies below all that the call has made -/
theorem At.low {w0 w : World} {A : Option Addr} {xs : List Value} (h : At w0 w0.heap.size A xs) (k : Keeps w0 w) : At w w.heap.size A xs := (At.keep h k).more k.size
theorem At.notIn {w0 : World} {A : Option Addr} {xs : List Value} {F : Nat → Prop} (h : At w0 w0.heap.size A xs) (hF : ∀ i, F i → w0.heap.size ≤ i) : xs ≠ [] → ∀ ad, A = some ad → ¬ F ad.block := by
  intro hx ad hA hf
  rcases h with h | ⟨ad', e, hb, -⟩
  · exact hx h
  · obtain rfl := Option.some.inj (hA.symm.trans e)
    have := hF _ hf
    omega
/-- the end of it, whatever was answered -/
theorem done_close2 {K : DiskOk} {w W w1 w2 : World} {b : Nat} {F F' : Nat → Prop} {s : Ds} {o : Opx} {v x : Value}
    (hD : K.D w1 b F' (doS s o).1) (hT : Turns W w1 F F') (k : Keeps w W) (hF : ∀ i, F i → i < w.heap.size) (ho : Only w1 w2 (fun i => w.heap.size ≤ i ∧ ¬ F' i)) (hO : Own w2 w.heap.size 5 1 x (doS s o).2.b.length (cel (doS s o).2.b))
    (hx : ∀ k, x.ownBlock = some k → ¬ F' k)
    (he : Ending.returned v = .returned (.tuple #[.agg #[x, .int .i64 ((doS s o).2.n : Int), .int .i64 ((doS s o).2.e : Int)], .bool true])) : DoneV K w b F s o (.returned v) w2 :=
  ⟨x, F', he, hO, K.same hD (fun i hi => ho.block i (K.lt hD i hi) (fun h => h.2 hi)) ho.size, hT.wrap k hF (ho.weak (fun i h => h.1)), hx⟩

theorem Own.only_ {w w' : World} {S : Nat → Prop} {base : Nat} {e : TypeId} {size : Nat} {v : Value} {n : Nat} {xs : List Value} (h : Own w base e size v n xs) (ho : Only w w' S) (hS : ∀ k, v.ownBlock = some k → ¬ S k) : Own w' base e size v n xs :=
  h.same fun k hk => ho.block k (h.lt k hk).2 (hS k hk)
theorem Box.only_ {w w' : World} {S : Nat → Prop} {b : Nat} {T : TypeId} {cs : Array Value} (h : Box w b T cs) (ho : Only w w' S) (hS : ¬ S b) : Box w' b T cs := (ho.block b h.lt hS).trans h
/-- a row is written over, one place after the other -/
structure Over (w3 wr : World) (base : Nat) (v : Value) (n : Nat) : Prop where
  own : ∃ xs, Own wr base 5 1 v n xs
  only : Only w3 wr (fun c => v.ownBlock = some c)
theorem Over.start {w : World} {base : Nat} {v : Value} {n : Nat} {xs : List Value} (h : Own w base 5 1 v n xs) : Over w w base v n := ⟨⟨xs, h⟩, Only.refl _ _⟩
theorem Over.cell {w3 wr : World} {base : Nat} {A : Option Addr} {n c j : Nat} (h : Over w3 wr base (.slice A n c) n) (hj : j < n) : ∃ g u, A = some ⟨g, 0, none⟩ ∧ wr.cell? ⟨g, j, none⟩ = some u ∧ wr.frozen? ⟨g, j, none⟩ = false := by
  obtain ⟨xs, hx⟩ := h.own
  have hl : xs.length = n := by have := hx.1; omega
  obtain ⟨g, hA, hc, hf, -⟩ := hx.cell (j := j) (by omega)
  exact ⟨g, xs[j]'(by omega), hA, by rw [hc, List.getElem?_eq_getElem (by omega)], hf⟩
theorem Over.put {w3 wr : World} {base g n c j : Nat} (h : Over w3 wr base (.slice (some ⟨g, 0, none⟩) n c) n) (hj : j < n) (u : Value) : Over w3 (wr.setCell ⟨g, j, none⟩ u) base (.slice (some ⟨g, 0, none⟩) n c) n := by
  obtain ⟨xs, hx⟩ := h.own
  have hl : xs.length = n := by have := hx.1; omega
  exact ⟨⟨_, hx.store (j := j) (by omega) u⟩, h.only.trans ((Only.cell1 wr ⟨g, j, none⟩ u).weak (T := fun c' => (Value.slice (some ⟨g, 0, none⟩) n c).ownBlock = some c') (fun i e => by simp [Value.ownBlock, e])) (fun i hi => .inl hi)⟩
theorem box_first3 (w : World) (cs : Array Value) (T : TypeId) (y z : Obj) : Box (((w.alloc (.cells cs T)).alloc y).alloc z) w.heap.size T cs := ((Box.new w T cs).keep (keeps_alloc _ y)).keep (keeps_alloc _ z)
theorem readS_len {s : Ds} (h : DsOk s) (nm : List UInt8) (off n : Int) : (readS s nm off n).1.length ≤ 16777216 := by
  unfold readS
  split
  · simp
  · split
    · simp
    · split
      · simp
      · rename_i f hf
        have := (h.files f (List.mem_of_find?_eq_some hf)).size
        simp only [List.length_take, List.length_drop]
        omega
end Go.Proofs.YtmholhjdpkfleaaDoor
/- The anchor of layer 6's statements. -/
namespace Go.Proofs.YtmholhjdpkfleaaDoor
open Go.RowKit
set_option linter.unusedSimpArgs false
set_option linter.unusedVariables false
set_option maxRecDepth 100000

def wk1 : Ds := (createS ⟨[], 4, 0, false⟩ [97]).1
def wk2 : Ds := (writeS wk1 [97] 0 [7, 8]).1
def wk3 : Ds := (syncS wk2 [97]).1
theorem wk_a : (createS ⟨[], 4, 0, false⟩ [97]).2 = 0 := by decide
theorem wk_b : (writeS wk1 [97] 0 [7, 8]).2 = 0 := by decide
theorem wk_c : (syncS wk2 [97]).2 = 0 := by decide
theorem wk_d : readS wk3 [97] 1 9 = ([8], 0) := by decide
theorem wk_e : usedL wk3.l = 1 := by decide
theorem strA : strV [97] = .string (ByteArray.mk #[97]) := rfl
end Go.Proofs.YtmholhjdpkfleaaDoor
/- One call of a disk behind the other: what is known before and behind each. -/
namespace Go.Proofs.YtmholhjdpkfleaaDoor
open Go.RowKit
set_option linter.unusedSimpArgs false
set_option linter.unusedVariables false
set_option maxRecDepth 100000

section
variable {K : DiskOk} {w0 w : World} {b : Nat} {F : Nat → Prop} {s : Ds}
def Went (K : DiskOk) (w0 : World) (b : Nat) (s' : Ds) (E : Nat) (e : Ending) (w' : World) : Prop := e = .returned (.int .i64 (E : Int)) ∧ ∃ F', Have K w0 w' b F' s'
theorem Went.of {F' : Nat → Prop} {w' : World} {e : Ending} {s' : Ds} {E : Nat} (h : Have K w0 w b F s) (he : e = .returned (.int .i64 (E : Int))) (hD : K.D w' b F' s') (ht : Turns w w' F F') : Went K w0 b s' E e w' := ⟨he, F', h.step hD ht⟩
theorem Have.create_ (h : Have K w0 w b F s) (hZ : K.Z w0) (nm : List UInt8) (sv : ByteArray) (hv : sv = str nm) {s' : Ds} {E : Nat} (hs : createS s nm = (s', E)) (hnm : nm.length ≤ maxLen := by decide) :
    Calls Tryd.prog 49 #[.pointer (some ⟨b, 0, none⟩), .string sv] w (Went K w0 b s' E) := by
  subst hv
  have := K.create nm (h.z hZ) h.D hnm
  rw [hs] at this
  exact this.mono fun e w' q => by obtain ⟨he, F', hD, ht⟩ := q; exact Went.of h he hD ht
theorem Have.sync_ (h : Have K w0 w b F s) (hZ : K.Z w0) (nm : List UInt8) (sv : ByteArray) (hv : sv = str nm) {s' : Ds} {E : Nat} (hs : syncS s nm = (s', E)) (hnm : nm.length ≤ maxLen := by decide) :
    Calls Tryd.prog 56 #[.pointer (some ⟨b, 0, none⟩), .string sv] w (Went K w0 b s' E) := by
  subst hv
  have := K.sync nm (h.z hZ) h.D hnm
  rw [hs] at this
  exact this.mono fun e w' q => by obtain ⟨he, F', hD, ht⟩ := q; exact Went.of h he hD ht
/-- bytes that the call itself has laid are written -/
theorem Have.write_ (h : Have K w0 w b F s) (hZ : K.Z w0) (nm : List UInt8) (off : Int) (hn : IsI off) (sv : ByteArray) (hv : sv = str nm) {W : World} {A : Option Addr} {c n : Nat} {l : List UInt8} (hO : Own W w.heap.size 5 1 (.slice A n c) n (cel l)) (hl : n = l.length) (hk : Keeps w W) (hm : n ≤ 70000) {s' : Ds} {E : Nat} (hs : writeS s nm off l = (s', E)) (hnm : nm.length ≤ maxLen := by decide) :
    Calls Tryd.prog 73 #[.pointer (some ⟨b, 0, none⟩), .string sv, .int .i64 off, .slice A n c] W (Went K w0 b s' E) := by
  subst hv
  have h2 := h.keep hk
  obtain ⟨A', c', hv, hc, -, -, hb⟩ := hO.form
  injection hv with h3 h4 h5
  subst h3
  subst h5
  have := K.write nm off A n c l (h2.z hZ) h2.D hnm hn.1 hn.2 hO.at_ (fun ad ha hf => by have h6 := (hb ad ha).2.1; have h7 := K.lt h.D _ hf; omega) hl hc hm
  rw [hs] at this
  exact this.mono fun e w' q => by obtain ⟨he, F', hD, ht⟩ := q; exact Went.of h2 he hD ht
def WentR (K : DiskOk) (w0 w : World) (b : Nat) (F : Nat → Prop) (s : Ds) (l : List UInt8) (E : Nat) (e : Ending) (w' : World) : Prop := ∃ A c, e = .returned (.tuple #[.slice A l.length c, .int .i64 (E : Int)]) ∧ l.length ≤ c ∧ Own w' w.heap.size 5 1 (.slice A l.length c) l.length (cel l) ∧ Have K w0 w' b F s ∧ Keeps w w'
theorem Have.read_ (h : Have K w0 w b F s) (hZ : K.Z w0) (nm : List UInt8) (off n : Int) (hoff : IsI off) (hn : IsI n) (sv : ByteArray) (hv : sv = str nm) {l : List UInt8} {E : Nat} (hs : readS s nm off n = (l, E)) (hnm : nm.length ≤ maxLen := by decide) :
    Calls Tryd.prog 77 #[.pointer (some ⟨b, 0, none⟩), .string sv, .int .i64 off, .int .i64 n] w (WentR K w0 w b F s l E) := by
  subst hv
  have := K.read nm off n (h.z hZ) h.D hnm hoff.1 hoff.2 hn.1 hn.2
  rw [hs] at this
  exact this.mono fun e w' q => by
    obtain ⟨v, he, ho, hk⟩ := q
    obtain ⟨A, c, rfl, hc, -⟩ := ho.form
    exact ⟨A, c, he, hc, ho, h.keep hk, hk⟩
theorem Have.size_ (h : Have K w0 w b F s) (hZ : K.Z w0) (nm : List UInt8) (sv : ByteArray) (hv : sv = str nm) {n E : Nat} (hs : sizeS s nm = (n, E)) (hnm : nm.length ≤ maxLen := by decide) :
    Calls Tryd.prog 58 #[.pointer (some ⟨b, 0, none⟩), .string sv] w fun e w' => e = .returned (.tuple #[.int .i64 (n : Int), .int .i64 (E : Int)]) ∧ Have K w0 w' b F s ∧ Keeps w w' := by
  subst hv
  have := K.size nm (h.z hZ) h.D hnm
  rw [hs] at this
  exact this.mono fun e w' q => ⟨q.1, h.keep q.2, q.2⟩
/-- a new one of 4096 sectors -/
theorem new_ (K : DiskOk) (w : World) (hZ : K.Z w) : Calls Tryd.prog 20 #[.int .i64 4096] w fun e w' => ∃ b F, e = .returned (.tuple #[.pointer (some ⟨b, 0, none⟩), .int .i64 0]) ∧ Have K w w' b F ⟨[], 4096, 0, false⟩ := by
  refine (K.new 4096 w hZ (by decide) (by decide)).mono ?_
  rintro e w' (⟨-, -, b, F, rfl, hD, hF, k⟩ | ⟨h, -⟩)
  · exact ⟨b, F, rfl, hD, hF, k⟩
  · exfalso; omega
end
end Go.Proofs.YtmholhjdpkfleaaDoor
