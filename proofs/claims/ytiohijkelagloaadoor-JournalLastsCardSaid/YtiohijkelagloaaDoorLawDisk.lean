/- What the calls of package disk answer; the anchor of layer 6's statements. -/
import Derived.Test.YtiohijkelagloaaDoorProg
import Derived.Test.YtiohijkelagloaaDoorDiskMath
import Derived.Test.YtiohijkelagloaaDoorOnly
import Derived.Test.YtiohijkelagloaaDoorDiskOne
import Derived.Test.YtiohijkelagloaaDoorBox
import Derived.Deep.RegionHeld3
namespace Go.Proofs.YtiohijkelagloaaDoor
open Go.RowKit
set_option linter.unusedSimpArgs false
set_option linter.unusedVariables false
set_option maxRecDepth 100000

/-- What a law leaves. -/
def Yes (w : World) (e : Ending) (w' : World) : Prop := e = .returned (.bool true) ∧ Keeps w w'
def dpt (b : Nat) : Value := .pointer (some ⟨b, 0, none⟩)
def strV (l : List UInt8) : Value := .string (str l)
/-- numbers as a slice of int has them -/
def intC (l : List Int) : List Value := l.map fun x => .int .i64 x
def placeC (p : List UInt8 × Nat) : List Value := [strV p.1, .int .i64 (p.2 : Int)]
/-- What the calls of package disk answer; D: the object in block b, made of blocks F, is a disk of this state. -/
structure DiskOk where
  Z : World → Prop
  keep : ∀ {w w' : World}, Z w → Keeps w w' → Z w'
  D : World → Nat → (Nat → Prop) → Ds → Prop
  lt : ∀ {w : World} {b : Nat} {F : Nat → Prop} {s : Ds}, D w b F s → ∀ i, F i → i < w.heap.size
  same : ∀ {w w' : World} {b : Nat} {F : Nat → Prop} {s : Ds}, D w b F s → (∀ i, F i → w'.heap[i]? = w.heap[i]?) → w.heap.size ≤ w'.heap.size → D w' b F s
  ok : ∀ {w : World} {b : Nat} {F : Nat → Prop} {s : Ds}, D w b F s → DsOk s
  new : ∀ (q : Int) (w : World), Z w → -9223372036854775808 ≤ q → q ≤ 9223372036854775807 →
    Calls Tryd.prog 11 #[.int .i64 q] w fun e w' =>
      (0 ≤ q ∧ q ≤ 1048576 ∧ ∃ b F, e = .returned (.tuple #[dpt b, .int .i64 0]) ∧ D w' b F ⟨[], q.toNat, 0, false⟩ ∧ (∀ i, F i → w.heap.size ≤ i) ∧ Keeps w w') ∨
      ((q < 0 ∨ 1048576 < q) ∧ e = .returned (.tuple #[.pointer none, .int .i64 1]) ∧ Keeps w w')
  create : ∀ {w : World} {b : Nat} {F : Nat → Prop} {s : Ds} (nm : List UInt8), Z w → D w b F s → nm.length ≤ maxLen →
    Calls Tryd.prog 12 #[dpt b, strV nm] w fun e w' => e = .returned (.int .i64 ((createS s nm).2 : Int)) ∧ ∃ F', D w' b F' (createS s nm).1 ∧ Turns w w' F F'
  write : ∀ {w : World} {b : Nat} {F : Nat → Prop} {s : Ds} (nm : List UInt8) (off : Int) (A : Option Addr) (n c : Nat) (l : List UInt8), Z w → D w b F s → nm.length ≤ maxLen → -9223372036854775808 ≤ off → off ≤ 9223372036854775807 →
    Bs w A l → (∀ ad, A = some ad → ¬ F ad.block) → n = l.length → n ≤ c → n ≤ 70000 →
    Calls Tryd.prog 13 #[dpt b, strV nm, .int .i64 off, .slice A n c] w fun e w' => e = .returned (.int .i64 ((writeS s nm off l).2 : Int)) ∧ ∃ F', D w' b F' (writeS s nm off l).1 ∧ Turns w w' F F'
  cut : ∀ {w : World} {b : Nat} {F : Nat → Prop} {s : Ds} (nm : List UInt8) (n : Int), Z w → D w b F s → nm.length ≤ maxLen → -9223372036854775808 ≤ n → n ≤ 9223372036854775807 →
    Calls Tryd.prog 31 #[dpt b, strV nm, .int .i64 n] w fun e w' => e = .returned (.int .i64 ((cutS s nm n).2 : Int)) ∧ ∃ F', D w' b F' (cutS s nm n).1 ∧ Turns w w' F F'
  sync : ∀ {w : World} {b : Nat} {F : Nat → Prop} {s : Ds} (nm : List UInt8), Z w → D w b F s → nm.length ≤ maxLen →
    Calls Tryd.prog 15 #[dpt b, strV nm] w fun e w' => e = .returned (.int .i64 ((syncS s nm).2 : Int)) ∧ ∃ F', D w' b F' (syncS s nm).1 ∧ Turns w w' F F'
  read : ∀ {w : World} {b : Nat} {F : Nat → Prop} {s : Ds} (nm : List UInt8) (off n : Int), Z w → D w b F s → nm.length ≤ maxLen → -9223372036854775808 ≤ off → off ≤ 9223372036854775807 → -9223372036854775808 ≤ n → n ≤ 9223372036854775807 →
    Calls Tryd.prog 28 #[dpt b, strV nm, .int .i64 off, .int .i64 n] w fun e w' => ∃ v, e = .returned (.tuple #[v, .int .i64 ((readS s nm off n).2 : Int)]) ∧ Own w' w.heap.size 5 1 v (readS s nm off n).1.length (cel (readS s nm off n).1) ∧ Keeps w w'
  size : ∀ {w : World} {b : Nat} {F : Nat → Prop} {s : Ds} (nm : List UInt8), Z w → D w b F s → nm.length ≤ maxLen →
    Calls Tryd.prog 17 #[dpt b, strV nm] w fun e w' => e = .returned (.tuple #[.int .i64 ((sizeS s nm).1 : Int), .int .i64 ((sizeS s nm).2 : Int)]) ∧ Keeps w w'
  used : ∀ {w : World} {b : Nat} {F : Nat → Prop} {s : Ds}, Z w → D w b F s →
    Calls Tryd.prog 55 #[dpt b] w fun e w' => e = .returned (.int .i64 (usedL s.l : Int)) ∧ Keeps w w'
  arm : ∀ {w : World} {b : Nat} {F : Nat → Prop} {s : Ds} (n : Int), Z w → D w b F s → -9223372036854775808 ≤ n → n ≤ 9223372036854775807 →
    Calls Tryd.prog 23 #[dpt b, .int .i64 n] w fun e w' => e = .returned (.int .i64 ((armS s n).2 : Int)) ∧ ∃ F', D w' b F' (armS s n).1 ∧ Turns w w' F F'
  dead : ∀ {w : World} {b : Nat} {F : Nat → Prop} {s : Ds}, Z w → D w b F s →
    Calls Tryd.prog 25 #[dpt b] w fun e w' => e = .returned (.bool s.off) ∧ Keeps w w'
  loose : ∀ {w : World} {b : Nat} {F : Nat → Prop} {s : Ds}, Z w → D w b F s →
    Calls Tryd.prog 48 #[dpt b] w fun e w' => ∃ v, e = .returned v ∧ Own w' w.heap.size 79 2 v (placesL s.l).length ((placesL s.l).flatMap placeC) ∧ Keeps w w'
  on : ∀ {w : World} {b : Nat} {F : Nat → Prop} {s : Ds} (A : Option Addr) (n c : Nat) (l : List Int), Z w → D w b F s → At w w.heap.size A (intC l) → (∀ ad, A = some ad → ¬ F ad.block) → n = l.length → n ≤ c → n ≤ 70000 →
    Calls Tryd.prog 26 #[dpt b, .slice A n c] w fun e w' => e = .returned (.int .i64 ((onS s l).2 : Int)) ∧ ∃ F', D w' b F' (onS s l).1 ∧ Turns w w' F F'
  flip : ∀ {w : World} {b : Nat} {F : Nat → Prop} {s : Ds} (nm : List UInt8) (i : Int) (m : UInt8), Z w → D w b F s → nm.length ≤ maxLen → -9223372036854775808 ≤ i → i ≤ 9223372036854775807 →
    Calls Tryd.prog 27 #[dpt b, strV nm, .int .i64 i, .int .u8 (m.toNat : Int)] w fun e w' => e = .returned (.int .i64 ((flipS s nm i m).2 : Int)) ∧ ∃ F', D w' b F' (flipS s nm i m).1 ∧ Turns w w' F F'
/-- a disk that came of this call, made since w0 -/
structure Have (K : DiskOk) (w0 w : World) (b : Nat) (F : Nat → Prop) (s : Ds) : Prop where
  D : K.D w b F s
  low : ∀ i, F i → w0.heap.size ≤ i
  kp : Keeps w0 w
theorem Have.step {K : DiskOk} {w0 w w' : World} {b : Nat} {F F' : Nat → Prop} {s s' : Ds} (h : Have K w0 w b F s) (hD : K.D w' b F' s') (ht : Turns w w' F F') : Have K w0 w' b F' s' :=
  ⟨hD, fun i hi => by
    rcases ht.next i hi with h1 | h1
    · exact h.low i h1
    · exact Nat.le_trans h.kp.size h1, ht.keeps h.kp h.low⟩
theorem Have.keep {K : DiskOk} {w0 w w' : World} {b : Nat} {F : Nat → Prop} {s : Ds} (h : Have K w0 w b F s) (k : Keeps w w') : Have K w0 w' b F s :=
  ⟨K.same h.D (fun i hi => k.block i (K.lt h.D i hi)) k.size, h.low, keeps_trans h.kp k⟩
theorem Have.z {K : DiskOk} {w0 w : World} {b : Nat} {F : Nat → Prop} {s : Ds} (h : Have K w0 w b F s) (hZ : K.Z w0) : K.Z w := K.keep hZ h.kp
/-- bytes that lie elsewhere stay -/
theorem Turns.at_ {w w' : World} {F F' : Nat → Prop} {A : Option Addr} {xs : List Value} (h : Turns w w' F F') (hB : At w w.heap.size A xs) (hF : ∀ ad, A = some ad → ¬ F ad.block) : At w' w'.heap.size A xs := by
  rcases hB with h0 | ⟨ad, e, hb, hc⟩
  · exact .inl h0
  · refine .inr ⟨ad, e, Nat.lt_of_lt_of_le hb h.only.size, fun j u hu => ?_⟩
    have hc' := hc j u hu
    have e1 : w'.heap[(ad.add j).block]? = w.heap[(ad.add j).block]? := by rw [addr_block]; exact h.only.block _ hb (hF ad e)
    unfold World.cell? at hc' ⊢
    rw [e1]
    exact hc'
theorem Own.turns {w w' : World} {F F' : Nat → Prop} {base : Nat} {e : TypeId} {size : Nat} {v : Value} {n : Nat} {xs : List Value} (h : Own w base e size v n xs) (ht : Turns w w' F F') (hF : ∀ k, v.ownBlock = some k → ¬ F k) : Own w' base e size v n xs :=
  h.same fun k hk => ht.only.block k (h.lt k hk).2 (hF k hk)

theorem info_byte : (Tryd.prog.info? 5).map (fun i => (i.zero, i.size, i.bytes)) = some (some (.int .u8 0), 1, 1) := by kernel_rfl
end Go.Proofs.YtiohijkelagloaaDoor
