/- The contracts of package octet: rows of numbers, written. -/
import Derived.Test.YtmholhjdpkfleaaDoorQOctet
import Derived.Test.YtmholhjdpkfleaaDoorQRefA
import Derived.Test.YtmholhjdpkfleaaDoorProg
import Derived.Test.YtmholhjdpkfleaaDoorQCrcMath
import Derived.Laws.BitsAllLaws
namespace Go.Proofs.YtmholhjdpkfleaaDoor
open Go.RowKit
set_option linter.unusedSimpArgs false
set_option linter.unusedVariables false
set_option maxRecDepth 100000

def edgeB (t h x m : Nat) : List UInt8 := nb 4 t ++ nb 4 h ++ nb 8 x ++ nb 4 m
def vertB (r l g : Nat) : List UInt8 := nb 4 r ++ nb 4 l ++ nb 4 g
def labelB (v h n d : Nat) : List UInt8 := nb 4 v ++ nb 4 h ++ nb 4 n ++ nb 8 d
theorem edgeB_length (t h x m : Nat) : (edgeB t h x m).length = 20 := by simp [edgeB, nb_length]
theorem vertB_length (r l g : Nat) : (vertB r l g).length = 12 := by simp [vertB, nb_length]
theorem labelB_length (v h n d : Nat) : (labelB v h n d).length = 20 := by simp [labelB, nb_length]

theorem numAt_mid (a b c : List UInt8) (k s : Nat) (hk : k = a.length) (hs : s = b.length) : numAt (a ++ (b ++ c)) k s = le b := by
  subst hk; subst hs
  simp [numAt]
theorem le_nb4 (x : Nat) (h : x < 4294967296) : le (nb 4 x) = x := by rw [le_nb]; exact Nat.mod_eq_of_lt (by omega)
theorem le_nb8 (x : Nat) (h : x < 18446744073709551616) : le (nb 8 x) = x := by rw [le_nb]; exact Nat.mod_eq_of_lt (by omega)
theorem edgeB_0 (t h x m : Nat) (ht : t < 4294967296) : numAt (edgeB t h x m) 0 4 = t := by
  rw [edgeB, List.append_assoc, List.append_assoc, ← List.nil_append (nb 4 t ++ _), numAt_mid [] _ _ 0 4 rfl (nb_length _ _).symm, le_nb4 t ht]
theorem edgeB_4 (t h x m : Nat) (ht : h < 4294967296) : numAt (edgeB t h x m) 4 4 = h := by
  rw [edgeB, List.append_assoc, List.append_assoc, numAt_mid _ _ _ 4 4 (nb_length _ _).symm (nb_length _ _).symm, le_nb4 h ht]
theorem edgeB_8 (t h x m : Nat) (ht : x < 18446744073709551616) : numAt (edgeB t h x m) 8 8 = x := by
  rw [edgeB, List.append_assoc, numAt_mid _ _ _ 8 8 (by simp [nb_length]) (nb_length _ _).symm, le_nb8 x ht]
theorem edgeB_16 (t h x m : Nat) (ht : m < 4294967296) : numAt (edgeB t h x m) 16 4 = m := by
  rw [edgeB, ← List.append_nil (nb 4 m), numAt_mid _ _ _ 16 4 (by simp [nb_length]) (nb_length _ _).symm, le_nb4 m ht]
theorem vertB_0 (r l g : Nat) (h : r < 4294967296) : numAt (vertB r l g) 0 4 = r := by
  rw [vertB, List.append_assoc, ← List.nil_append (nb 4 r ++ _), numAt_mid [] _ _ 0 4 rfl (nb_length _ _).symm, le_nb4 r h]
theorem vertB_4 (r l g : Nat) (h : l < 4294967296) : numAt (vertB r l g) 4 4 = l := by
  rw [vertB, List.append_assoc, numAt_mid _ _ _ 4 4 (nb_length _ _).symm (nb_length _ _).symm, le_nb4 l h]
theorem vertB_8 (r l g : Nat) (h : g < 4294967296) : numAt (vertB r l g) 8 4 = g := by
  rw [vertB, ← List.append_nil (nb 4 g), numAt_mid _ _ _ 8 4 (by simp [nb_length]) (nb_length _ _).symm, le_nb4 g h]
theorem labelB_0 (v h n d : Nat) (hv : v < 4294967296) : numAt (labelB v h n d) 0 4 = v := by
  rw [labelB, List.append_assoc, List.append_assoc, ← List.nil_append (nb 4 v ++ _), numAt_mid [] _ _ 0 4 rfl (nb_length _ _).symm, le_nb4 v hv]
theorem labelB_4 (v h n d : Nat) (hv : h < 4294967296) : numAt (labelB v h n d) 4 4 = h := by
  rw [labelB, List.append_assoc, List.append_assoc, numAt_mid _ _ _ 4 4 (nb_length _ _).symm (nb_length _ _).symm, le_nb4 h hv]
theorem labelB_8 (v h n d : Nat) (hv : n < 4294967296) : numAt (labelB v h n d) 8 4 = n := by
  rw [labelB, List.append_assoc, numAt_mid _ _ _ 8 4 (by simp [nb_length]) (nb_length _ _).symm, le_nb4 n hv]
theorem labelB_12 (v h n d : Nat) (hv : d < 18446744073709551616) : numAt (labelB v h n d) 12 8 = d := by
  rw [labelB, ← List.append_nil (nb 8 d), numAt_mid _ _ _ 12 8 (by simp [nb_length]) (nb_length _ _).symm, le_nb8 d hv]

/-- While numbers are put behind a row: what was there ahead of the box stays, and so does the box. -/
structure Going (w : World) (W : World) (l : List UInt8) (v : Value) (wr : World) : Prop where
  own : Own wr (w.heap.size + 1) 5 1 v l.length (cel l)
  kept : Below (w.heap.size + 1) W wr
theorem Going.start {w : World} {cs : Array Value} {e : TypeId} {v : Value} {w1 : World} {row : Option Nat} (h : w1.ownsRow (w.heap.size + 1) 5 1 v 0 []) (hg : (w.alloc (.cells cs e)).grownBy w1 none) :
    Going w (w.alloc (.cells cs e)) [] v w1 := ⟨Own.of_row h, keeps_grown hg _ (by simp) (fun _ h => by cases h)⟩
theorem Going.next {w W wr w' : World} {l : List UInt8} {v v' : Value} {s x : Nat} (h : Going w W l v wr) (hW : w.heap.size + 1 ≤ W.heap.size) (o : Own w' (w.heap.size + 1) 5 1 v' (l.length + s) (cel (l ++ nb s x))) (n : Onto wr v.ownBlock w' v') : Going w W (l ++ nb s x) v' w' :=
  ⟨by rw [List.length_append, nb_length]; exact o, Below.grown h.kept n.1 (Nat.le_trans hW h.kept.size) (fun g hg => (h.own.lt g hg).1)⟩
theorem Going.cell {w W wr : World} {l : List UInt8} {v : Value} (h : Going w W l v wr) (j : Nat) : wr.cell? ⟨w.heap.size, j, none⟩ = W.cell? ⟨w.heap.size, j, none⟩ := h.kept.cell (p := ⟨w.heap.size, j, none⟩) (by simp)
theorem Going.made {w : World} {cs : Array Value} {e : TypeId} {l : List UInt8} {v : Value} {wr : World} (h : Going w (w.alloc (.cells cs e)) l v wr) : Made w l (.returned v) wr :=
  ⟨v, rfl, h.own.base_le (by omega), keeps_trans (keeps_alloc w (.cells cs e)) (h.kept.mono (by simp))⟩
theorem Going.size {w : World} {cs : Array Value} {e : TypeId} {l : List UInt8} {v : Value} {wr : World} (h : Going w (w.alloc (.cells cs e)) l v wr) : w.heap.size + 1 ≤ wr.heap.size := by have := h.kept.size; simpa using this

end Go.Proofs.YtmholhjdpkfleaaDoor
/- The contracts of package octet: rows of numbers, read. -/
namespace Go.Proofs.YtmholhjdpkfleaaDoor
open Go.RowKit
set_option linter.unusedSimpArgs false
set_option linter.unusedVariables false
set_option maxRecDepth 100000

theorem flip_ {P : Program} {f : FuncId} {args : Array Value} {w : World} {v : Value} (h : Calls P f args w fun e w' => e = .returned v ∧ w = w') : Calls P f args w fun e w' => e = .returned v ∧ w' = w :=
  h.mono fun _ _ h => ⟨h.1, h.2.symm⟩

/-- What a row's reader leaves. -/
def Read2 (w : World) (T : Value) (e : Ending) (w' : World) : Prop := e = .returned T ∧ Keeps w w'

theorem Bs.drewAlloc {w : World} {A : Option Addr} {l : List UInt8} (h : Bs w A l) (o : Obj) : Bs (w.alloc o).drew A l := h.keep (keeps_trans (keeps_alloc w o) (keeps_drew _))

end Go.Proofs.YtmholhjdpkfleaaDoor
/- The contracts of package milepostref01: the document's answers for octet. -/
namespace Go.Proofs.YtmholhjdpkfleaaDoor
open Go.RowKit
set_option linter.unusedSimpArgs false
set_option linter.unusedVariables false
set_option maxRecDepth 100000

theorem numAt_step (l : List UInt8) (p k s : Nat) (hk : k + 1 ≤ s) (h : p + s ≤ l.length) : numAt l (p + k) (s - k) = (l.getD (p + k) 0).toNat + 256 * numAt l (p + (k + 1)) (s - (k + 1)) := by
  unfold numAt
  have e : l.drop (p + k) = (l[p + k]'(by omega)) :: l.drop (p + k + 1) := List.drop_eq_getElem_cons (by omega)
  rw [e, show s - k = (s - (k + 1)) + 1 by omega, List.take_succ_cons, le]
  simp [List.getD, show p + k < l.length by omega, Nat.add_assoc]
theorem numAt_lt (l : List UInt8) (p s : Nat) : numAt l p s < 256 ^ s := by
  unfold numAt
  have h := le_lt ((l.drop p).take s)
  have h2 : ((l.drop p).take s).length ≤ s := by rw [List.length_take]; omega
  exact Nat.lt_of_lt_of_le h (Nat.pow_le_pow_right (by decide) h2)

theorem nb_head (k x : Nat) : nb (k + 1) x = UInt8.ofNat (x % 256) :: nb k (x / 256) := rfl

end Go.Proofs.YtmholhjdpkfleaaDoor
/- The contracts of package milepostref02: CRC-32C bit by bit. -/
namespace Go.Proofs.YtmholhjdpkfleaaDoor
open Go.RowKit
set_option linter.unusedSimpArgs false
set_option linter.unusedVariables false
set_option maxRecDepth 100000

theorem st_odd {x : Nat} (h : x % 2 = 1) : st x = (x / 2) ^^^ 2197175160 := by unfold st; rw [if_pos h]; rfl
theorem st_evn {x : Nat} (h : ¬ x % 2 = 1) : st x = x / 2 := by unfold st; rw [if_neg h, Nat.xor_zero]

end Go.Proofs.YtmholhjdpkfleaaDoor
