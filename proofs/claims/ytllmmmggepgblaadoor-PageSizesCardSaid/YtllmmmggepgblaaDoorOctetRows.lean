/- The contracts of package octet: rows of numbers, written. -/
import Derived.Test.YtllmmmggepgblaaDoorOctet
namespace Go.Proofs.YtllmmmggepgblaaDoor
open Go.RowKit
set_option linter.unusedSimpArgs false
set_option linter.unusedVariables false
set_option maxRecDepth 100000

def edgeB (t h x m : Nat) : List UInt8 := nb 4 t ++ nb 4 h ++ nb 8 x ++ nb 4 m
def vertB (r l g : Nat) : List UInt8 := nb 4 r ++ nb 4 l ++ nb 4 g
def labelB (v h n d : Nat) : List UInt8 := nb 4 v ++ nb 4 h ++ nb 4 n ++ nb 8 d
theorem edgeB_length (t h x m : Nat) : (edgeB t h x m).length = 20 := by simp [edgeB, nb_length]
theorem vertB_length (r l g : Nat) : (vertB r l g).length = 12 := by simp [vertB, nb_length]
theorem labelB_length (v h n d : Nat) : (labelB v h n d).length = 20 := by simp [labelB, nb_length]

theorem numAt_mid (a b c : List UInt8) (k s : Nat) (hk : k = a.length) (hs : s = b.length) : numAt (a ++ (b ++ c)) k s = le b := by
  subst hk; subst hs
  simp [numAt]
theorem le_nb4 (x : Nat) (h : x < 4294967296) : le (nb 4 x) = x := by rw [le_nb]; exact Nat.mod_eq_of_lt (by omega)
theorem le_nb8 (x : Nat) (h : x < 18446744073709551616) : le (nb 8 x) = x := by rw [le_nb]; exact Nat.mod_eq_of_lt (by omega)
theorem edgeB_0 (t h x m : Nat) (ht : t < 4294967296) : numAt (edgeB t h x m) 0 4 = t := by
  rw [edgeB, List.append_assoc, List.append_assoc, ← List.nil_append (nb 4 t ++ _), numAt_mid [] _ _ 0 4 rfl (nb_length _ _).symm, le_nb4 t ht]
theorem edgeB_4 (t h x m : Nat) (ht : h < 4294967296) : numAt (edgeB t h x m) 4 4 = h := by
  rw [edgeB, List.append_assoc, List.append_assoc, numAt_mid _ _ _ 4 4 (nb_length _ _).symm (nb_length _ _).symm, le_nb4 h ht]
theorem edgeB_8 (t h x m : Nat) (ht : x < 18446744073709551616) : numAt (edgeB t h x m) 8 8 = x := by
  rw [edgeB, List.append_assoc, numAt_mid _ _ _ 8 8 (by simp [nb_length]) (nb_length _ _).symm, le_nb8 x ht]
theorem edgeB_16 (t h x m : Nat) (ht : m < 4294967296) : numAt (edgeB t h x m) 16 4 = m := by
  rw [edgeB, ← List.append_nil (nb 4 m), numAt_mid _ _ _ 16 4 (by simp [nb_length]) (nb_length _ _).symm, le_nb4 m ht]
theorem vertB_0 (r l g : Nat) (h : r < 4294967296) : numAt (vertB r l g) 0 4 = r := by
  rw [vertB, List.append_assoc, ← List.nil_append (nb 4 r ++ _), numAt_mid [] _ _ 0 4 rfl (nb_length _ _).symm, le_nb4 r h]
theorem vertB_4 (r l g : Nat) (h : l < 4294967296) : numAt (vertB r l g) 4 4 = l := by
  rw [vertB, List.append_assoc, numAt_mid _ _ _ 4 4 (nb_length _ _).symm (nb_length _ _).symm, le_nb4 l h]
theorem vertB_8 (r l g : Nat) (h : g < 4294967296) : numAt (vertB r l g) 8 4 = g := by
  rw [vertB, ← List.append_nil (nb 4 g), numAt_mid _ _ _ 8 4 (by simp [nb_length]) (nb_length _ _).symm, le_nb4 g h]
theorem labelB_0 (v h n d : Nat) (hv : v < 4294967296) : numAt (labelB v h n d) 0 4 = v := by
  rw [labelB, List.append_assoc, List.append_assoc, ← List.nil_append (nb 4 v ++ _), numAt_mid [] _ _ 0 4 rfl (nb_length _ _).symm, le_nb4 v hv]
theorem labelB_4 (v h n d : Nat) (hv : h < 4294967296) : numAt (labelB v h n d) 4 4 = h := by
  rw [labelB, List.append_assoc, List.append_assoc, numAt_mid _ _ _ 4 4 (nb_length _ _).symm (nb_length _ _).symm, le_nb4 h hv]
theorem labelB_8 (v h n d : Nat) (hv : n < 4294967296) : numAt (labelB v h n d) 8 4 = n := by
  rw [labelB, List.append_assoc, numAt_mid _ _ _ 8 4 (by simp [nb_length]) (nb_length _ _).symm, le_nb4 n hv]
theorem labelB_12 (v h n d : Nat) (hv : d < 18446744073709551616) : numAt (labelB v h n d) 12 8 = d := by
  rw [labelB, ← List.append_nil (nb 8 d), numAt_mid _ _ _ 12 8 (by simp [nb_length]) (nb_length _ _).symm, le_nb8 d hv]

/-- While numbers are put behind a row: what was there ahead of the box stays, and so does the box. -/
structure Going (w : World) (W : World) (l : List UInt8) (v : Value) (wr : World) : Prop where
  own : Own wr (w.heap.size + 1) 5 1 v l.length (cel l)
  kept : Below (w.heap.size + 1) W wr
theorem Going.start {w : World} {cs : Array Value} {e : TypeId} {v : Value} {w1 : World} {row : Option Nat} (h : w1.ownsRow (w.heap.size + 1) 5 1 v 0 []) (hg : (w.alloc (.cells cs e)).grownBy w1 none) :
    Going w (w.alloc (.cells cs e)) [] v w1 := ⟨Own.of_row h, keeps_grown hg _ (by simp) (fun _ h => by cases h)⟩
theorem Going.next {w W wr w' : World} {l : List UInt8} {v v' : Value} {s x : Nat} (h : Going w W l v wr) (hW : w.heap.size + 1 ≤ W.heap.size) (o : Own w' (w.heap.size + 1) 5 1 v' (l.length + s) (cel (l ++ nb s x))) (n : Onto wr v.ownBlock w' v') : Going w W (l ++ nb s x) v' w' :=
  ⟨by rw [List.length_append, nb_length]; exact o, Below.grown h.kept n.1 (Nat.le_trans hW h.kept.size) (fun g hg => (h.own.lt g hg).1)⟩
theorem Going.cell {w W wr : World} {l : List UInt8} {v : Value} (h : Going w W l v wr) (j : Nat) : wr.cell? ⟨w.heap.size, j, none⟩ = W.cell? ⟨w.heap.size, j, none⟩ := h.kept.cell (p := ⟨w.heap.size, j, none⟩) (by simp)
theorem Going.made {w : World} {cs : Array Value} {e : TypeId} {l : List UInt8} {v : Value} {wr : World} (h : Going w (w.alloc (.cells cs e)) l v wr) : Made w l (.returned v) wr :=
  ⟨v, rfl, h.own.base_le (by omega), keeps_trans (keeps_alloc w (.cells cs e)) (h.kept.mono (by simp))⟩
theorem Going.size {w : World} {cs : Array Value} {e : TypeId} {l : List UInt8} {v : Value} {wr : World} (h : Going w (w.alloc (.cells cs e)) l v wr) : w.heap.size + 1 ≤ wr.heap.size := by have := h.kept.size; simpa using this

end Go.Proofs.YtllmmmggepgblaaDoor
