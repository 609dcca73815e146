/- DiskCuts. -/
import Derived.Test.YtamboappeahgpaaGreatDoorQLawDisk
import Derived.Test.YtamboappeahgpaaGreatDoorQDiskTorn
namespace Go.Proofs.YtamboappeahgpaaGreatDoor
open Go.RowKit
set_option linter.unusedSimpArgs false
set_option linter.unusedVariables false
set_option maxRecDepth 100000

/-- a file a that holds and keeps these bytes -/
def fA (l : List UInt8) : Fl := ⟨[97], l, l, fun _ => false⟩
def fC (l : List UInt8) (k : Nat) : Fl := cutF (fA l) k
end Go.Proofs.YtamboappeahgpaaGreatDoor
/- DiskTorn: the parts of it. -/
namespace Go.Proofs.YtamboappeahgpaaGreatDoor
open Go.RowKit
set_option linter.unusedSimpArgs false
set_option linter.unusedVariables false
set_option maxRecDepth 100000

/-- a file a that lasts as it was first, and was written to so often -/
structure Tn (first : List UInt8) (i : Nat) (f : Fl) : Prop where
  name : f.name = [97]
  lasts : f.lasts = first
  ge : first.length ≤ f.now.length
  le : f.now.length ≤ 4096 + 1024 * i
theorem Tn.start (l : List UInt8) (h : l.length ≤ 4096) : Tn l 0 (fA l) := ⟨rfl, rfl, Nat.le_refl _, by show l.length ≤ _; omega⟩
theorem Tn.step {l : List UInt8} {i : Nat} {f : Fl} (h : Tn l i f) (x : Nat) (b : List UInt8) (hb : b.length ≤ 1024) : Tn l (i + 1) (writeF f (x % (f.now.length + 1)) b) := by
  have hx : x % (f.now.length + 1) ≤ f.now.length := by have := Nat.mod_lt x (show 0 < f.now.length + 1 by omega); omega
  have hl : (writeF f (x % (f.now.length + 1)) b).now.length = max f.now.length (x % (f.now.length + 1) + b.length) := layB_length _ _ _ hx
  refine ⟨h.name, h.lasts, ?_, ?_⟩
  · rw [hl]; have := h.ge; omega
  · rw [hl]; have := h.le; omega
theorem Tn.write {l : List UInt8} {i : Nat} {f : Fl} (h : Tn l i f) (hi : i < 40) (x : Nat) (b : List UInt8) (hb : b.length ≤ 1024) : writeS (D1 f) [97] ((x % (f.now.length + 1) : Nat) : Int) b = (D1 (writeF f (x % (f.now.length + 1)) b), 0) := by
  have hx : x % (f.now.length + 1) ≤ f.now.length := by have := Nat.mod_lt x (show 0 < f.now.length + 1 by omega); omega
  exact write1 h.name hx (by have := h.le; omega)
section
variable {K : DiskOk} {w0 w : World} {b : Nat} {F : Nat → Prop} {s : Ds}
def WentT (K : DiskOk) (w0 w : World) (b : Nat) (F : Nat → Prop) (s' : Ds) (E : Nat) (e : Ending) (w' : World) : Prop := e = .returned (.int .i64 (E : Int)) ∧ ∃ F', Have K w0 w' b F' s' ∧ Turns w w' F F'
end
/-- does one of the first loose sectors, one that is kept, have this number? -/
def anyK (lf : List Nat) (keep : List Int) (s : Nat) : Nat → Bool
  | 0 => false
  | k + 1 => anyK lf keep s k || (decide (lf[k]? = some s) && keep.contains (k : Int))
def u16C (l : List Nat) : List Value := l.map fun (x : Nat) => .int .u16 (x : Int)
end Go.Proofs.YtamboappeahgpaaGreatDoor
/- What is to be done, one behind the other: is it much; a disk behind it. -/
namespace Go.Proofs.YtamboappeahgpaaGreatDoor
open Go.RowKit
set_option linter.unusedSimpArgs false
set_option linter.unusedVariables false
set_option maxRecDepth 100000

def opC (o : OpS) : List Value := [.int .i64 o.x.kind, strV o.x.name, strV o.x.to, .int .i64 o.x.off, .int .i64 o.x.n, .slice o.A o.len o.c, .int .u8 (o.x.mask.toNat : Int), .slice o.A2 o.len2 o.c2]
theorem opC_length (o : OpS) : (opC o).length = 8 := rfl
theorem OpOk.keep_ {W W' : World} {o : OpS} (h : OpOk W o) (k : Keeps W W') : OpOk W' o :=
  ⟨h.kind, h.nm, h.to, h.off, h.n, h.len, h.c, h.m, h.b.low k, h.len2, h.c2, h.m2, h.keep.low k⟩
/-- what is to be done lies there -/
structure OpsAt (W : World) (A : Option Addr) (l : List OpS) : Prop where
  cells : At W W.heap.size A (l.flatMap opC)
  ok : ∀ o ∈ l, OpOk W o
theorem OpsAt.keep {W W' : World} {A : Option Addr} {l : List OpS} (h : OpsAt W A l) (k : Keeps W W') : OpsAt W' A l :=
  ⟨h.cells.low k, fun o ho => (h.ok o ho).keep_ k⟩
theorem flatMap_len8 (l : List OpS) : (l.flatMap opC).length = l.length * 8 := by
  induction l with
  | nil => rfl
  | cons a l ih => rw [List.flatMap_cons, List.length_append, ih, opC_length, List.length_cons]; omega
theorem add_pos6 (p : Addr) (k : Nat) (hk : 0 < k) : p.add k = ⟨p.block, p.off + k, none⟩ := by unfold Addr.add; rw [if_neg (by omega)]
theorem OpsAt.cell0 {W : World} {A : Option Addr} {l : List OpS} (h : OpsAt W A l) {i : Nat} {o : OpS} (ho : l[i]? = some o) :
    ∃ ad, A = some ad ∧ ∀ j, j < 8 → W.cell? ((ad.add (i * 8)).add j) = (opC o)[j]? := by
  have hi : i < l.length := (List.getElem?_eq_some_iff.1 ho).1
  obtain ⟨ad, e, -, hc⟩ := At.get h.cells (k := i * 8) (by rw [flatMap_len8]; omega)
  refine ⟨ad, e, fun j hj => ?_⟩
  obtain ⟨ad', e', -, hc'⟩ := At.get h.cells (k := i * 8 + j) (by rw [flatMap_len8]; omega)
  obtain rfl := Option.some.inj (e.symm.trans e')
  rw [addr_add, hc', flatMap_get opC 8 opC_length l hj, ho]
  rfl
/-- a field of one of them -/
theorem OpsAt.cell {W : World} {A : Option Addr} {l : List OpS} (h : OpsAt W A l) {i j : Nat} {o : OpS} (ho : l[i]? = some o) (hj : j < 8) (h0 : 0 < j) :
    ∃ ad, A = some ad ∧ W.cell? ⟨(ad.add (i * 8)).block, (ad.add (i * 8)).off + j, none⟩ = (opC o)[j]? := by
  obtain ⟨ad, e, hc⟩ := h.cell0 ho
  exact ⟨ad, e, by rw [← hc j hj, add_pos6 _ _ h0]⟩
/-- not much -/
structure Few (l : List OpS) : Prop where
  most : l.length ≤ 150
  each : ∀ o ∈ l, o.len ≤ 65536 ∧ o.len2 ≤ 65536 ∧ o.x.name.length ≤ 65536 ∧ o.x.to.length ≤ 65536
def VastV (w : World) (l : List OpS) (e : Ending) (w' : World) : Prop := ∃ v : Bool, e = .returned (.bool v) ∧ Keeps w w' ∧ (v = false → Few l)
theorem min_nat (a : Nat) : (if (131072 : Int) < (a : Int) then (131072 : Int) else (a : Int)) = ((min a 131072 : Nat) : Int) := by split <;> omega
/-- a disk behind what is done -/
def runS (s : Ds) (l : List OpS) : Ds := l.foldl (fun s o => (doS s o.x).1) s
def BehindV (K : DiskOk) (w : World) (q : Int) (l : List OpS) (e : Ending) (w' : World) : Prop :=
  (∃ b F, 0 ≤ q ∧ q ≤ 1048576 ∧ e = .returned (.pointer (some ⟨b, 0, none⟩)) ∧ Have K w w' b F (runS ⟨[], q.toNat, 0, false⟩ l)) ∨ ((q < 0 ∨ 1048576 < q) ∧ e = .returned (.pointer none) ∧ Keeps w w')
end Go.Proofs.YtamboappeahgpaaGreatDoor
