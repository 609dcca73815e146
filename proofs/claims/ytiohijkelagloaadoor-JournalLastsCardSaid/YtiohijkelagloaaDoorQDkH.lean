/- maps.Keys and slices.Collect at a map whose keys are strings: what comes is each key once, in some order. -/
import Derived.Test.YtiohijkelagloaaDoorIter
import Derived.Test.YtiohijkelagloaaDoorDkA
import Derived.Shelf.Abstract
import Derived.Test.YtiohijkelagloaaDoorQDkC
import Derived.Test.YtiohijkelagloaaDoorLaySt
import Derived.Sort.OwnSorted
import Derived.Sort.KeysCollected
import Derived.Test.YtiohijkelagloaaDoorQDkG
namespace Go.Proofs.YtiohijkelagloaaDoor
open Go.RowKit Go.Shelf
set_option linter.unusedSimpArgs false
set_option linter.unusedVariables false
set_option maxRecDepth 100000

def encS (x : List UInt8) : Value := (.string (str x))
def celS (x : List UInt8) : List Value := [.string (str x)]
theorem infoS : (Tryd.prog.info? 9).map (fun i => (i.zero, i.size, i.bytes)) = some (some (.string ⟨#[]⟩), 1, 16) := by kernel_rfl
theorem own_mapS {W W' : World} {b : Nat} {es : List ((List UInt8) × Nat)} (h : MapW strW dpt W b es) (k : Below W.heap.size W W') : MapW strW dpt W' b es := h.keep k

/-! ### slices.AppendSeq(nil, seq) -/
def apAS : Code := Code.region 2 #[{ dst := some 5, op := Op.assign (Operand.tmp 7), type := 9, pos := "iter.go:51", after := #[], guard := none }] false
end Go.Proofs.YtiohijkelagloaaDoor
/- Package disk: the names of all files. -/
namespace Go.Proofs.YtiohijkelagloaaDoor
open Go.RowKit Go.Sort
set_option linter.unusedSimpArgs false
set_option linter.unusedVariables false
set_option maxRecDepth 100000

theorem celS_enc (ss : List (List UInt8)) : ss.flatMap celS = ss.map encStr := by
  induction ss with
  | nil => rfl
  | cons a ss ih =>
    rw [List.flatMap_cons, ih]
    rfl
/-- names that rise, in whatever order they came, sorted -/
theorem sort_names {ss : List (List UInt8)} {l : List Fl} (hp : ss.Perm (l.map (·.name))) (hl : l.Pairwise fun f g => f.name < g.name) : ss.mergeSort leB = l.map (·.name) := by
  rw [mergeSort_of_perm hp]
  apply List.mergeSort_of_pairwise
  rw [List.pairwise_map]
  exact hl.imp fun {a b} hab => by
    unfold leB
    exact decide_eq_true (List.le_of_lt hab)
end Go.Proofs.YtiohijkelagloaaDoor
/- Package disk: Files. -/
namespace Go.Proofs.YtiohijkelagloaaDoor
open Go.RowKit Go.Shelf
set_option linter.unusedSimpArgs false
set_option linter.unusedVariables false
set_option maxRecDepth 100000

theorem at_new (w : World) (t : TypeId) (cs : Array Value) : At (w.alloc (.cells cs t)) (w.alloc (.cells cs t)).heap.size (some ⟨w.heap.size, 0, none⟩) cs.toList := by
  refine .inr ⟨_, rfl, by simp, fun j u hu => ?_⟩
  rw [Addr.add_lit]
  have := (Box.new w t cs).cell j (v := u) (by simpa using hu)
  simpa using this
def filC (L : List (List UInt8 × List UInt8)) (vs : List Value) : List Value := (L.zip vs).flatMap fun p => [strV p.1.1, p.2]
theorem filC_step (L : List (List UInt8 × List UInt8)) (vs : List Value) (x : Value) {j : Nat} (hv : vs.length = j) {p : List UInt8 × List UInt8} (hp : L[j]? = some p) : filC (L.take (j + 1)) (vs ++ [x]) = filC (L.take j) vs ++ [strV p.1, x] := by
  unfold filC
  rw [List.take_add_one, hp, Option.toList_some, List.zip_append (by rw [List.length_take, hv]; have := (List.getElem?_eq_some_iff.1 hp).1; omega), List.flatMap_append]
  rfl
section
variable {w w' : World} {b : Nat} {F : Nat → Prop} {s : Ds}
end
end Go.Proofs.YtiohijkelagloaaDoor
