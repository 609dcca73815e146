/- Lists of edges in memory. -/
import Derived.Test.YtkijfbnibfbldaaWeightMath
import Derived.Test.YtkijfbnibfbldaaFlat
import Derived.Test.YtkijfbnibfbldaaBox
namespace Go.Proofs.Ytkijfbnibfbldaa
open Go.RowKit
set_option linter.unusedSimpArgs false
set_option linter.unusedVariables false
set_option maxRecDepth 100000

/-- an edge's cells -/
def edC (e : Ed) : List Value := [.int .u32 (e.t : Int), .int .u32 (e.h : Int), .int .u64 (e.x : Int), .int .u32 (e.m : Int)]
theorem edC_length (e : Ed) : (edC e).length = 4 := rfl
/-- edges, one behind the other -/
def edsC (l : List Ed) : List Value := l.flatMap edC
theorem edsC_length (l : List Ed) : (edsC l).length = l.length * 4 := flatMap_length edC 4 edC_length l
/-- an edge at an address -/
def EdIn (W : World) (p : Addr) (e : Ed) : Prop := W.cell? p = some (.int .u32 (e.t : Int)) ∧ W.cell? ⟨p.block, p.off + 1, none⟩ = some (.int .u32 (e.h : Int)) ∧ W.cell? ⟨p.block, p.off + 2, none⟩ = some (.int .u64 (e.x : Int)) ∧ W.cell? ⟨p.block, p.off + 3, none⟩ = some (.int .u32 (e.m : Int))
theorem add_pos (p : Addr) (k : Nat) (hk : 0 < k) : p.add k = ⟨p.block, p.off + k, none⟩ := by unfold Addr.add; rw [if_neg (by omega)]
theorem eds_at {W : World} {B : Nat} {A : Option Addr} {l : List Ed} (h : At W B A (edsC l)) {k : Nat} {e : Ed} (hk : l[k]? = some e) : ∃ ad, A = some ad ∧ ad.block < B ∧ EdIn W (ad.add (k * 4)) e := by
  have hl : k < l.length := (List.getElem?_eq_some_iff.1 hk).1
  have g : ∀ j, j < 4 → (edsC l)[k * 4 + j]? = (edC e)[j]? := fun j hj => by
    unfold edsC
    rw [flatMap_get edC 4 edC_length l hj, hk]
    rfl
  rcases h with h | ⟨ad, rfl, hb, hc⟩
  · have := edsC_length l
    rw [h] at this
    simp at this
    omega
  · refine ⟨ad, rfl, hb, hc _ _ (g 0 (by decide)), ?_, ?_, ?_⟩
    · rw [← add_pos _ 1 (by decide), addr_add]; exact hc _ _ (g 1 (by decide))
    · rw [← add_pos _ 2 (by decide), addr_add]; exact hc _ _ (g 2 (by decide))
    · rw [← add_pos _ 3 (by decide), addr_add]; exact hc _ _ (g 3 (by decide))
theorem add_zero4 (ad : Addr) : ad.add (0 * 4) = ad := rfl
theorem EdIn.keep {W V : World} {p : Addr} {e : Ed} (h : EdIn W p e) (k : Keeps W V) : EdIn V p e := ⟨k.cellOf h.1, k.cellOf h.2.1, k.cellOf h.2.2.1, k.cellOf h.2.2.2⟩
def edA (e : Ed) : Array Value := #[.int .u32 (e.t : Int), .int .u32 (e.h : Int), .int .u64 (e.x : Int), .int .u32 (e.m : Int)]
/-- an edge in a block of the call's own -/
structure EdBox (W : World) (b : Nat) (T : TypeId) (e : Ed) : Prop where
  box : Box W b T (edA e)
theorem EdBox.keep {W V : World} {b : Nat} {T : TypeId} {e : Ed} (h : EdBox W b T e) (k : Keeps W V) : EdBox V b T e := ⟨h.box.keep k⟩
theorem EdBox.cells {W : World} {b : Nat} {T : TypeId} {e : Ed} (h : EdBox W b T e) : W.cell? ⟨b, 0, none⟩ = some (.int .u32 (e.t : Int)) ∧ W.cell? ⟨b, 1, none⟩ = some (.int .u32 (e.h : Int)) ∧ W.cell? ⟨b, 2, none⟩ = some (.int .u64 (e.x : Int)) ∧ W.cell? ⟨b, 3, none⟩ = some (.int .u32 (e.m : Int)) :=
  ⟨h.box.cell 0 rfl, h.box.cell 1 rfl, h.box.cell 2 rfl, h.box.cell 3 rfl⟩
theorem EdBox.free {W : World} {b : Nat} {T : TypeId} {e : Ed} (h : EdBox W b T e) : W.frozen? ⟨b, 0, none⟩ = false ∧ W.frozen? ⟨b, 1, none⟩ = false ∧ W.frozen? ⟨b, 2, none⟩ = false ∧ W.frozen? ⟨b, 3, none⟩ = false :=
  ⟨h.box.frozen 0, h.box.frozen 1, h.box.frozen 2, h.box.frozen 3⟩
/-- another edge is stored there -/
def putEd (W : World) (b : Nat) (f : Ed) : World := (((W.setCell ⟨b, 0, none⟩ (.int .u32 (f.t : Int))).setCell ⟨b, 1, none⟩ (.int .u32 (f.h : Int))).setCell ⟨b, 2, none⟩ (.int .u64 (f.x : Int))).setCell ⟨b, 3, none⟩ (.int .u32 (f.m : Int))
theorem EdBox.put {W : World} {b : Nat} {T : TypeId} {e : Ed} (h : EdBox W b T e) (f : Ed) : EdBox (putEd W b f) b T f := by
  have := (((h.box.set 0 (.int .u32 (f.t : Int))).set 1 (.int .u32 (f.h : Int))).set 2 (.int .u64 (f.x : Int))).set 3 (.int .u32 (f.m : Int))
  exact ⟨by simpa [edA, putEd] using this⟩
theorem EdBox.far {W : World} {b b' : Nat} {T : TypeId} {e : Ed} (h : EdBox W b T e) (hb : b ≠ b') (f : Ed) : EdBox (putEd W b' f) b T e :=
  ⟨(((h.box.far (p := ⟨b', 0, none⟩) hb _).far (p := ⟨b', 1, none⟩) hb _).far (p := ⟨b', 2, none⟩) hb _).far (p := ⟨b', 3, none⟩) hb _⟩
theorem putEd_below {B : Nat} {a W : World} (h : Below B a W) {b : Nat} (hb : B ≤ b) (f : Ed) : Below B a (putEd W b f) :=
  (((h.setCell (p := ⟨b, 0, none⟩) hb _).setCell (p := ⟨b, 1, none⟩) hb _).setCell (p := ⟨b, 2, none⟩) hb _).setCell (p := ⟨b, 3, none⟩) hb _
theorem EdBox.new (W : World) (T : TypeId) (e : Ed) : EdBox (W.alloc (.cells #[.int .u32 (e.t : Int), .int .u32 (e.h : Int), .int .u64 (e.x : Int), .int .u32 (e.m : Int)] T)) W.heap.size T e := ⟨Box.new _ _ _⟩
end Go.Proofs.Ytkijfbnibfbldaa
