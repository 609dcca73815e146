/- Calls of a disk, and its turn, by name. -/
import Derived.Test.YtiohijkelagloaaDoorQJr4
import Derived.Test.YtiohijkelagloaaDoorQJrMath
namespace Go.Proofs.YtiohijkelagloaaDoor
open Go.RowKit
set_option linter.unusedSimpArgs false
set_option linter.unusedVariables false
set_option maxRecDepth 100000

section
variable {K : DiskOk} {w0 w : World} {b : Nat} {F : Nat → Prop} {s s' : Ds} {E : Nat}
theorem Have.armU_ (h : Have K w0 w b F s) (hZ : K.Z w0) (n : Int) (hn : IsI n) (hs : armS s n = (s', E)) :
    Calls Tryd.prog 23 #[.pointer (some ⟨b, 0, none⟩), .int .i64 n] w (WentU K w0 w b F s' E) := h.went hs (K.arm n (h.z hZ) h.D hn.1 hn.2)
theorem Have.createU_ (h : Have K w0 w b F s) (hZ : K.Z w0) (nm : List UInt8) (sv : ByteArray) (hv : sv = str nm) (hs : createS s nm = (s', E)) (hnm : nm.length ≤ maxLen := by decide) :
    Calls Tryd.prog 12 #[.pointer (some ⟨b, 0, none⟩), .string sv] w (WentU K w0 w b F s' E) := by subst hv; exact h.went hs (K.create nm (h.z hZ) h.D hnm)
theorem Have.syncU_ (h : Have K w0 w b F s) (hZ : K.Z w0) (nm : List UInt8) (sv : ByteArray) (hv : sv = str nm) (hs : syncS s nm = (s', E)) (hnm : nm.length ≤ maxLen := by decide) :
    Calls Tryd.prog 15 #[.pointer (some ⟨b, 0, none⟩), .string sv] w (WentU K w0 w b F s' E) := by subst hv; exact h.went hs (K.sync nm (h.z hZ) h.D hnm)
theorem Have.flipU_ (h : Have K w0 w b F s) (hZ : K.Z w0) (nm : List UInt8) (i : Int) (hi : IsI i) (m : UInt8) (sv : ByteArray) (hv : sv = str nm) (hs : flipS s nm i m = (s', E)) (hnm : nm.length ≤ maxLen := by decide) :
    Calls Tryd.prog 27 #[.pointer (some ⟨b, 0, none⟩), .string sv, .int .i64 i, .int .u8 (m.toNat : Int)] w (WentU K w0 w b F s' E) := by subst hv; exact h.went hs (K.flip nm i m (h.z hZ) h.D hnm hi.1 hi.2)
theorem Have.onU_ (h : Have K w0 w b F s) (hZ : K.Z w0) (A : Option Addr) (n c : Nat) (l : List Int) (hB : At w w.heap.size A (intC l)) (hF : ∀ ad, A = some ad → ¬ F ad.block) (hn : n = l.length) (hc : n ≤ c) (hm : n ≤ 70000) (hs : onS s l = (s', E)) :
    Calls Tryd.prog 26 #[.pointer (some ⟨b, 0, none⟩), .slice A n c] w (WentU K w0 w b F s' E) := h.went hs (K.on A n c l (h.z hZ) h.D hB hF hn hc hm)
end
variable {q : Nat}
def nmX : List UInt8 := [120]
theorem createX (f : Fl) : createS (DJ q f 1 false) nmX = (DJ q f 0 true, 6) := by unfold createS DJ; rw [gone_on]; rfl
theorem own_emptyJ (w : World) (e : TypeId) (size : Nat) : Own (w.alloc (.cells #[] e)) w.heap.size e size (.slice (some ⟨w.heap.size, 0, none⟩) 0 0) 0 [] :=
  ⟨by simp, .inr ⟨w.heap.size, 0, #[], (0, 0), rfl, Nat.le_refl _, heap_alloc_new w _, .inl rfl, Nat.le_refl _, by simp [maxLen], by simp, by simp⟩⟩
theorem At.ofRecs {w : World} {B : Nat} {A : Option Addr} {l : List RecS} (h : At w B A (rowsC l)) (k : Nat) : At w B A (rowsC (l.take k)) := by rw [rowsC_take]; exact h.take _
end Go.Proofs.YtiohijkelagloaaDoor
