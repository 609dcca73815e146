/- Calls of a disk, and its turn, by name. -/
import Derived.Test.YtiohijkelagloaaDoorQJr4
import Derived.Test.YtiohijkelagloaaDoorQJrMath
namespace Go.Proofs.YtiohijkelagloaaDoor
open Go.RowKit
set_option linter.unusedSimpArgs false
set_option linter.unusedVariables false
set_option maxRecDepth 100000

section
variable {K : DiskOk} {w0 w : World} {b : Nat} {F : Nat → Prop} {s s' : Ds} {E : Nat}
theorem Have.armU_ (h : Have K w0 w b F s) (hZ : K.Z w0) (n : Int) (hn : IsI n) (hs : armS s n = (s', E)) :
    Calls Tryd.prog 23 #[.pointer (some ⟨b, 0, none⟩), .int .i64 n] w (WentU K w0 w b F s' E) := h.went hs (K.arm n (h.z hZ) h.D hn.1 hn.2)
theorem Have.createU_ (h : Have K w0 w b F s) (hZ : K.Z w0) (nm : List UInt8) (sv : ByteArray) (hv : sv = str nm) (hs : createS s nm = (s', E)) (hnm : nm.length ≤ maxLen := by decide) :
    Calls Tryd.prog 12 #[.pointer (some ⟨b, 0, none⟩), .string sv] w (WentU K w0 w b F s' E) := by subst hv; exact h.went hs (K.create nm (h.z hZ) h.D hnm)
theorem Have.syncU_ (h : Have K w0 w b F s) (hZ : K.Z w0) (nm : List UInt8) (sv : ByteArray) (hv : sv = str nm) (hs : syncS s nm = (s', E)) (hnm : nm.length ≤ maxLen := by decide) :
    Calls Tryd.prog 15 #[.pointer (some ⟨b, 0, none⟩), .string sv] w (WentU K w0 w b F s' E) := by subst hv; exact h.went hs (K.sync nm (h.z hZ) h.D hnm)
theorem Have.flipU_ (h : Have K w0 w b F s) (hZ : K.Z w0) (nm : List UInt8) (i : Int) (hi : IsI i) (m : UInt8) (sv : ByteArray) (hv : sv = str nm) (hs : flipS s nm i m = (s', E)) (hnm : nm.length ≤ maxLen := by decide) :
    Calls Tryd.prog 27 #[.pointer (some ⟨b, 0, none⟩), .string sv, .int .i64 i, .int .u8 (m.toNat : Int)] w (WentU K w0 w b F s' E) := by subst hv; exact h.went hs (K.flip nm i m (h.z hZ) h.D hnm hi.1 hi.2)
theorem Have.onU_ (h : Have K w0 w b F s) (hZ : K.Z w0) (A : Option Addr) (n c : Nat) (l : List Int) (hB : At w w.heap.size A (intC l)) (hF : ∀ ad, A = some ad → ¬ F ad.block) (hn : n = l.length) (hc : n ≤ c) (hm : n ≤ 70000) (hs : onS s l = (s', E)) :
    Calls Tryd.prog 26 #[.pointer (some ⟨b, 0, none⟩), .slice A n c] w (WentU K w0 w b F s' E) := h.went hs (K.on A n c l (h.z hZ) h.D hB hF hn hc hm)
end
variable {q : Nat}
def nmX : List UInt8 := [120]
theorem createX (f : Fl) : createS (DJ q f 1 false) nmX = (DJ q f 0 true, 6) := by unfold createS DJ; rw [gone_on]; rfl
theorem own_emptyJ (w : World) (e : TypeId) (size : Nat) : Own (w.alloc (.cells #[] e)) w.heap.size e size (.slice (some ⟨w.heap.size, 0, none⟩) 0 0) 0 [] :=
  ⟨by simp, .inr ⟨w.heap.size, 0, #[], (0, 0), rfl, Nat.le_refl _, heap_alloc_new w _, .inl rfl, Nat.le_refl _, by simp [maxLen], by simp, by simp⟩⟩
theorem At.ofRecs {w : World} {B : Nat} {A : Option Addr} {l : List RecS} (h : At w B A (rowsC l)) (k : Nat) : At w B A (rowsC (l.take k)) := by rw [rowsC_take]; exact h.take _
end Go.Proofs.YtiohijkelagloaaDoor
/- Mathematics of no program: a journal's disk that the power may leave, at any operation. -/
namespace Go.Proofs.YtiohijkelagloaaDoor
open Go.RowKit
set_option linter.unusedSimpArgs false
set_option linter.unusedVariables false
set_option maxRecDepth 100000

/-- the power is on; these records last, or there is no file yet -/
def OnJ (s : Ds) (l : List RecS) : Prop := ∃ a, (s = ⟨[], 1024, a, false⟩ ∧ l = []) ∨ ∃ f, s = DJ 1024 f a false ∧ Clean f l
/-- the power is off: when it is on again, these records are found, and perhaps one more -/
def OffJ (s : Ds) (l : List RecS) (u : Option RecS) : Prop :=
  s.off = true ∧ ∀ keep, ∃ s1, onS s keep = (s1, 0) ∧ ∃ g L, openJ s1 = (DJ 1024 g 0 false, 0, L) ∧ Clean g L ∧ Fine L ∧ (L = l ∨ ∃ r, u = some r ∧ L = l ++ [r])
theorem OnJ.nil (a : Nat) : OnJ ⟨[], 1024, a, false⟩ [] := ⟨a, .inl ⟨rfl, rfl⟩⟩
theorem OnJ.clean {f : Fl} {l : List RecS} (h : Clean f l) (a : Nat) : OnJ (DJ 1024 f a false) l := ⟨a, .inr ⟨f, rfl, h⟩⟩
theorem OnJ.arm {s : Ds} {l : List RecS} (h : OnJ s l) (n : Nat) : ∃ s', armS s (n : Int) = (s', 0) ∧ OnJ s' l := by
  obtain ⟨a, ⟨rfl, rfl⟩ | ⟨f, rfl, hc⟩⟩ := h
  · exact ⟨_, by
      have h1 : ¬ (n : Int) < 0 := by omega
      simp [armS, h1], OnJ.nil n⟩
  · exact ⟨_, armj f a n, OnJ.clean hc n⟩
theorem OnJ.dead {s : Ds} {l : List RecS} (h : OnJ s l) : s.off = false := by
  obtain ⟨a, ⟨rfl, rfl⟩ | ⟨f, rfl, hc⟩⟩ := h <;> rfl
theorem open_on {g : Fl} {l : List RecS} (hc : Clean g l) (hl : Fine l) (hm : l.length ≤ 65536) : ∃ g', openJ (DJ 1024 g 0 false) = (DJ 1024 g' 0 false, 0, l) ∧ Clean g' l :=
  ⟨_, openJ_clean (q := 1024) hc hl hm 0, hc.sync⟩
theorem off_none (a : Nat) : OffJ ⟨[], 1024, a, true⟩ [] none :=
  ⟨rfl, fun keep => ⟨⟨[], 1024, 0, false⟩, by simp [onS, backL], _, [], by rw [openJ_none]; rfl, Clean.none.sync, Fine.nil, .inl rfl⟩⟩
theorem off_clean {f : Fl} {l : List RecS} (hc : Clean f l) (hl : Fine l) (hm : l.length ≤ 65535) (a : Nat) (u : Option RecS) : OffJ (DJ 1024 f a true) l u :=
  ⟨rfl, fun keep => by
    have h1 := hc.back keep
    obtain ⟨g', h2, h3⟩ := open_on h1 hl (by omega)
    exact ⟨_, onj f a keep, g', l, h2, h3, hl, .inl rfl⟩⟩
theorem off_pend {f : Fl} {l : List RecS} {r : RecS} (hp : Pend f l r) (hl : Fine l) (hm : l.length ≤ 65535) (hr : RecOk r) (hk : r.kind ≠ 0) (a : Nat) : OffJ (DJ 1024 f a true) l (some r) :=
  ⟨rfl, fun keep => by
    rcases hp.back keep with h1 | h1
    · obtain ⟨g', h2, h3⟩ := open_on h1 hl (by omega)
      exact ⟨_, onj f a keep, g', l, h2, h3, hl, .inl rfl⟩
    · obtain ⟨g', h2, h3⟩ := open_on h1 (hl.snoc hr hk) (by simp; omega)
      exact ⟨_, onj f a keep, g', _, h2, h3, hl.snoc hr hk, .inr ⟨r, rfl, rfl⟩⟩⟩
/-- it is opened: or the power goes -/
theorem OnJ.open {s : Ds} {l : List RecS} (h : OnJ s l) (hl : Fine l) (hm : l.length ≤ 65535) :
    (∃ s' q, openJ s = (s', 6, q) ∧ OffJ s' l none) ∨ (∃ f a, openJ s = (DJ 1024 f a false, 0, l) ∧ Clean f l) := by
  obtain ⟨a, ⟨rfl, rfl⟩ | ⟨f, rfl, hc⟩⟩ := h
  · have e := openJ_none (q := 1024) a
    by_cases h1 : a = 1
    · rw [if_pos h1] at e
      exact .inl ⟨_, _, e, off_none 0⟩
    · rw [if_neg h1] at e
      by_cases h2 : a = 2
      · rw [if_pos h2] at e
        exact .inl ⟨_, _, e, off_clean Clean.none Fine.nil (by decide) 0 none⟩
      · rw [if_neg h2] at e
        exact .inr ⟨_, _, e, Clean.none.sync⟩
  · have e := openJ_clean (q := 1024) hc hl (by omega) a
    by_cases h1 : a = 1
    · rw [if_pos h1] at e
      exact .inl ⟨_, _, e, off_clean hc hl hm 0 none⟩
    · rw [if_neg h1] at e
      exact .inr ⟨_, _, e, hc.sync⟩
/-- a record is noted: or the power goes -/
theorem add_off {f : Fl} {l : List RecS} (hc : Clean f l) (hl : Fine l) (hm : l.length ≤ 500) {r : RecS} (hr : RecOk r) (hk : r.kind ≠ 0) (a : Nat) :
    (∃ s', addJ (DJ 1024 f a false) l r = (s', 6) ∧ OffJ s' l (some r)) ∨ (∃ f' a', addJ (DJ 1024 f a false) l r = (DJ 1024 f' a' false, 0) ∧ Clean f' (l ++ [r])) := by
  have e := addJ_clean (q := 1024) hc hk hm (by omega) a
  by_cases h1 : a = 1
  · rw [if_pos h1] at e
    exact .inl ⟨_, e, off_clean hc hl (by omega) 0 (some r)⟩
  · rw [if_neg h1] at e
    by_cases h2 : a = 2
    · rw [if_pos h2] at e
      exact .inl ⟨_, e, off_pend (hc.write r) hl (by omega) hr hk 0⟩
    · rw [if_neg h2] at e
      exact .inr ⟨_, _, e, (hc.write r).sync⟩
/-- the power is taken -/
theorem arm_sync {f : Fl} {l : List RecS} (hc : Clean f l) (hl : Fine l) (hm : l.length ≤ 65535) (a : Nat) :
    armS (DJ 1024 f a false) 1 = (DJ 1024 f 1 false, 0) ∧ syncS (DJ 1024 f 1 false) nmJ = (DJ 1024 f 0 true, 6) ∧ OffJ (DJ 1024 f 0 true) l none :=
  ⟨armj f a 1, syncj hc.name 1, off_clean hc hl hm 0 none⟩
end Go.Proofs.YtiohijkelagloaaDoor
