/- One call of a disk behind the other: what is known before and behind each. -/
import Derived.Test.YtjfnpfojboellaaGreatLawDisk4
import Derived.Test.YtjfnpfojboellaaGreatSlices
import Derived.Test.YtjfnpfojboellaaGreatFlat
namespace Go.Proofs.YtjfnpfojboellaaGreat
open Go.RowKit
set_option linter.unusedSimpArgs false
set_option linter.unusedVariables false
set_option maxRecDepth 100000

section
variable {K : DiskOk} {w0 w : World} {b : Nat} {F : Nat → Prop} {s : Ds}
def Went (K : DiskOk) (w0 : World) (b : Nat) (s' : Ds) (E : Nat) (e : Ending) (w' : World) : Prop := e = .returned (.int .i64 (E : Int)) ∧ ∃ F', Have K w0 w' b F' s'
theorem Went.of {F' : Nat → Prop} {w' : World} {e : Ending} {s' : Ds} {E : Nat} (h : Have K w0 w b F s) (he : e = .returned (.int .i64 (E : Int))) (hD : K.D w' b F' s') (ht : Turns w w' F F') : Went K w0 b s' E e w' := ⟨he, F', h.step hD ht⟩
theorem Have.create_ (h : Have K w0 w b F s) (hZ : K.Z w0) (nm : List UInt8) (sv : ByteArray) (hv : sv = str nm) {s' : Ds} {E : Nat} (hs : createS s nm = (s', E)) (hnm : nm.length ≤ maxLen := by decide) :
    Calls Tryz.prog 15 #[.pointer (some ⟨b, 0, none⟩), .string sv] w (Went K w0 b s' E) := by
  subst hv
  have := K.create nm (h.z hZ) h.D hnm
  rw [hs] at this
  exact this.mono fun e w' q => by obtain ⟨he, F', hD, ht⟩ := q; exact Went.of h he hD ht
theorem Have.remove_ (h : Have K w0 w b F s) (hZ : K.Z w0) (nm : List UInt8) (sv : ByteArray) (hv : sv = str nm) {s' : Ds} {E : Nat} (hs : removeS s nm = (s', E)) (hnm : nm.length ≤ maxLen := by decide) :
    Calls Tryz.prog 21 #[.pointer (some ⟨b, 0, none⟩), .string sv] w (Went K w0 b s' E) := by
  subst hv
  have := K.remove nm (h.z hZ) h.D hnm
  rw [hs] at this
  exact this.mono fun e w' q => by obtain ⟨he, F', hD, ht⟩ := q; exact Went.of h he hD ht
theorem Have.sync_ (h : Have K w0 w b F s) (hZ : K.Z w0) (nm : List UInt8) (sv : ByteArray) (hv : sv = str nm) {s' : Ds} {E : Nat} (hs : syncS s nm = (s', E)) (hnm : nm.length ≤ maxLen := by decide) :
    Calls Tryz.prog 17 #[.pointer (some ⟨b, 0, none⟩), .string sv] w (Went K w0 b s' E) := by
  subst hv
  have := K.sync nm (h.z hZ) h.D hnm
  rw [hs] at this
  exact this.mono fun e w' q => by obtain ⟨he, F', hD, ht⟩ := q; exact Went.of h he hD ht
theorem Have.rename_ (h : Have K w0 w b F s) (hZ : K.Z w0) (nm to : List UInt8) (sv sv2 : ByteArray) (hv : sv = str nm) (hv2 : sv2 = str to) {s' : Ds} {E : Nat} (hs : renameS s nm to = (s', E)) (hnm : nm.length ≤ maxLen := by decide) (hto : to.length ≤ maxLen := by decide) :
    Calls Tryz.prog 22 #[.pointer (some ⟨b, 0, none⟩), .string sv, .string sv2] w (Went K w0 b s' E) := by
  subst hv
  subst hv2
  have := K.rename nm to (h.z hZ) h.D hnm hto
  rw [hs] at this
  exact this.mono fun e w' q => by obtain ⟨he, F', hD, ht⟩ := q; exact Went.of h he hD ht
theorem Have.cut_ (h : Have K w0 w b F s) (hZ : K.Z w0) (nm : List UInt8) (n : Int) (hn : IsI n) (sv : ByteArray) (hv : sv = str nm) {s' : Ds} {E : Nat} (hs : cutS s nm n = (s', E)) (hnm : nm.length ≤ maxLen := by decide) :
    Calls Tryz.prog 24 #[.pointer (some ⟨b, 0, none⟩), .string sv, .int .i64 n] w (Went K w0 b s' E) := by
  subst hv
  have := K.cut nm n (h.z hZ) h.D hnm hn.1 hn.2
  rw [hs] at this
  exact this.mono fun e w' q => by obtain ⟨he, F', hD, ht⟩ := q; exact Went.of h he hD ht
theorem Have.arm_ (h : Have K w0 w b F s) (hZ : K.Z w0) (n : Int) (hn : IsI n) {s' : Ds} {E : Nat} (hs : armS s n = (s', E)) :
    Calls Tryz.prog 27 #[.pointer (some ⟨b, 0, none⟩), .int .i64 n] w (Went K w0 b s' E) := by
  have := K.arm n (h.z hZ) h.D hn.1 hn.2
  rw [hs] at this
  exact this.mono fun e w' q => by obtain ⟨he, F', hD, ht⟩ := q; exact Went.of h he hD ht
/-- bytes that the call itself has laid are written -/
theorem Have.write_ (h : Have K w0 w b F s) (hZ : K.Z w0) (nm : List UInt8) (off : Int) (hn : IsI off) (sv : ByteArray) (hv : sv = str nm) {W : World} {A : Option Addr} {c n : Nat} {l : List UInt8} (hO : Own W w.heap.size 5 1 (.slice A n c) n (cel l)) (hl : n = l.length) (hk : Keeps w W) (hm : n ≤ 70000) {s' : Ds} {E : Nat} (hs : writeS s nm off l = (s', E)) (hnm : nm.length ≤ maxLen := by decide) :
    Calls Tryz.prog 16 #[.pointer (some ⟨b, 0, none⟩), .string sv, .int .i64 off, .slice A n c] W (Went K w0 b s' E) := by
  subst hv
  have h2 := h.keep hk
  obtain ⟨A', c', hv, hc, -, -, hb⟩ := hO.form
  injection hv with h3 h4 h5
  subst h3
  subst h5
  have := K.write nm off A n c l (h2.z hZ) h2.D hnm hn.1 hn.2 hO.at_ (fun ad ha hf => by have h6 := (hb ad ha).2.1; have h7 := K.lt h.D _ hf; omega) hl hc hm
  rw [hs] at this
  exact this.mono fun e w' q => by obtain ⟨he, F', hD, ht⟩ := q; exact Went.of h2 he hD ht
/-- the power comes back; what stays lies in a slice that was handed in, or is the call's own -/
theorem Have.on_ (h : Have K w0 w b F s) (hZ : K.Z w0) (A : Option Addr) (n c : Nat) (l : List Int) (hB : At w w.heap.size A (intC l)) (hF : ∀ ad, A = some ad → ¬ F ad.block) (hn : n = l.length) (hc : n ≤ c) (hm : n ≤ 70000) {s' : Ds} {E : Nat} (hs : onS s l = (s', E)) :
    Calls Tryz.prog 28 #[.pointer (some ⟨b, 0, none⟩), .slice A n c] w (Went K w0 b s' E) := by
  have := K.on A n c l (h.z hZ) h.D hB hF hn hc hm
  rw [hs] at this
  exact this.mono fun e w' q => by obtain ⟨he, F', hD, ht⟩ := q; exact Went.of h he hD ht
def WentR (K : DiskOk) (w0 w : World) (b : Nat) (F : Nat → Prop) (s : Ds) (l : List UInt8) (E : Nat) (e : Ending) (w' : World) : Prop := ∃ A c, e = .returned (.tuple #[.slice A l.length c, .int .i64 (E : Int)]) ∧ l.length ≤ c ∧ Own w' w.heap.size 5 1 (.slice A l.length c) l.length (cel l) ∧ Have K w0 w' b F s ∧ Keeps w w'
theorem Have.read_ (h : Have K w0 w b F s) (hZ : K.Z w0) (nm : List UInt8) (off n : Int) (hoff : IsI off) (hn : IsI n) (sv : ByteArray) (hv : sv = str nm) {l : List UInt8} {E : Nat} (hs : readS s nm off n = (l, E)) (hnm : nm.length ≤ maxLen := by decide) :
    Calls Tryz.prog 18 #[.pointer (some ⟨b, 0, none⟩), .string sv, .int .i64 off, .int .i64 n] w (WentR K w0 w b F s l E) := by
  subst hv
  have := K.read nm off n (h.z hZ) h.D hnm hoff.1 hoff.2 hn.1 hn.2
  rw [hs] at this
  exact this.mono fun e w' q => by
    obtain ⟨v, he, ho, hk⟩ := q
    obtain ⟨A, c, rfl, hc, -⟩ := ho.form
    exact ⟨A, c, he, hc, ho, h.keep hk, hk⟩
theorem Have.size_ (h : Have K w0 w b F s) (hZ : K.Z w0) (nm : List UInt8) (sv : ByteArray) (hv : sv = str nm) {n E : Nat} (hs : sizeS s nm = (n, E)) (hnm : nm.length ≤ maxLen := by decide) :
    Calls Tryz.prog 25 #[.pointer (some ⟨b, 0, none⟩), .string sv] w fun e w' => e = .returned (.tuple #[.int .i64 (n : Int), .int .i64 (E : Int)]) ∧ Have K w0 w' b F s ∧ Keeps w w' := by
  subst hv
  have := K.size nm (h.z hZ) h.D hnm
  rw [hs] at this
  exact this.mono fun e w' q => ⟨q.1, h.keep q.2, q.2⟩
/-- a new one of 4096 sectors -/
theorem new_ (K : DiskOk) (w : World) (hZ : K.Z w) : Calls Tryz.prog 6 #[.int .i64 4096] w fun e w' => ∃ b F, e = .returned (.tuple #[.pointer (some ⟨b, 0, none⟩), .int .i64 0]) ∧ Have K w w' b F ⟨[], 4096, 0, false⟩ := by
  refine (K.new 4096 w hZ (by decide) (by decide)).mono ?_
  rintro e w' (⟨-, -, b, F, rfl, hD, hF, k⟩ | ⟨h, -⟩)
  · exact ⟨b, F, rfl, hD, hF, k⟩
  · exfalso; omega
end
end Go.Proofs.YtjfnpfojboellaaGreat
