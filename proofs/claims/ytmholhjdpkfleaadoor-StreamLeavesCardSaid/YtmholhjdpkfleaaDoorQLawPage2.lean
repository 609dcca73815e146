/- The walks of PageMakes and PageOpens. -/
import Derived.Test.YtmholhjdpkfleaaDoorQRefPage
namespace Go.Proofs.YtmholhjdpkfleaaDoor
open Go.RowKit
set_option linter.unusedSimpArgs false
set_option linter.unusedVariables false
set_option maxRecDepth 100000

/-- bytes in new memory, and an error: either -/
def Res (w : World) (L : List UInt8) (k : Int) (e : Ending) (w' : World) : Prop :=
  ∃ A c, e = .returned (.tuple #[.slice A L.length c, .int .i64 k]) ∧ Own w' w.heap.size 5 1 (.slice A L.length c) L.length (cel L) ∧ L.length ≤ c ∧ c ≤ maxLen ∧ Keeps w w'
theorem Res.of_gave {w w' : World} {L : List UInt8} {e : Ending} (h : Gave w L e w') : Res w L 0 e w' := by
  obtain ⟨v, rfl, o, k⟩ := h
  obtain ⟨A, c, rfl, h1, h2, -, -⟩ := o.form
  exact ⟨A, c, rfl, o, h1, h2, k⟩
theorem Res.of_refused {w w' : World} {k : Int} {e : Ending} (h : Refused w k e w') : Res w [] k e w' := by
  obtain ⟨rfl, q⟩ := h
  exact ⟨none, 0, rfl, Own.nil _ _ _ _, Nat.le_refl _, Nat.zero_le _, q⟩
def makeL (t n : Nat) (b : List UInt8) : List UInt8 := if b.length ≤ 240 then pageB t n b else []
def makeK (b : List UInt8) : Int := if b.length ≤ 240 then 0 else 9
theorem makeL_le (t n : Nat) (b : List UInt8) : (makeL t n b).length ≤ 256 := by
  unfold makeL; split
  · rename_i h; rw [pageB_length t n h]; exact Nat.le_refl _
  · simp
instance (p : List UInt8) (t n : Nat) : Decidable (IsPage p t n) := by unfold IsPage; exact inferInstance
def openL (p : List UInt8) (t n : Nat) : List UInt8 := if IsPage p t n then saidB p else []
def openK (p : List UInt8) (t n : Nat) : Int := if IsPage p t n then 0 else 7
theorem openL_le (p : List UInt8) (t n : Nat) : (openL p t n).length ≤ 240 := by
  unfold openL; split
  · rename_i h; exact saidB_le h
  · simp

theorem make_res (K : PageOk) (t n : Nat) (ht : t < 4294967296) (hn : n < 4294967296) (A : Option Addr) (m c : Nat) (b : List UInt8) (w : World) (hS : Sizes w) (hB : Bs w A b) (hm : m = b.length) (hc : m ≤ c) (hc2 : c ≤ maxLen) :
    Calls Tryd.prog 71 #[.int .u32 t, .int .u32 n, .slice A m c] w (Res w (makeL t n b) (makeK b)) := by
  unfold makeL makeK
  by_cases h : b.length ≤ 240
  · rw [if_pos h, if_pos h]
    exact (K.make t n ht hn A m c b w hS hB hm hc hc2 h).mono fun _ _ => Res.of_gave
  · rw [if_neg h, if_neg h]
    exact (K.many t n A m c w (by omega) (by omega)).mono fun _ _ => Res.of_refused
theorem open_res (K : PageOk) (t n : Nat) (ht : t < 4294967296) (hn : n < 4294967296) (A : Option Addr) (m c : Nat) (p : List UInt8) (w : World) (hS : Sizes w) (hB : Bs w A p) (hm : m = p.length) (hc : m ≤ c) (hc2 : c ≤ maxLen) :
    Calls Tryd.prog 78 #[.slice A m c, .int .u32 t, .int .u32 n] w (Res w (openL p t n) (openK p t n)) := by
  unfold openL openK
  by_cases h : IsPage p t n
  · rw [if_pos h, if_pos h]
    exact (K.takes t n ht hn A m c p w hS hB hm hc hc2 h).mono fun _ _ => Res.of_gave
  · rw [if_neg h, if_neg h]
    exact (K.rot t n ht hn A m c p w hS hB hm hc hc2 h).mono fun _ _ => Res.of_refused
end Go.Proofs.YtmholhjdpkfleaaDoor
