/- The contract of milepostlaw02.Turned: bytes of which a burst turned some bits. -/
import Derived.Test.YtmholhjdpkfleaaDoorQOctetRows
import Derived.Test.YtmholhjdpkfleaaDoorQRefA
import Derived.Deep.RegionHeld3
import Derived.Lib.SlBytesConst
namespace Go.Proofs.YtmholhjdpkfleaaDoor
open Go.RowKit
set_option linter.unusedSimpArgs false
set_option linter.unusedVariables false
set_option maxRecDepth 100000

theorem cel_set (l : List UInt8) (q : Nat) (b : UInt8) : cel (l.set q b) = (cel l).set q (.int .u8 (b.toNat : Int)) := by simp [cel, List.map_set]
theorem mask_bit (m k : Nat) (hm : m < 4294967296) : bits .and .u32 ((m : Int) / 2 ^ k) 1 = (m.testBit k).toNat := by
  have e : (m : Int) / 2 ^ k = ((m / 2 ^ k : Nat) : Int) := by simp
  have hlt : m / 2 ^ k < 4294967296 := Nat.lt_of_le_of_lt (Nat.div_le_self _ _) hm
  have h := u32_and_nat (m / 2 ^ k) 1 hlt (by decide)
  rw [e]
  refine h.trans ?_
  rw [Nat.and_one_is_mod, Nat.testBit_eq_decide_div_mod_eq]
  rcases Nat.mod_two_eq_zero_or_one (m / 2 ^ k) with h0 | h0 <;> rw [h0] <;> rfl

end Go.Proofs.YtmholhjdpkfleaaDoor
/- The walks of layer 2's statements, from the contracts of crc.Extend and crc.Sum. -/
namespace Go.Proofs.YtmholhjdpkfleaaDoor
open Go.RowKit
set_option linter.unusedSimpArgs false
set_option linter.unusedVariables false
set_option maxRecDepth 100000

/-- What a law leaves. -/
def YesC (w : World) (e : Ending) (w' : World) : Prop := e = .returned (.bool true) ∧ Keeps w w'
/-- What the two calls of package crc answer. -/
structure CrcOk : Prop where
  ext : ∀ (s : Nat), s < 4294967296 → ∀ (A : Option Addr) (n c : Nat) (l : List UInt8) (w : World), Bs w A l → n = l.length → n ≤ c → n ≤ 1000000 →
    Calls Tryd.prog 93 #[.int .u32 s, .slice A n c] w fun e w' => e = .returned (.int .u32 (extC s l)) ∧ Keeps w w'
  sum : ∀ (A : Option Addr) (n c : Nat) (l : List UInt8) (w : World), Bs w A l → n = l.length → n ≤ c → n ≤ 1000000 →
    Calls Tryd.prog 83 #[.slice A n c] w fun e w' => e = .returned (.int .u32 (extC 0 l)) ∧ Keeps w w'

def nine : List UInt8 := [49, 50, 51, 52, 53, 54, 55, 56, 57]
theorem nine_sum : extC 0 nine = 3808858755 := by kernel_rfl
theorem none_sum : extC 7 [] = 7 := by kernel_rfl

theorem At.newMarked (w : World) (cs : List Value) (e : TypeId) (fz : Nat × Nat) (B : Nat) (hB : w.heap.size < B) : At (w.alloc (.cells cs.toArray e fz)) B (some ⟨w.heap.size, 0, none⟩) cs := by
  refine .inr ⟨_, rfl, hB, fun j u hu => ?_⟩
  rw [Addr.add_lit, Nat.zero_add, cell_of_row _ _ j cs.toArray e fz (heap_alloc_new w _)]
  simpa using hu

theorem infoC_u8 : (Tryd.prog.info? 5).map (fun i => (i.zero, i.size, i.bytes)) = some (some (.int .u8 0), 1, 1) := by kernel_rfl
theorem byteC (x k : Nat) : ((x : Int) / 2 ^ (8 * k) % 256) = ((UInt8.ofNat (x / 256 ^ k % 256)).toNat : Int) := by
  have e : (256 : Nat) ^ k = 2 ^ (8 * k) := by rw [Nat.pow_mul]
  rw [e]
  simp

end Go.Proofs.YtmholhjdpkfleaaDoor
