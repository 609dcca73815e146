/- The contract of milepostlaw02.Turned: bytes of which a burst turned some bits. -/
import Derived.Test.YtllmmmggepgblaaDoorRefCrc
import Derived.Test.YtllmmmggepgblaaDoorRefA
namespace Go.Proofs.YtllmmmggepgblaaDoor
open Go.RowKit
set_option linter.unusedSimpArgs false
set_option linter.unusedVariables false
set_option maxRecDepth 100000

theorem cel_set (l : List UInt8) (q : Nat) (b : UInt8) : cel (l.set q b) = (cel l).set q (.int .u8 (b.toNat : Int)) := by simp [cel, List.map_set]
theorem mask_bit (m k : Nat) (hm : m < 4294967296) : bits .and .u32 ((m : Int) / 2 ^ k) 1 = (m.testBit k).toNat := by
  have e : (m : Int) / 2 ^ k = ((m / 2 ^ k : Nat) : Int) := by simp
  have hlt : m / 2 ^ k < 4294967296 := Nat.lt_of_le_of_lt (Nat.div_le_self _ _) hm
  have h := u32_and_nat (m / 2 ^ k) 1 hlt (by decide)
  rw [e]
  refine h.trans ?_
  rw [Nat.and_one_is_mod, Nat.testBit_eq_decide_div_mod_eq]
  rcases Nat.mod_two_eq_zero_or_one (m / 2 ^ k) with h0 | h0 <;> rw [h0] <;> rfl

end Go.Proofs.YtllmmmggepgblaaDoor
