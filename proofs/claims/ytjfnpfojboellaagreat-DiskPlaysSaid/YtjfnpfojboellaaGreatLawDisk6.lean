/- DiskCuts. -/
import Derived.Test.YtjfnpfojboellaaGreatLawDisk5
namespace Go.Proofs.YtjfnpfojboellaaGreat
open Go.RowKit
set_option linter.unusedSimpArgs false
set_option linter.unusedVariables false
set_option maxRecDepth 100000

theorem sizeU8d : (Tryz.prog.info? 5).map (·.size) = some 1 := by kernel_rfl
/-- a file a that holds and keeps these bytes -/
def fA (l : List UInt8) : Fl := ⟨[97], l, l, fun _ => false⟩
theorem start_a (l : List UInt8) (h : l.length ≤ 262144) : writeS (D1 ⟨[97], [], [], fun _ => false⟩) [97] 0 l = (D1 (writeF ⟨[97], [], [], fun _ => false⟩ 0 l), 0) := by
  have := write1 (f := ⟨[97], [], [], fun _ => false⟩) rfl (off := 0) (b := l) (Nat.zero_le _) (by simp; omega)
  simpa using this
theorem start_b (l : List UInt8) : syncS (D1 (writeF ⟨[97], [], [], fun _ => false⟩ 0 l)) [97] = (D1 (fA l), 0) := by
  rw [sync1 (by rfl)]
  have : syncF (writeF ⟨[97], [], [], fun _ => false⟩ 0 l) = fA l := by simp [syncF, writeF, layB_nil, fA]
  rw [this]
def fC (l : List UInt8) (k : Nat) : Fl := cutF (fA l) k
theorem fC_now (l : List UInt8) (k : Nat) : (fC l k).now = l.take k := rfl
theorem fC_lasts (l : List UInt8) (k : Nat) : (fC l k).lasts = l.take k := rfl
theorem cuts_w (l more : List UInt8) (k : Nat) (hk : k ≤ l.length) (h : l.length + more.length ≤ 262144) : writeS (D1 (fC l k)) [97] (k : Int) more = (D1 (writeF (fC l k) k more), 0) :=
  write1 (f := fC l k) rfl (by rw [fC_now, List.length_take]; omega) (by rw [fC_now, List.length_take]; omega)
theorem cuts_now (l more : List UInt8) (k : Nat) (hk : k ≤ l.length) : (writeF (fC l k) k more).now = l.take k ++ more := by
  show layB (l.take k) k more = _
  have e : k = (l.take k).length := by rw [List.length_take]; omega
  have := layB_end (l.take k) more
  rw [← e] at this
  exact this
theorem cuts_on (l more : List UInt8) (k : Nat) : onS ⟨[writeF (fC l k) k more], 4096, 0, true⟩ [] = (D1 (fA (l.take k)), 0) := by
  rw [on1, backF_nil]
  rfl
theorem i0_ok : IsI 0 := ⟨by decide, by decide⟩
theorem i1_ok : IsI 1 := ⟨by decide, by decide⟩
theorem iM_ok : IsI 16777216 := ⟨by decide, by decide⟩

end Go.Proofs.YtjfnpfojboellaaGreat
