/- What bytes.Clone answers. -/
import Derived.Test.YtamboappeahgpaaGreatDoorQBase
import Derived.Test.YtamboappeahgpaaGreatDoorProg
namespace Go.Proofs.YtamboappeahgpaaGreatDoor
open Go.RowKit
set_option linter.unusedSimpArgs false
set_option linter.unusedVariables false
set_option maxRecDepth 100000

theorem info_u8c : (Tryz.prog.info? 5).map (fun i => (i.zero, i.size, i.bytes)) = some (some (.int .u8 0), 1, 1) := by kernel_rfl
set_option maxHeartbeats 4000000 in
theorem clone_any (A : Option Addr) (n c : Nat) (l : List UInt8) (w : World) (hB : Bs w A l) (hn : n = l.length) (h0 : A = none → c = 0) (hmax : n ≤ 20000000) :
    Calls Tryz.prog 63 #[.slice A n c] w fun e w' => ∃ v, e = .returned v ∧ Own w' w.heap.size 5 1 v l.length (cel l) ∧ Keeps w w' := by
  obtain ⟨i0, hi, hz0, hz1, hz2⟩ := info_parts info_u8c
  have heq := fun (a : Option Addr) (n c : Nat) (w : World) => Lib.run_eql_slice_nil (P := Tryz.prog) w 34 5 a n c 0 0 Tryz.underlying34
  cases A with
  | none =>
    have hl : l = [] := by
      rcases hB with h1 | ⟨ad, h1, _⟩
      · cases l with
        | nil => rfl
        | cons => simp [cel] at h1
      · cases h1
    subst hl
    have hz : n = 0 := by simpa using hn
    have hz2 : c = 0 := h0 rfl
    subst hz
    subst hz2
    clear hB h0 hmax hn hz0 hz1 hi
    go_enter Tryz.func63, Tryz.ntmps63
    go_wp2_with fail
    go_ret
    exact ⟨_, rfl, Own.nil _ _ _ _, keeps_refl _⟩
  | some ad =>
    have HN := Lib.hid hn
    have k0 := keeps_alloc w (.cells #[] 5)
    have hB2 := Lib.hid (hB.keep k0)
    have O0 := Lib.hid (show Own (w.alloc (.cells #[] 5)) w.heap.size 5 1 (.slice (some ⟨w.heap.size, 0, none⟩) 0 0) 0 [] from ⟨rfl, .inr ⟨w.heap.size, 0, #[], (0, 0), rfl, Nat.le_refl _, heap_alloc_new w _, .inl rfl, Nat.le_refl _, by simp [maxLen], rfl, rfl⟩⟩)
    have HMX := Lib.hid hmax
    clear hn hB h0 hmax
    go_enter Tryz.func63, Tryz.ntmps63
    go_wp2_with (at_builtin; refine wpList_app _ rfl _ _ 34 rfl w.heap.size 5 i0 (.int .u8 0) 1 1 Tryz.underlying34 hi hz0 hz1 hz2 rfl (by decide) _ 0 [] rfl O0.out _ (some ad) n c (cel l) rfl (by rw [cel_length, HN.out, Nat.mul_one]) hB2.out (cel_one l) (by have := HMX.out; unfold maxLen; omega) (by have := HMX.out; omega) (by simp) ?_; intro v2 w2 hown2 hgrow2 hblk2)
    have k2 : Keeps w w2 := Below.grown k0 hgrow2 k0.size (fun g hg => (O0.out.lt g hg).1)
    have HO := Lib.hid (show Own w2 w.heap.size 5 1 v2 l.length (cel l) by have := hown2; rw [HN.out] at this; simpa using this)
    clear hown2 hgrow2 hblk2
    go_wp2_with fail
    go_ret
    exact ⟨_, rfl, HO.out, k2⟩
end Go.Proofs.YtamboappeahgpaaGreatDoor
