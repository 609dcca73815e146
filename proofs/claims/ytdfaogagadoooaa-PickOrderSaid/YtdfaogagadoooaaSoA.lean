/- slices.Sort at []uint32: the row that is sorted, cmp.Less, an exchange. -/
import Derived.Sort.AssemblyPlain
import Derived.Test.YtdfaogagadoooaaProg
import Derived.Test.YtdfaogagadoooaaU32s
import Derived.Test.YtdfaogagadoooaaOnly
namespace Go.Proofs.Ytdfaogagadoooaa
open Go.RowKit Go.Sort
set_option linter.unusedSimpArgs false
set_option linter.unusedVariables false
set_option maxRecDepth 100000

def ltN (x y : Nat) : Bool := decide (x < y)
theorem swo_ltN : SWO ltN where
  irrefl x := by simp [ltN]
  trans x y z h k := by simp only [ltN, decide_eq_true_eq] at *; omega
  ntrans x y z h k := by simp only [ltN, decide_eq_false_iff_not] at *; omega
theorem ltN_tot (x y : Nat) (h : ltN x y = false) (k : ltN y x = false) : x = y := by simp only [ltN, decide_eq_false_iff_not] at *; omega

/-- the row g of W holds d; but for that row nothing has turned since w -/
structure SoR (w W : World) (base g n cap : Nat) (d : Array Nat) : Prop where
  own : Own W base 30 1 (.slice (some ⟨g, 0, none⟩) n cap) n (celU d.toList)
  only : Only w W (fun b => b = g)
  size : d.size = n
theorem SoR.keep {w W W' : World} {base g n cap : Nat} {d : Array Nat} (h : SoR w W base g n cap d) (k : Keeps W W') : SoR w W' base g n cap d := ⟨h.own.keep k, h.only.keep k, h.size⟩
theorem SoR.cell {w W : World} {base g n cap : Nat} {d : Array Nat} (h : SoR w W base g n cap d) {i : Nat} (hi : i < n) : W.cell? ⟨g, i, none⟩ = some (.int .u32 (d[i]! : Int)) ∧ W.frozen? ⟨g, i, none⟩ = false := by
  have hs := h.size
  obtain ⟨g', hg, hc, hf, -⟩ := h.own.cell (j := i) (by rw [celU_len]; simpa using hs ▸ hi)
  injection hg with hg
  injection hg with hg
  subst hg
  refine ⟨?_, hf⟩
  rw [hc, celU_get d.toList (v := d[i]!) (by rw [Array.getElem?_toList, Array.getElem?_eq_getElem (by omega), getElem!_pos d i (by omega)])]
theorem SoR.step {w W W' : World} {base g n cap : Nat} {d d' : Array Nat} (h : SoR w W base g n cap d) (k : SoR W W' base g n cap d') : SoR w W' base g n cap d' := ⟨k.own, h.only.trans k.only (fun _ e => .inl e), k.size⟩
theorem SoR.start {w : World} {base g n cap : Nat} {d : Array Nat} (h : Own w base 30 1 (.slice (some ⟨g, 0, none⟩) n cap) n (celU d.toList)) : SoR w w base g n cap d := ⟨h, Only.refl _ _, by have := h.1; rw [celU_len] at this; simpa using this⟩
theorem celU_set (l : List Nat) (i x : Nat) : (celU l).set i (.int .u32 (x : Int)) = celU (l.set i x) := by
  unfold celU
  rw [List.map_set]
  rfl
theorem only_set (w : World) (g i : Nat) (u : Value) : Only w (w.setCell ⟨g, i, none⟩ u) (fun b => b = g) := ⟨rfl, rfl, rfl, by simp, fun k _ hn => by simp [World.setCell, Array.getElem?_modify, Ne.symm hn]⟩
theorem SoR.swp {w W : World} {base g n cap : Nat} {d : Array Nat} (h : SoR w W base g n cap d) {i j : Nat} (hi : i < n) (hj : j < n) :
    SoR w ((W.setCell ⟨g, i, none⟩ (.int .u32 (d[j]! : Int))).setCell ⟨g, j, none⟩ (.int .u32 (d[i]! : Int))) base g n cap (swp d i j) := by
  have hs := h.size
  refine ⟨?_, (h.only.trans (only_set _ _ _ _) (fun _ e => .inl e)).trans (only_set _ _ _ _) (fun _ e => .inl e), by rw [size_swp]; exact hs⟩
  have o1 := h.own.store (j := i) (by rw [celU_len]; simpa using hs ▸ hi) (.int .u32 (d[j]! : Int))
  rw [celU_set] at o1
  have o2 := o1.store (j := j) (by rw [celU_len, List.length_set]; simpa using hs ▸ hj) (.int .u32 (d[i]! : Int))
  rw [celU_set] at o2
  simpa [Sort.swp, Array.toList_setIfInBounds] using o2
theorem SoR.swp1 {w W : World} {base g n cap : Nat} {d : Array Nat} (h : SoR w W base g n cap d) {i : Nat} (hi : i < n) :
    SoR w ((W.setCell ⟨g, i, none⟩ (.int .u32 (d[i]! : Int))).setCell ⟨g, i, none⟩ (.int .u32 (d[i]! : Int))) base g n cap (Sort.swp d i i) := h.swp hi hi

theorem SoR.at {w W : World} {base g n cap : Nat} {d : Array Nat} (h : SoR w W base g n cap d) {i x : Nat} (hi : i < n) (hx : d[i]! = x) : W.cell? ⟨g, i, none⟩ = some (.int .u32 (x : Int)) := by rw [← hx]; exact (h.cell hi).1
theorem SoR.fz {w W : World} {base g n cap : Nat} {d : Array Nat} (h : SoR w W base g n cap d) {i : Nat} (hi : i < n) : W.frozen? ⟨g, i, none⟩ = false := (h.cell hi).2
theorem SoR.swpx {w W : World} {base g n cap : Nat} {d : Array Nat} (h : SoR w W base g n cap d) {i j x y : Nat} (hi : i < n) (hj : j < n) (hx : d[i]! = x) (hy : d[j]! = y) :
    SoR w ((W.setCell ⟨g, i, none⟩ (.int .u32 (y : Int))).setCell ⟨g, j, none⟩ (.int .u32 (x : Int))) base g n cap (Sort.swp d i j) := by
  subst hx hy
  exact h.swp hi hj

theorem isNaN_u32 (x : Int) (w : World) : Calls Try.prog 45 #[.int .u32 x] w fun e w' => e = .returned (.bool false) ∧ w' = w := by
  go_enter Try.func45, Try.ntmps45
  go_wp2
  go_ret
  exact ⟨by simp, rfl⟩
set_option maxHeartbeats 1000000 in
theorem less_u32 (x y : Nat) (w : World) : Calls Try.prog 35 #[.int .u32 (x : Int), .int .u32 (y : Int)] w fun e w' => e = .returned (.bool (ltN x y)) ∧ w' = w := by
  have E : decide ((x : Int) < (y : Int)) = ltN x y := by unfold ltN; congr 1; simp
  have HE := Lib.hid E
  clear E
  go_enter Try.func35, Try.ntmps35
  go_wp2_with (go_at_call 45; refine (isNaN_u32 _ _).mono ?_; rintro e w' ⟨rfl, rfl⟩)
  go_ret
  exact ⟨by rw [← HE.out]; simp, rfl⟩
end Go.Proofs.Ytdfaogagadoooaa
