/- Mathematics of no program: what of a file stays behind a loss of power. -/
import Derived.Test.YtmholhjdpkfleaaDoorQDiskMath
namespace Go.Proofs.YtmholhjdpkfleaaDoor
set_option linter.unusedSimpArgs false
set_option linter.unusedVariables false
set_option maxRecDepth 100000

/-- the numbers below j that a test holds of -/
def cntP (p : Nat → Bool) (j : Nat) : Nat := ((List.range j).filter p).length
theorem cntP_succ (p : Nat → Bool) (j : Nat) : cntP p (j + 1) = cntP p j + if p j then 1 else 0 := by
  unfold cntP
  rw [List.range_succ, List.filter_append, List.length_append]
  cases h : p j <;> simp [h]
theorem cntP_le (p : Nat → Bool) {i j : Nat} (h : i ≤ j) : cntP p i ≤ cntP p j := by
  induction j with
  | zero => have : i = 0 := by omega
            subst this; exact Nat.le_refl _
  | succ j ih =>
    rw [cntP_succ]
    by_cases e : i = j + 1
    · subst e; rw [cntP_succ]; exact Nat.le_refl _
    · have := ih (by omega); omega
/-- which of them stands at a place -/
theorem filt_idx (p : Nat → Bool) (S k j : Nat) : ((List.range S).filter p)[k]? = some j ↔ j < S ∧ p j = true ∧ k = cntP p j := by
  induction S with
  | zero => simp
  | succ S ih =>
    rw [List.range_succ, List.filter_append]
    have hl : ((List.range S).filter p).length = cntP p S := rfl
    by_cases hk : k < cntP p S
    · rw [List.getElem?_append_left (by rw [hl]; exact hk), ih]
      constructor
      · rintro ⟨h1, h2, h3⟩
        exact ⟨by omega, h2, h3⟩
      · rintro ⟨h1, h2, h3⟩
        refine ⟨?_, h2, h3⟩
        rcases Nat.lt_or_ge j S with h | h
        · exact h
        · have : j = S := by omega
          subst this
          omega
    · rw [List.getElem?_append_right (by rw [hl]; omega), hl]
      cases hS : p S with
      | false =>
        simp [hS]
        intro h1 h2 h3
        rcases Nat.lt_or_ge j S with h | h
        · have h4 : cntP p (j + 1) ≤ cntP p S := cntP_le p (by omega)
          rw [cntP_succ, h2] at h4
          simp at h4
          omega
        · have : j = S := by omega
          subst this
          rw [hS] at h2; cases h2
      | true =>
        rw [List.filter_cons_of_pos hS, List.filter_nil]
        constructor
        · intro h
          have hk0 : k - cntP p S = 0 := by
            rcases Nat.eq_zero_or_pos (k - cntP p S) with e | e
            · exact e
            · rw [List.getElem?_eq_none (by simp; omega)] at h; cases h
          rw [hk0] at h
          simp at h
          subst h
          exact ⟨by omega, hS, by omega⟩
        · rintro ⟨h1, h2, h3⟩
          have hj : j = S := by
            rcases Nat.lt_or_ge j S with h | h
            · have h4 : cntP p (j + 1) ≤ cntP p S := cntP_le p (by omega)
              rw [cntP_succ, h2] at h4
              simp at h4
              omega
            · omega
          subst hj
          have : k - cntP p j = 0 := by omega
          rw [this]
          rfl
theorem looseF_idx (f : Fl) (h : ∀ k, f.loose k = true → k < sect f.now.length) (k j : Nat) : (looseF f)[k]? = some j ↔ f.loose j = true ∧ k = cntP f.loose j := by
  unfold looseF
  rw [filt_idx]
  constructor
  · rintro ⟨_, h2, h3⟩; exact ⟨h2, h3⟩
  · rintro ⟨h2, h3⟩; exact ⟨h j h2, h2, h3⟩
/-- a sector stays if the place of it is told -/
theorem kept_iff (f : Fl) (h : ∀ k, f.loose k = true → k < sect f.now.length) (keep : List Int) (j : Nat) : keptF f 0 keep j = true ↔ ∃ k : Nat, (looseF f)[k]? = some j ∧ keep.contains (k : Int) = true := by
  unfold keptF
  rw [Nat.zero_add, Bool.and_eq_true]
  constructor
  · rintro ⟨h1, h2⟩
    exact ⟨cntP f.loose j, (looseF_idx f h _ _).2 ⟨h1, rfl⟩, h2⟩
  · rintro ⟨k, h1, h2⟩
    obtain ⟨h3, rfl⟩ := (looseF_idx f h _ _).1 h1
    exact ⟨h3, h2⟩
theorem endK_le (n : Nat) (kept : Nat → Bool) (m : Nat) : endK n kept m ≤ n := by
  induction m with
  | zero => simp [endK]
  | succ m ih =>
    unfold endK
    split
    · exact Nat.min_le_right _ _
    · exact ih
theorem endK_ge (n : Nat) (kept : Nat → Bool) (m j : Nat) (hj : j < m) (hk : kept j = true) : min (64 * (j + 1)) n ≤ endK n kept m := by
  induction m with
  | zero => omega
  | succ m ih =>
    unfold endK
    by_cases h : kept m = true
    · rw [if_pos h]
      omega
    · rw [if_neg h]
      exact ih (by
        rcases Nat.lt_or_ge j m with h1 | h1
        · exact h1
        · have : j = m := by omega
          subst this
          exact absurd hk h)
theorem backB_length (f : Fl) (kept : Nat → Bool) : (backB f kept).length = max f.lasts.length (endK f.now.length kept (sect f.now.length)) := by simp [backB]
theorem backB_bounds (f : Fl) (kept : Nat → Bool) (h : f.lasts.length ≤ f.now.length) : f.lasts.length ≤ (backB f kept).length ∧ (backB f kept).length ≤ f.now.length := by
  rw [backB_length]
  have := endK_le f.now.length kept (sect f.now.length)
  omega
theorem backB_get (f : Fl) (kept : Nat → Bool) (h : f.lasts.length ≤ f.now.length) {i : Nat} (hi : i < (backB f kept).length) : (backB f kept).getD i 0 = if kept (i / 64) = true then f.now.getD i 0 else f.lasts.getD i 0 := by
  have h1 := (backB_bounds f kept h).2
  have hn : i < f.now.length := by omega
  have e : (backB f kept)[i]? = some (if kept (i / 64) && decide (i < f.now.length) then f.now.getD i 0 else f.lasts.getD i 0) := by
    rw [backB_length] at hi
    unfold backB
    rw [List.getElem?_map, List.getElem?_range hi]
    rfl
  rw [List.getD_eq_getElem?_getD, e]
  simp only [Option.getD_some, hn, decide_true, Bool.and_true]
/-- the places that the disk tells are those of the one file -/
theorem places1 (f : Fl) : placesL [f] = (looseF f).map fun k => (f.name, k) := by simp [placesL]
end Go.Proofs.YtmholhjdpkfleaaDoor
