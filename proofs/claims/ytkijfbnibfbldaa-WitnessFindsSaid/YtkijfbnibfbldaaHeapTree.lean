/- The mathematics of a tree in a list: which thing is ahead of which. -/
import Derived.Test.YtkijfbnibfbldaaHeapMath
namespace Go.Proofs.Ytkijfbnibfbldaa
open Go.RowKit
set_option linter.unusedSimpArgs false
set_option linter.unusedVariables false
set_option maxRecDepth 100000

/-- the item at a place -/
def it (l : List It) (i : Nat) : It := l.getD i ⟨0, 0⟩
theorem it_get {l : List It} {i : Nat} (h : i < l.length) : l[i]? = some (it l i) := by simp [it, List.getD, h]
theorem it_of {l : List It} {i : Nat} {x : It} (h : l[i]? = some x) : it l i = x := by simp [it, List.getD, h]
/-- two change places -/
def sw (l : List It) (i j : Nat) : List It := (l.set i (it l j)).set j (it l i)
theorem sw_length (l : List It) (i j : Nat) : (sw l i j).length = l.length := by simp [sw]
theorem it_sw {l : List It} {i j k : Nat} (hi : i < l.length) (hj : j < l.length) (hk : k < l.length) : it (sw l i j) k = if k = j then it l i else if k = i then it l j else it l k := by
  apply it_of
  unfold sw
  rw [List.getElem?_set]
  by_cases h1 : j = k
  · rw [if_pos h1, if_pos (by rw [List.length_set]; omega), if_pos h1.symm]
  · rw [if_neg h1, if_neg (fun e => h1 e.symm), List.getElem?_set]
    by_cases h2 : i = k
    · rw [if_pos h2, if_pos (by omega), if_pos h2.symm]
    · rw [if_neg h2, if_neg (fun e => h2 e.symm), it_get hk]
theorem set_permT' {d : List It} {k : Nat} {x : It} (h : d[k]? = some x) (z : It) : (x :: d.set k z).Perm (z :: d) := by
  induction d generalizing k with
  | nil => simp at h
  | cons a d ih =>
    rcases k with _ | k
    · simp only [List.getElem?_cons_zero, Option.some.injEq] at h
      subst h
      exact List.Perm.swap _ _ _
    · have h' : d[k]? = some x := by simpa using h
      rw [List.set_cons_succ]
      exact (List.Perm.swap a x _).trans (((ih h').cons a).trans (List.Perm.swap z a _))
theorem sw_perm {l : List It} {i j : Nat} (hi : i < l.length) (hj : j < l.length) : (sw l i j).Perm l := by
  by_cases hij : i = j
  · subst hij
    unfold sw
    rw [List.set_set]
    have : l.set i (it l i) = l := by
      apply List.ext_getElem?
      intro k
      rw [List.getElem?_set]
      split
      · rename_i h; subst h; first | (rw [if_pos hi, it_get hi]) | (exact (it_get hi).symm)
      · rfl
    rw [this]
  · have h1 : (l.set i (it l j))[j]? = some (it l j) := by rw [List.getElem?_set, if_neg hij]; exact it_get hj
    have a := set_permT' h1 (it l i)
    have b := set_permT' (it_get hi) (it l j)
    exact (a.trans b).cons_inv

/-- no thing is ahead of the one above it -/
def Ord (l : List It) : Prop := ∀ j, 0 < j → j < l.length → lessB (it l j) (it l ((j - 1) / 2)) = false
theorem Ord.nil : Ord [] := fun j _ h => by simp at h
/-- all but the one at i keep to it, and those below i keep to the one above i -/
structure Rise (l : List It) (i : Nat) : Prop where
  lt : i < l.length
  rest : ∀ j, 0 < j → j < l.length → j ≠ i → lessB (it l j) (it l ((j - 1) / 2)) = false
  over : 0 < i → ∀ j, 0 < j → j < l.length → (j - 1) / 2 = i → lessB (it l j) (it l ((i - 1) / 2)) = false
theorem Rise.done {l : List It} {i : Nat} (h : Rise l i) (hi : 0 < i → lessB (it l i) (it l ((i - 1) / 2)) = false) : Ord l := fun j h0 hj => by
  by_cases e : j = i
  · subst e; exact hi h0
  · exact h.rest j h0 hj e
theorem lessB_asym {a b : It} (h : lessB a b = true) : lessB b a = false := by
  rw [lessB_true] at h
  rw [lessB_false]
  omega
theorem Rise.step {l : List It} {i : Nat} (h : Rise l i) (h0 : 0 < i) (hb : lessB (it l i) (it l ((i - 1) / 2)) = true) : Rise (sw l i ((i - 1) / 2)) ((i - 1) / 2) := by
  have hi := h.lt
  have hp : (i - 1) / 2 < i := by omega
  generalize hq : (i - 1) / 2 = p at *
  have hpl : p < l.length := by omega
  have hba := lessB_asym hb
  refine ⟨by rw [sw_length]; exact hpl, fun j hj0 hj hne => ?_, fun hp0 j hj0 hj hjp => ?_⟩
  · rw [sw_length] at hj
    rw [it_sw hi hpl hj, it_sw hi hpl (by omega), if_neg hne]
    by_cases e : j = i
    · subst e
      rw [if_pos rfl, if_pos hq]
      exact hba
    · rw [if_neg e]
      by_cases e2 : (j - 1) / 2 = p
      · rw [if_pos e2]
        have := h.rest j hj0 hj e
        rw [e2] at this
        exact lessB_le_trans hba this
      · rw [if_neg e2]
        by_cases e3 : (j - 1) / 2 = i
        · rw [if_pos e3]
          have := h.over h0 j hj0 hj e3
          rwa [hq] at this
        · rw [if_neg e3]
          exact h.rest j hj0 hj e
  · rw [sw_length] at hj
    have hpp : (p - 1) / 2 < p := by omega
    rw [it_sw hi hpl hj, it_sw hi hpl (by omega), if_neg (show (p - 1) / 2 ≠ p by omega), if_neg (show (p - 1) / 2 ≠ i by omega)]
    have hpr := h.rest p hp0 hpl (by omega)
    rw [if_neg (show j ≠ p by omega)]
    by_cases e : j = i
    · rw [if_pos e]
      exact hpr
    · rw [if_neg e]
      have := h.rest j hj0 hj e
      rw [hjp] at this
      exact lessB_le_trans hpr this
/-- all but those below i keep to it, and those below i keep to the one above i -/
structure Sink (l : List It) (i : Nat) : Prop where
  rest : ∀ j, 0 < j → j < l.length → (j - 1) / 2 ≠ i → lessB (it l j) (it l ((j - 1) / 2)) = false
  over : 0 < i → ∀ j, 0 < j → j < l.length → (j - 1) / 2 = i → lessB (it l j) (it l ((i - 1) / 2)) = false
/-- b is i, or right below it, and none of these is ahead of it -/
structure Fore (l : List It) (i b : Nat) : Prop where
  is : b = i ∨ ((b = 2 * i + 1 ∨ b = 2 * i + 2) ∧ b < l.length ∧ lessB (it l b) (it l i) = true)
  none : ∀ j, (j = 2 * i + 1 ∨ j = 2 * i + 2) → j < l.length → lessB (it l j) (it l b) = false
theorem Sink.done {l : List It} {i : Nat} (h : Sink l i) (f : Fore l i i) : Ord l := fun j h0 hj => by
  by_cases e : (j - 1) / 2 = i
  · rw [e]
    exact f.none j (by omega) hj
  · exact h.rest j h0 hj e
theorem Sink.step {l : List It} {i b : Nat} (h : Sink l i) (hi : i < l.length) (f : Fore l i b) (hne : b ≠ i) : Sink (sw l i b) b := by
  rcases f.is with e | ⟨hb, hbl, hlt⟩
  · exact absurd e hne
  have hpb : (b - 1) / 2 = i := by omega
  have hbi : i < b := by omega
  refine ⟨fun j hj0 hj hp => ?_, fun hb0 j hj0 hj hp => ?_⟩
  · rw [sw_length] at hj
    rw [it_sw hi hbl hj, it_sw hi hbl (by omega), if_neg hp]
    by_cases e : j = b
    · subst e
      rw [if_pos rfl, if_pos hpb]
      exact lessB_asym hlt
    · rw [if_neg e]
      by_cases e2 : (j - 1) / 2 = i
      · rw [if_pos e2, if_neg (show j ≠ i by omega)]
        exact f.none j (by omega) hj
      · rw [if_neg e2]
        by_cases e3 : j = i
        · rw [if_pos e3]
          have := h.over (by omega) b (by omega) hbl hpb
          rw [e3]
          exact this
        · rw [if_neg e3]
          exact h.rest j hj0 hj e2
  · rw [sw_length] at hj
    rw [hpb, it_sw hi hbl hj, it_sw hi hbl hi, if_neg (show i ≠ b by omega), if_pos rfl, if_neg (show j ≠ b by omega), if_neg (show j ≠ i by omega)]
    have := h.rest j hj0 hj (by omega)
    rw [hp] at this
    exact this
theorem Ord.least {l : List It} (h : Ord l) : ∀ j, j < l.length → lessB (it l j) (it l 0) = false := by
  intro j
  induction j using Nat.strongRecOn with
  | _ j ih =>
    intro hj
    by_cases h0 : j = 0
    · subst h0; exact lessB_irr _
    · exact lessB_le_trans (ih ((j - 1) / 2) (by omega) (by omega)) (h j (by omega) hj)
theorem Ord.first {l : List It} (h : Ord l) (hl : 0 < l.length) : Least (it l 0) l :=
  ⟨List.mem_of_getElem? (it_get hl), fun y hy => by
    obtain ⟨q, hq⟩ := List.getElem?_of_mem hy
    have := h.least q (List.getElem?_eq_some_iff.1 hq).1
    rwa [it_of hq] at this⟩
/-- one more at the end -/
theorem Ord.push {l : List It} (h : Ord l) (x : It) : Rise (l ++ [x]) l.length := by
  have g : ∀ j, j < l.length → it (l ++ [x]) j = it l j := fun j hj => by
    apply it_of
    rw [List.getElem?_append_left hj]
    exact it_get hj
  refine ⟨by simp, fun j h0 hj hne => ?_, fun h0 j hj0 hj hp => ?_⟩
  · rw [List.length_append, List.length_singleton] at hj
    rw [g j (by omega), g _ (by omega)]
    exact h j h0 (by omega)
  · rw [List.length_append, List.length_singleton] at hj
    omega
/-- the last one comes in the first one's place -/
def cutL (l : List It) : List It := (sw l 0 (l.length - 1)).take (l.length - 1)
theorem cutL_length (l : List It) : (cutL l).length = l.length - 1 := by
  unfold cutL
  rw [List.length_take, sw_length]
  omega
theorem it_cutL {l : List It} {k : Nat} (hk : k < l.length - 1) : it (cutL l) k = if k = 0 then it l (l.length - 1) else it l k := by
  have e : it (cutL l) k = it (sw l 0 (l.length - 1)) k := by
    apply it_of
    unfold cutL
    rw [List.getElem?_take, if_pos hk]
    exact it_get (by rw [sw_length]; omega)
  rw [e, it_sw (by omega) (by omega) (by omega), if_neg (by omega)]
theorem Ord.cut {l : List It} (h : Ord l) : Sink (cutL l) 0 := by
  refine ⟨fun j h0 hj hp => ?_, fun h0 => by omega⟩
  rw [cutL_length] at hj
  rw [it_cutL hj, it_cutL (by omega), if_neg (by omega), if_neg hp]
  exact h j h0 (by omega)
theorem cutL_perm {l : List It} (hl : 0 < l.length) : (it l 0 :: cutL l).Perm l := by
  have h1 : (sw l 0 (l.length - 1))[l.length - 1]? = some (it l 0) := by
    have := it_get (l := sw l 0 (l.length - 1)) (i := l.length - 1) (by rw [sw_length]; omega)
    rw [this, it_sw (by omega) (by omega) (by omega), if_pos rfl]
  have h2 : sw l 0 (l.length - 1) = cutL l ++ [it l 0] := by
    have hk := (List.getElem?_eq_some_iff.1 h1).1
    have h3 : (sw l 0 (l.length - 1)).take (l.length - 1 + 1) = (sw l 0 (l.length - 1)).take (l.length - 1) ++ [it l 0] := by
      rw [List.take_succ_eq_append_getElem hk]
      rw [List.getElem?_eq_getElem hk] at h1
      rw [Option.some.inj h1]
    rw [show l.length - 1 + 1 = (sw l 0 (l.length - 1)).length by rw [sw_length]; omega, List.take_length] at h3
    exact h3
  refine (List.perm_append_singleton _ _).symm.trans ?_
  rw [← h2]
  exact sw_perm hl (by omega)
end Go.Proofs.Ytkijfbnibfbldaa
