/- Chapter 16 as mathematics: candidates, who is next to whom, who is ahead, who is picked. -/
import Derived.Test.YtdfaogagadoooaaBase
namespace Go.Proofs.Ytdfaogagadoooaa
open Go.RowKit
set_option linter.unusedSimpArgs false
set_option linter.unusedVariables false

/-- a candidate: its vertex, its key, who is near -/
structure Cn where
  v : Nat
  key : Nat
  near : List Nat
/-- of each vertex the first one -/
def onceC (l : List Cn) : List Cn := l.foldl (fun a x => if x.v ∈ a.map Cn.v then a else a ++ [x]) []
theorem onceC_nil : onceC [] = [] := rfl
theorem onceC_snoc (l : List Cn) (x : Cn) : onceC (l ++ [x]) = if x.v ∈ (onceC l).map Cn.v then onceC l else onceC l ++ [x] := by
  simp [onceC, List.foldl_append]
theorem onceC_next {l : List Cn} {k : Nat} {x : Cn} (hx : l[k]? = some x) : onceC (l.take (k + 1)) = if x.v ∈ (onceC (l.take k)).map Cn.v then onceC (l.take k) else onceC (l.take k) ++ [x] := by
  rw [List.take_add_one, hx]
  exact onceC_snoc _ _
theorem snocInd {α : Type} {P : List α → Prop} (h0 : P []) (h1 : ∀ l x, P l → P (l ++ [x])) (l : List α) : P l := by
  have key : ∀ m : List α, P m.reverse := by
    intro m
    induction m with
    | nil => exact h0
    | cons x m ih => rw [List.reverse_cons]; exact h1 _ _ ih
  have := key l.reverse
  rwa [List.reverse_reverse] at this
theorem onceC_nodup (l : List Cn) : ((onceC l).map Cn.v).Nodup := by
  refine snocInd (P := fun l => ((onceC l).map Cn.v).Nodup) (by simp [onceC]) (fun l x ih => ?_) l
  rw [onceC_snoc]
  split
  · exact ih
  · rename_i h
    rw [List.map_append, List.nodup_append]
    refine ⟨ih, by simp, fun a ha b hb e => ?_⟩
    simp only [List.map_cons, List.map_nil, List.mem_singleton] at hb
    subst hb
    subst e
    exact h ha
theorem onceC_sub {l : List Cn} {x : Cn} : x ∈ onceC l → x ∈ l := by
  refine snocInd (P := fun l => x ∈ onceC l → x ∈ l) (by simp [onceC]) (fun l y ih => ?_) l
  rw [onceC_snoc]
  split
  · intro h; exact List.mem_append_left _ (ih h)
  · intro h
    rcases List.mem_append.1 h with h | h
    · exact List.mem_append_left _ (ih h)
    · exact List.mem_append_right _ h
theorem onceC_vs {l : List Cn} {v : Nat} : v ∈ (onceC l).map Cn.v ↔ v ∈ l.map Cn.v := by
  refine snocInd (P := fun l => v ∈ (onceC l).map Cn.v ↔ v ∈ l.map Cn.v) (by simp [onceC]) (fun l y ih => ?_) l
  rw [onceC_snoc, List.map_append, List.mem_append, ← ih]
  split
  · rename_i h
    constructor
    · exact .inl
    · rintro (h' | h')
      · exact h'
      · simp only [List.map_cons, List.map_nil, List.mem_singleton] at h'
        rw [h']; exact h
  · rw [List.map_append, List.mem_append]
theorem onceC_len (l : List Cn) : (onceC l).length ≤ l.length := by
  refine snocInd (P := fun l => (onceC l).length ≤ l.length) (by simp [onceC]) (fun l x ih => ?_) l
  rw [onceC_snoc, List.length_append]
  split
  · simp only [List.length_cons, List.length_nil]; omega
  · rw [List.length_append]; simp only [List.length_cons, List.length_nil]; omega
theorem onceC_unique {l : List Cn} {x y : Cn} (hx : x ∈ onceC l) (hy : y ∈ onceC l) (h : x.v = y.v) : x = y := by
  have hn := onceC_nodup l
  obtain ⟨i, hi⟩ := List.getElem?_of_mem hx
  obtain ⟨j, hj⟩ := List.getElem?_of_mem hy
  have li := (List.getElem?_eq_some_iff.1 hi).1
  have lj := (List.getElem?_eq_some_iff.1 hj).1
  have e : i = j := by
    refine (List.getElem_inj (h₀ := by simpa using li) (h₁ := by simpa using lj) hn).1 ?_
    simp only [List.getElem_map]
    rw [(List.getElem?_eq_some_iff.1 hi).2, (List.getElem?_eq_some_iff.1 hj).2, h]
  subst e
  rw [hi] at hj
  exact Option.some.inj hj
/-- a list in which each vertex stands once is as it is -/
theorem onceC_self {l : List Cn} (h : (l.map Cn.v).Nodup) : onceC l = l := by
  revert h
  refine snocInd (P := fun l => (l.map Cn.v).Nodup → onceC l = l) (fun _ => rfl) (fun l x ih h => ?_) l
  rw [List.map_append, List.nodup_append] at h
  rw [onceC_snoc, ih h.1, if_neg]
  intro hx
  exact h.2.2 _ hx _ (by simp) rfl

def nearC (x y : Cn) : Bool := decide (y.v ∈ x.near) || decide (x.v ∈ y.near)
theorem nearC_comm (x y : Cn) : nearC x y = nearC y x := by unfold nearC; rw [Bool.or_comm]
def aheadC (x y : Cn) : Bool := decide (x.key < y.key) || (decide (x.key = y.key) && decide (x.v < y.v))
theorem aheadC_iff {x y : Cn} : aheadC x y = true ↔ x.key < y.key ∨ (x.key = y.key ∧ x.v < y.v) := by simp [aheadC]
theorem aheadC_total {x y : Cn} (h : x.v ≠ y.v) : aheadC x y = !aheadC y x := by
  rw [Bool.eq_iff_iff]
  simp only [aheadC_iff, Bool.not_eq_true', ← Bool.not_eq_true]
  omega
theorem aheadC_trans {x y z : Cn} (h : aheadC x y = true) (k : aheadC y z = true) : aheadC x z = true := by
  rw [aheadC_iff] at *
  omega
/-- ahead of all its neighbours among these -/
def firstC (all : List Cn) (x : Cn) : Bool := all.all fun y => decide (y.v = x.v) || !nearC x y || aheadC x y
theorem firstC_iff {all : List Cn} {x : Cn} : firstC all x = true ↔ ∀ y ∈ all, y.v ≠ x.v → nearC x y = true → aheadC x y = true := by
  unfold firstC
  rw [List.all_eq_true]
  refine forall_congr' fun y => forall_congr' fun _ => ?_
  cases nearC x y <;> cases aheadC x y <;> simp
structure IsPick (l : List Cn) (out : List Nat) : Prop where
  rise : out.Pairwise (· < ·)
  mem : ∀ v, v ∈ out ↔ ∃ x ∈ onceC l, x.v = v ∧ firstC (onceC l) x = true
theorem rise_ext {a b : List Nat} (ha : a.Pairwise (· < ·)) (hb : b.Pairwise (· < ·)) (h : ∀ v, v ∈ a ↔ v ∈ b) : a = b := by
  have na : a.Nodup := ha.imp (fun h => Nat.ne_of_lt h)
  have nb : b.Nodup := hb.imp (fun h => Nat.ne_of_lt h)
  have hp : a.Perm b := (List.perm_ext_iff_of_nodup na nb).2 h
  exact hp.eq_of_pairwise (fun x y _ _ h1 h2 => by omega) ha hb
theorem IsPick.unique {l : List Cn} {a b : List Nat} (ha : IsPick l a) (hb : IsPick l b) : a = b := rise_ext ha.rise hb.rise fun v => (ha.mem v).trans (hb.mem v).symm

/-! ### in its place -/
def putU (v : Nat) : List Nat → List Nat
  | [] => [v]
  | x :: l => if x > v then v :: x :: l else x :: putU v l
theorem putU_mem (v : Nat) (l : List Nat) (u : Nat) : u ∈ putU v l ↔ u = v ∨ u ∈ l := by
  induction l with
  | nil => simp [putU]
  | cons x l ih =>
    simp only [putU]
    split
    · simp
    · rw [List.mem_cons, ih, List.mem_cons]
      constructor
      · rintro (h | h | h)
        · exact .inr (.inl h)
        · exact .inl h
        · exact .inr (.inr h)
      · rintro (h | h | h)
        · exact .inr (.inl h)
        · exact .inl h
        · exact .inr (.inr h)
theorem putU_len (v : Nat) (l : List Nat) : (putU v l).length = l.length + 1 := by
  induction l with
  | nil => rfl
  | cons x l ih =>
    simp only [putU]
    split
    · rfl
    · simp [ih]
theorem putU_rise {v : Nat} {l : List Nat} (h : l.Pairwise (· < ·)) (hv : v ∉ l) : (putU v l).Pairwise (· < ·) := by
  induction l with
  | nil => simp [putU]
  | cons x l ih =>
    rw [List.pairwise_cons] at h
    simp only [List.mem_cons, not_or] at hv
    simp only [putU]
    split
    · rename_i hx
      refine List.pairwise_cons.2 ⟨fun y hy => ?_, List.pairwise_cons.2 h⟩
      rcases List.mem_cons.1 hy with rfl | hy
      · exact hx
      · have := h.1 y hy
        omega
    · refine List.pairwise_cons.2 ⟨fun y hy => ?_, ih h.2 hv.2⟩
      rcases (putU_mem v l y).1 hy with rfl | hy
      · have := hv.1
        omega
      · exact h.1 y hy
/-- those of the first ones that are ahead of all of these -/
def pickS (all part : List Cn) : List Nat := part.foldl (fun a x => if firstC all x then putU x.v a else a) []
theorem pickS_nil (all : List Cn) : pickS all [] = [] := rfl
theorem pickS_snoc (all part : List Cn) (x : Cn) : pickS all (part ++ [x]) = if firstC all x then putU x.v (pickS all part) else pickS all part := by simp [pickS, List.foldl_append]
theorem pickS_next {all l : List Cn} {k : Nat} {x : Cn} (hx : l[k]? = some x) : pickS all (l.take (k + 1)) = if firstC all x then putU x.v (pickS all (l.take k)) else pickS all (l.take k) := by
  rw [List.take_add_one, hx]
  exact pickS_snoc _ _ _
theorem pickS_mem (all part : List Cn) (v : Nat) : v ∈ pickS all part ↔ ∃ x ∈ part, x.v = v ∧ firstC all x = true := by
  refine snocInd (P := fun part => v ∈ pickS all part ↔ ∃ x ∈ part, x.v = v ∧ firstC all x = true) (by simp [pickS]) (fun l y ih => ?_) part
  rw [pickS_snoc]
  cases h : firstC all y with
  | true =>
    rw [if_pos rfl, putU_mem, ih]
    constructor
    · rintro (h' | ⟨x, hx, h1, h2⟩)
      · exact ⟨y, by simp, h'.symm, h⟩
      · exact ⟨x, List.mem_append_left _ hx, h1, h2⟩
    · rintro ⟨x, hx, h1, h2⟩
      rcases List.mem_append.1 hx with hx | hx
      · exact .inr ⟨x, hx, h1, h2⟩
      · rw [List.mem_singleton] at hx
        subst hx
        exact .inl h1.symm
  | false =>
    rw [if_neg (by simp), ih]
    constructor
    · rintro ⟨x, hx, h1, h2⟩
      exact ⟨x, List.mem_append_left _ hx, h1, h2⟩
    · rintro ⟨x, hx, h1, h2⟩
      rcases List.mem_append.1 hx with hx | hx
      · exact ⟨x, hx, h1, h2⟩
      · rw [List.mem_singleton] at hx
        subst hx
        rw [h] at h2
        cases h2
theorem pickS_rise {all part : List Cn} (h : (part.map Cn.v).Nodup) : (pickS all part).Pairwise (· < ·) := by
  revert h
  refine snocInd (P := fun part => (part.map Cn.v).Nodup → (pickS all part).Pairwise (· < ·)) (fun _ => by simp [pickS]) (fun l y ih h => ?_) part
  rw [List.map_append, List.nodup_append] at h
  rw [pickS_snoc]
  split
  · refine putU_rise (ih h.1) fun hv => ?_
    obtain ⟨x, hx, h1, _⟩ := (pickS_mem _ _ _).1 hv
    exact h.2.2 _ (List.mem_map_of_mem hx) _ (by simp) h1
  · exact ih h.1
theorem pickS_len (all part : List Cn) : (pickS all part).length ≤ part.length := by
  refine snocInd (P := fun part => (pickS all part).length ≤ part.length) (by simp [pickS]) (fun l y ih => ?_) part
  rw [pickS_snoc, List.length_append]
  split
  · rw [putU_len]; simp only [List.length_cons, List.length_nil]; omega
  · simp only [List.length_cons, List.length_nil]; omega
theorem pickS_is (l : List Cn) : IsPick l (pickS (onceC l) (onceC l)) := ⟨pickS_rise (onceC_nodup l), fun v => pickS_mem _ _ v⟩
end Go.Proofs.Ytdfaogagadoooaa
