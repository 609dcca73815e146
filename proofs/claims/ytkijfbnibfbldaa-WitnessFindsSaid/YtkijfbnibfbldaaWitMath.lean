/- Mathematics of no program: a search that settles vertices one by one (chapter 14), as a relation; it has one answer. -/
import Derived.Test.YtkijfbnibfbldaaHeapMath
import Derived.Test.YtkijfbnibfbldaaMapV
import Derived.Test.YtkijfbnibfbldaaWeightMath
namespace Go.Proofs.Ytkijfbnibfbldaa
open Go.RowKit
set_option linter.unusedSimpArgs false
set_option linter.unusedVariables false
set_option maxRecDepth 100000

section
variable {κ ε : Type} [DecidableEq κ]
theorem lookM_putW (l : List (κ × ε)) (k : κ) (x : ε) (k' : κ) : lookM (putM l k x) k' = if k' = k then some x else lookM l k' := by
  unfold putM lookM
  rw [List.find?_cons]
  by_cases h : k' = k
  · subst h; simp
  · rw [if_neg h, decide_eq_false (fun e => h e.symm)]
    simp only
    congr 1
    unfold delM
    rw [List.find?_filter]
    congr 1
    funext p
    by_cases e : p.1 = k'
    · simp [e, h]
    · simp [e]
theorem lookM_delW (l : List (κ × ε)) (k k' : κ) : lookM (delM l k) k' = if k' = k then none else lookM l k' := by
  unfold lookM delM
  rw [List.find?_filter]
  by_cases h : k' = k
  · subst h
    rw [if_pos rfl]
    simp only [Option.map_eq_none_iff, List.find?_eq_none]
    intro p hp
    by_cases e : p.1 = k' <;> simp [e]
  · rw [if_neg h]
    congr 2
    funext p
    by_cases e : p.1 = k'
    · simp [e, h]
    · simp [e]
theorem lookM_memW {l : List (κ × ε)} {k : κ} {x : ε} (h : lookM l k = some x) : (k, x) ∈ l := by
  unfold lookM at h
  obtain ⟨p, hp, rfl⟩ := Option.map_eq_some_iff.1 h
  have h1 := List.mem_of_find?_eq_some hp
  have h2 := List.find?_some hp
  simp only [decide_eq_true_eq] at h2
  rw [← h2]
  exact h1
theorem lookM_of_memW {l : List (κ × ε)} (hn : (l.map Prod.fst).Nodup) {k : κ} {x : ε} (h : (k, x) ∈ l) : lookM l k = some x := by
  induction l with
  | nil => simp at h
  | cons y l ih =>
    rw [List.map_cons, List.nodup_cons] at hn
    unfold lookM
    rw [List.find?_cons]
    rcases List.mem_cons.1 h with rfl | h'
    · simp
    · have : y.1 ≠ k := fun e => hn.1 (by rw [e]; exact List.mem_map_of_mem (f := Prod.fst) h')
      rw [decide_eq_false this]
      exact ih hn.2 h'
theorem putM_perm {l m : List (κ × ε)} (hp : l.Perm m) (k : κ) (x : ε) : (putM l k x).Perm (putM m k x) := (delM_perm hp k).cons _
theorem lookM_noneW {l : List (κ × ε)} {k : κ} (h : lookM l k = none) : k ∉ l.map Prod.fst := by
  intro hm
  obtain ⟨p, hp, rfl⟩ := List.mem_map.1 hm
  unfold lookM at h
  rw [Option.map_eq_none_iff, List.find?_eq_none] at h
  have := h p hp
  simp at this
end

/-- those that wait: vertices and distances -/
abbrev Wt := List (Nat × Nat)
def Onces (W : Wt) : Prop := (W.map Prod.fst).Nodup
/-- (v, d) comes first of these -/
structure LeastW (v d : Nat) (W : Wt) : Prop where
  mem : (v, d) ∈ W
  le : ∀ u c, (u, c) ∈ W → lessB ⟨c, u⟩ ⟨d, v⟩ = false
theorem LeastW.eq {v d u c : Nat} {W : Wt} (h : LeastW v d W) (k : LeastW u c W) : v = u ∧ d = c := by
  have := lessB_tot (k.le _ _ h.mem) (h.le _ _ k.mem)
  injection this with a b
  exact ⟨b, a⟩
theorem LeastW.perm {v d : Nat} {W V : Wt} (h : LeastW v d W) (p : W.Perm V) : LeastW v d V := ⟨p.mem_iff.1 h.mem, fun u c k => h.le u c (p.mem_iff.2 k)⟩
theorem leastW_of {W : Wt} (h : W ≠ []) : ∃ v d, LeastW v d W := by
  obtain ⟨x, hx⟩ := least_of (l := W.map fun p => (⟨p.2, p.1⟩ : It)) (by simpa using h)
  obtain ⟨p, hp, rfl⟩ := List.mem_map.1 hx.mem
  exact ⟨p.1, p.2, hp, fun u c hu => hx.le _ (List.mem_map.2 ⟨(u, c), hu, rfl⟩)⟩
/-- v is come to at d -/
def lateB (W : Wt) (v d : Nat) : Bool := match lookM W v with
  | some c => decide (c ≤ d)
  | none => false
def comeW (W : Wt) (v d : Nat) : Wt := if lateB W v d then W else putM W v d
theorem comeW_perm {W V : Wt} (p : W.Perm V) (hn : Onces W) (v d : Nat) : (comeW W v d).Perm (comeW V v d) := by
  have e : lateB V v d = lateB W v d := by unfold lateB; rw [lookM_perm p hn]
  unfold comeW
  rw [e]
  by_cases h : lateB W v d = true
  · rw [if_pos h, if_pos h]; exact p
  · rw [if_neg h, if_neg h]; exact putM_perm p v d
theorem comeW_onces {W : Wt} (hn : Onces W) (v d : Nat) : Onces (comeW W v d) := by
  unfold comeW
  split
  · exact hn
  · exact putM_nodup hn v d
/-- may an edge be followed? -/
def goB (av : Nat → Bool) (S : List Nat) (d : Nat) (e : Ed) : Bool := !av e.h && !decide (e.h ∈ S) && addB d e.x
def folW (av : Nat → Bool) (S : List Nat) (d : Nat) : List Ed → Wt → Wt
  | [], W => W
  | e :: l, W => folW av S d l (if goB av S d e then comeW W e.h (d + e.x) else W)
theorem folW_perm (av : Nat → Bool) (S : List Nat) (d : Nat) (l : List Ed) : ∀ {W V : Wt}, W.Perm V → Onces W → (folW av S d l W).Perm (folW av S d l V) := by
  induction l with
  | nil => exact fun p _ => p
  | cons e l ih =>
    intro W V p hn
    unfold folW
    split
    · exact ih (comeW_perm p hn _ _) (comeW_onces hn _ _)
    · exact ih p hn
theorem folW_onces (av : Nat → Bool) (S : List Nat) (d : Nat) (l : List Ed) : ∀ {W : Wt}, Onces W → Onces (folW av S d l W) := by
  induction l with
  | nil => exact fun h => h
  | cons e l ih =>
    intro W hn
    unfold folW
    split
    · exact ih (comeW_onces hn _ _)
    · exact ih hn
theorem folW_append (av : Nat → Bool) (S : List Nat) (d : Nat) (l m : List Ed) : ∀ (W : Wt), folW av S d (l ++ m) W = folW av S d m (folW av S d l W) := by
  induction l with
  | nil => intro W; rfl
  | cons e l ih => intro W; exact ih _
theorem delM_onces {W : Wt} (hn : Onces W) (v : Nat) : Onces (delM W v) := delM_nodup hn v
/-- what out answers: an error, edges -/
abbrev Outs := Nat → Nat × List Ed
/-- of whom out was asked; is there a way?; the error -/
abbrev Answ := List Nat × Bool × Nat
/-- the chapter's search, from these that are settled and those that wait on -/
inductive Ans (o : Outs) (av : Nat → Bool) (to most : Nat) : List Nat → Wt → Answ → Prop
  | none (S : List Nat) : Ans o av to most S [] (S, false, 0)
  | far {S : List Nat} {W : Wt} {v d : Nat} : LeastW v d W → (most < d ∨ S.length = 16) → Ans o av to most S W (S, false, 0)
  | yes {S : List Nat} {W : Wt} {v d : Nat} : LeastW v d W → d ≤ most → S.length ≠ 16 → v = to → Ans o av to most S W (S, true, 0)
  | err {S : List Nat} {W : Wt} {v d : Nat} : LeastW v d W → d ≤ most → S.length ≠ 16 → v ≠ to → (o v).1 ≠ 0 → Ans o av to most S W (S ++ [v], false, (o v).1)
  | go {S : List Nat} {W : Wt} {v d : Nat} {r : Answ} : LeastW v d W → d ≤ most → S.length ≠ 16 → v ≠ to → (o v).1 = 0 → Ans o av to most (S ++ [v]) (folW av (S ++ [v]) d (o v).2 (delM W v)) r → Ans o av to most S W r
section
variable {o : Outs} {av : Nat → Bool} {to most : Nat}
theorem Ans.one {S : List Nat} {W : Wt} {r : Answ} (h : Ans o av to most S W r) : ∀ {V : Wt} {q : Answ}, W.Perm V → Onces W → Ans o av to most S V q → r = q := by
  induction h with
  | none S =>
    intro V q p hn k
    obtain rfl := p.symm.eq_nil
    cases k with
    | none => rfl
    | far l => exact absurd l.mem (by simp)
    | yes l => exact absurd l.mem (by simp)
    | err l => exact absurd l.mem (by simp)
    | go l => exact absurd l.mem (by simp)
  | far l c =>
    intro V q p hn k
    have l' := l.perm p
    cases k with
    | none => rfl
    | far l2 => rfl
    | yes l2 a b => obtain ⟨rfl, rfl⟩ := l'.eq l2; omega
    | err l2 a b => obtain ⟨rfl, rfl⟩ := l'.eq l2; omega
    | go l2 a b => obtain ⟨rfl, rfl⟩ := l'.eq l2; omega
  | yes l a b c =>
    intro V q p hn k
    have l' := l.perm p
    cases k with
    | none => exact absurd l'.mem (by simp)
    | far l2 => obtain ⟨rfl, rfl⟩ := l'.eq l2; omega
    | yes l2 => rfl
    | err l2 _ _ e => obtain ⟨rfl, rfl⟩ := l'.eq l2; exact absurd c e
    | go l2 _ _ e => obtain ⟨rfl, rfl⟩ := l'.eq l2; exact absurd c e
  | err l a b c e =>
    intro V q p hn k
    have l' := l.perm p
    cases k with
    | none => exact absurd l'.mem (by simp)
    | far l2 => obtain ⟨rfl, rfl⟩ := l'.eq l2; omega
    | yes l2 _ _ e2 => obtain ⟨rfl, rfl⟩ := l'.eq l2; exact absurd e2 c
    | err l2 => obtain ⟨rfl, rfl⟩ := l'.eq l2; rfl
    | go l2 _ _ _ e2 => obtain ⟨rfl, rfl⟩ := l'.eq l2; exact absurd e2 e
  | go l a b c e _ ih =>
    intro V q p hn k
    have l' := l.perm p
    cases k with
    | none => exact absurd l'.mem (by simp)
    | far l2 => obtain ⟨rfl, rfl⟩ := l'.eq l2; omega
    | yes l2 _ _ e2 => obtain ⟨rfl, rfl⟩ := l'.eq l2; exact absurd e2 c
    | err l2 _ _ _ e2 => obtain ⟨rfl, rfl⟩ := l'.eq l2; exact absurd e e2
    | go l2 _ _ _ _ k2 =>
      obtain ⟨rfl, rfl⟩ := l'.eq l2
      exact ih (folW_perm _ _ _ _ (delM_perm p _) (delM_onces hn _)) (folW_onces _ _ _ _ (delM_onces hn _)) k2
theorem Ans.congr {S : List Nat} {W V : Wt} {r : Answ} (h : Ans o av to most S W r) (p : W.Perm V) (hn : Onces W) : Ans o av to most S V r := by
  induction h generalizing V with
  | none S => obtain rfl := p.symm.eq_nil; exact .none S
  | far l c => exact .far (l.perm p) c
  | yes l a b c => exact .yes (l.perm p) a b c
  | err l a b c e => exact .err (l.perm p) a b c e
  | go l a b c e _ ih => exact .go (l.perm p) a b c e (ih (folW_perm _ _ _ _ (delM_perm p _) (delM_onces hn _)) (folW_onces _ _ _ _ (delM_onces hn _)))
/-- who is allowed more -/
theorem Ans.more {S : List Nat} {W : Wt} {r : Answ} (h : Ans o av to most S W r) {m : Nat} (hm : most ≤ m) (hr : r.2.1 = true) : Ans o av to m S W r := by
  induction h with
  | none S => cases hr
  | far l c => cases hr
  | yes l a b c => exact .yes l (by omega) b c
  | err l a b c e => cases hr
  | go l a b c e _ ih => exact .go l (by omega) b c e (ih hr)
/-- as far as twenty vertices at most -/
theorem Ans.short {S : List Nat} {W : Wt} {r : Answ} (h : Ans o av to most S W r) (hS : S.length ≤ 16) : r.1.length ≤ 17 := by
  induction h with
  | none S => exact Nat.le_trans hS (by decide)
  | far l c => exact Nat.le_trans hS (by decide)
  | yes l a b c => exact Nat.le_trans hS (by decide)
  | err l a b c e => simp; omega
  | go l a b c e _ ih => exact ih (by simp; omega)
end
end Go.Proofs.Ytkijfbnibfbldaa
