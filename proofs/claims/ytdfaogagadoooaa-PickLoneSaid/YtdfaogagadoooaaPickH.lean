/- Chapter 16 as mathematics: the neighbour of each vertex that is ahead of its others. -/
import Derived.Test.YtdfaogagadoooaaPickG
namespace Go.Proofs.Ytdfaogagadoooaa
open Go.RowKit
set_option linter.unusedSimpArgs false
set_option linter.unusedVariables false
set_option maxRecDepth 100000

theorem look_putP {ε : Type} (F : List (Nat × ε)) (v : Nat) (c : ε) (u : Nat) : lookM (putM F v c) u = if u = v then some c else lookM F u := by
  unfold lookM putM delM
  by_cases h : u = v
  · subst h
    simp
  · rw [if_neg h, List.find?_cons_of_neg (by simp [Ne.symm h]), List.find?_filter]
    congr 1
    apply congrArg (fun p => List.find? p F)
    funext p
    by_cases hp : p.1 = u
    · simp [hp, h]
    · simp [hp]
/-- a neighbour is met -/
def meetF (F : List (Nat × Cd)) (v : Nat) (c : Cd) : List (Nat × Cd) := match lookM F v with
  | none => putM F v c
  | some y => if aheadC c.n y.n then putM F v c else F
structure FoR (F P : List (Nat × Cd)) : Prop where
  no : ∀ v, lookM F v = none → ∀ p ∈ P, p.1 ≠ v
  yes : ∀ v y, lookM F v = some y → (v, y) ∈ P ∧ ∀ p ∈ P, p.1 = v → aheadC p.2.n y.n = false
theorem FoR.start : FoR [] [] := ⟨fun _ _ p hp => by simp at hp, fun v y h => by simp [lookM] at h⟩
theorem aheadC_irr (x : Cn) : aheadC x x = false := by simp [aheadC]
theorem aheadC_asym {x y : Cn} (h : aheadC x y = true) : aheadC y x = false := by
  rw [aheadC_iff] at h
  rw [← Bool.not_eq_true, aheadC_iff]
  omega
theorem FoR.put {F P : List (Nat × Cd)} (h : FoR F P) {v : Nat} {c : Cd} (hk : ∀ p ∈ P, p.1 = v → aheadC p.2.n c.n = false) : FoR (putM F v c) (P ++ [(v, c)]) := by
  constructor
  · intro u hu p hp
    rw [look_putP] at hu
    by_cases e : u = v
    · rw [if_pos e] at hu; cases hu
    · rw [if_neg e] at hu
      rcases List.mem_append.1 hp with hp | hp
      · exact h.no u hu p hp
      · rw [List.mem_singleton] at hp
        subst hp
        exact Ne.symm e
  · intro u y hu
    rw [look_putP] at hu
    by_cases e : u = v
    · rw [if_pos e] at hu
      obtain rfl := Option.some.inj hu
      subst e
      refine ⟨by simp, fun p hp he => ?_⟩
      rcases List.mem_append.1 hp with hp | hp
      · exact hk p hp he
      · rw [List.mem_singleton] at hp
        subst hp
        exact aheadC_irr _
    · rw [if_neg e] at hu
      obtain ⟨h1, h2⟩ := h.yes u y hu
      refine ⟨List.mem_append_left _ h1, fun p hp he => ?_⟩
      rcases List.mem_append.1 hp with hp | hp
      · exact h2 p hp he
      · rw [List.mem_singleton] at hp
        subst hp
        exact absurd he (Ne.symm e)
theorem FoR.meet {F P : List (Nat × Cd)} (h : FoR F P) (v : Nat) (c : Cd) : FoR (meetF F v c) (P ++ [(v, c)]) := by
  cases hl : lookM F v with
  | none =>
    rw [show meetF F v c = putM F v c by unfold meetF; rw [hl]]
    exact h.put fun p hp he => absurd he (h.no v hl p hp)
  | some y =>
    obtain ⟨h1, h2⟩ := h.yes v y hl
    rw [show meetF F v c = if aheadC c.n y.n then putM F v c else F by unfold meetF; rw [hl]]
    cases ha : aheadC c.n y.n with
    | true =>
      simp only [if_true]
      refine h.put fun p hp he => ?_
      cases hc : aheadC p.2.n c.n with
      | false => rfl
      | true => have := h2 p hp he; rw [aheadC_trans hc ha] at this; cases this
    | false =>
      simp only [Bool.false_eq_true, if_false]
      constructor
      · intro u hu p hp
        rcases List.mem_append.1 hp with hp | hp
        · exact h.no u hu p hp
        · rw [List.mem_singleton] at hp
          subst hp
          intro e
          subst e
          rw [hl] at hu
          cases hu
      · intro u z hu
        obtain ⟨k1, k2⟩ := h.yes u z hu
        refine ⟨List.mem_append_left _ k1, fun p hp he => ?_⟩
        rcases List.mem_append.1 hp with hp | hp
        · exact k2 p hp he
        · rw [List.mem_singleton] at hp
          subst hp
          have he' : v = u := he
          subst he'
          rw [hl] at hu
          obtain rfl := Option.some.inj hu
          exact ha
/-- what has been met so far: D are done, of c those of near -/
structure MetR (O D : List Cd) (P : List (Nat × Cd)) : Prop where
  sub : ∀ p ∈ P, p.2 ∈ O ∧ ∃ a ∈ O, a.v = p.1 ∧ a.v ≠ p.2.v ∧ nearC a.n p.2.n = true
  sup : ∀ c ∈ D, ∀ o ∈ O, o.v ∈ c.near → o.v ≠ c.v → (o.v, c) ∈ P ∧ (c.v, o) ∈ P
structure MetC (O : List Cd) (c : Cd) (k : Nat) (P : List (Nat × Cd)) : Prop where
  sup : ∀ o ∈ O, o.v ∈ c.near.take k → o.v ≠ c.v → (o.v, c) ∈ P ∧ (c.v, o) ∈ P
theorem near_take {l : List Nat} {k v u : Nat} (hv : l[k]? = some v) : u ∈ l.take (k + 1) ↔ (u ∈ l.take k ∨ u = v) := by
  rw [List.take_add_one, hv, List.mem_append]
  simp
theorem MetC.start (O : List Cd) (c : Cd) (P : List (Nat × Cd)) : MetC O c 0 P := ⟨fun o _ h => by simp at h⟩
theorem MetR.more {O D : List Cd} {P : List (Nat × Cd)} (h : MetR O D P) {c o : Cd} (hc : c ∈ O) (ho : o ∈ O) (hn : o.v ∈ c.near) (hv : o.v ≠ c.v) : MetR O D (P ++ [(o.v, c)] ++ [(c.v, o)]) := by
  constructor
  · intro p hp
    rcases List.mem_append.1 hp with hp | hp
    · rcases List.mem_append.1 hp with hp | hp
      · exact h.sub p hp
      · rw [List.mem_singleton] at hp
        subst hp
        exact ⟨hc, o, ho, rfl, hv, by simp [nearC, Cd.n, hn]⟩
    · rw [List.mem_singleton] at hp
      subst hp
      exact ⟨ho, c, hc, rfl, Ne.symm hv, by simp [nearC, Cd.n, hn]⟩
  · intro a ha b hb h1 h2
    obtain ⟨k1, k2⟩ := h.sup a ha b hb h1 h2
    exact ⟨List.mem_append_left _ (List.mem_append_left _ k1), List.mem_append_left _ (List.mem_append_left _ k2)⟩
/-- one of near is looked at, and met -/
theorem MetC.meet {O : List Cd} {c o : Cd} {k : Nat} {P : List (Nat × Cd)} (h : MetC O c k P) (hu : ∀ a ∈ O, ∀ b ∈ O, a.v = b.v → a = b) (ho : o ∈ O) (hk : c.near[k]? = some o.v) : MetC O c (k + 1) (P ++ [(o.v, c)] ++ [(c.v, o)]) := ⟨fun a ha h1 h2 => by
  rcases (near_take hk).1 h1 with h1 | h1
  · obtain ⟨k1, k2⟩ := h.sup a ha h1 h2
    exact ⟨List.mem_append_left _ (List.mem_append_left _ k1), List.mem_append_left _ (List.mem_append_left _ k2)⟩
  · obtain rfl := hu a ha o ho h1
    exact ⟨by simp, by simp⟩⟩
/-- .. or it is no candidate, or oneself -/
theorem MetC.pass {O : List Cd} {c : Cd} {k v : Nat} {P : List (Nat × Cd)} (h : MetC O c k P) (hk : c.near[k]? = some v) (hn : v ∉ O.map Cd.v ∨ v = c.v) : MetC O c (k + 1) P := ⟨fun a ha h1 h2 => by
  rcases (near_take hk).1 h1 with h1 | h1
  · exact h.sup a ha h1 h2
  · rcases hn with hn | hn
    · exact absurd (List.mem_map.2 ⟨a, ha, h1⟩) hn
    · exact absurd (h1.trans hn) h2⟩
theorem MetR.next {O D : List Cd} {c : Cd} {P : List (Nat × Cd)} (h : MetR O D P) (k : MetC O c c.near.length P) : MetR O (D ++ [c]) P := ⟨h.sub, fun a ha o ho h1 h2 => by
  rcases List.mem_append.1 ha with ha | ha
  · exact h.sup a ha o ho h1 h2
  · rw [List.mem_singleton] at ha
    subst ha
    exact k.sup o ho (by rw [List.take_length]; exact h1) h2⟩
/-- is this one picked? -/
def pkF (F : List (Nat × Cd)) (x : Cd) : Bool := match lookM F x.v with
  | none => true
  | some y => aheadC x.n y.n
theorem pk_first {O D : List Cd} {F P : List (Nat × Cd)} (hF : FoR F P) (hM : MetR O D P) (hD : ∀ x ∈ O, x ∈ D) (hu : ∀ a ∈ O, ∀ b ∈ O, a.v = b.v → a = b) {x : Cd} (hx : x ∈ O) : pkF F x = firstC (O.map Cd.n) x.n := by
  have hnb : ∀ y ∈ O, y.v ≠ x.v → nearC x.n y.n = true → (x.v, y) ∈ P := by
    intro y hy hv hn
    simp only [nearC, Bool.or_eq_true, decide_eq_true_eq] at hn
    rcases hn with hn | hn
    · exact (hM.sup x (hD x hx) y hy hn hv).2
    · exact (hM.sup y (hD y hy) x hx hn (Ne.symm hv)).1
  rw [Bool.eq_iff_iff, firstC_iff]
  unfold pkF
  cases hl : lookM F x.v with
  | none =>
    simp only [true_iff]
    intro y hy hv hn
    obtain ⟨y, hy', rfl⟩ := List.mem_map.1 hy
    exact absurd rfl (hF.no x.v hl _ (hnb y hy' hv hn))
  | some y =>
    obtain ⟨h1, h2⟩ := hF.yes x.v y hl
    obtain ⟨hyO, a, ha, hav, hne, hna⟩ := hM.sub _ h1
    obtain rfl := hu a ha x hx hav
    simp only
    constructor
    · intro hp z hz hv hn
      obtain ⟨z, hz', rfl⟩ := List.mem_map.1 hz
      by_cases e : z.v = y.v
      · obtain rfl := hu z hz' y hyO e
        exact hp
      · have h3 := h2 _ (hnb z hz' hv hn) rfl
        have h4 := aheadC_total (x := y.n) (y := z.n) (by exact Ne.symm e)
        simp only at h3
        rw [h3] at h4
        exact aheadC_trans hp h4
    · intro hp
      exact hp y.n (List.mem_map_of_mem hyO) (Ne.symm hne) hna
end Go.Proofs.Ytdfaogagadoooaa
