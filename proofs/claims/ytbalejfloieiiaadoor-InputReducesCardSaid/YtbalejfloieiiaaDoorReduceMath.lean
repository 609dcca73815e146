/- Mathematics of no program: which edges count. -/
import Derived.Test.YtbalejfloieiiaaDoorWeightMath
namespace Go.Proofs.YtbalejfloieiiaaDoor
set_option linter.unusedSimpArgs false
set_option linter.unusedVariables false
set_option maxRecDepth 100000

/-- is an edge ahead of another one by its ends? -/
def ahd (a b : Ed) : Bool := decide (a.t < b.t) || (decide (a.t = b.t) && decide (a.h < b.h))
theorem ahd_true (a b : Ed) : ahd a b = true ↔ a.t < b.t ∨ (a.t = b.t ∧ a.h < b.h) := by simp [ahd]
theorem ahd_false (a b : Ed) : ahd a b = false ↔ b.t < a.t ∨ (b.t = a.t ∧ b.h ≤ a.h) := by
  rw [Bool.eq_false_iff, ne_eq, ahd_true]
  omega
theorem ahd_irr (a : Ed) : ahd a a = false := by simp [ahd]
theorem ahd_trans {a b c : Ed} (h : ahd a b = true) (k : ahd b c = true) : ahd a c = true := by
  rw [ahd_true] at *
  omega
/-- the same pair of ends -/
def Pair (a b : Ed) : Prop := a.t = b.t ∧ a.h = b.h
theorem pair_of {a b : Ed} (h : ahd a b = false) (k : ahd b a = false) : Pair a b := by
  rw [ahd_false] at h k
  unfold Pair
  omega
theorem Ed.ext' {a b : Ed} (h1 : a.t = b.t) (h2 : a.h = b.h) (h3 : a.x = b.x) (h4 : a.m = b.m) : a = b := by
  cases a; cases b; simp_all
/-- a list rises by its ends -/
def Rise (l : List Ed) : Prop := l.Pairwise fun a b => ahd a b = true
/-- an edge is better -/
def betE (a b : Ed) : Bool := betB a.x a.m b.x b.m
/-- these are the edges that count of those -/
structure Red (l a : List Ed) : Prop where
  rise : Rise a
  mem : ∀ e ∈ a, e ∈ l
  loop : ∀ e ∈ a, e.t ≠ e.h
  best : ∀ e ∈ a, ∀ f ∈ l, Pair f e → betE f e = false
  all : ∀ f ∈ l, f.t ≠ f.h → ∃ e ∈ a, Pair f e
theorem rise_eq {a b : List Ed} (ha : Rise a) (hb : Rise b) (h : ∀ e, e ∈ a ↔ e ∈ b) : a = b := by
  induction a generalizing b with
  | nil =>
    cases b with
    | nil => rfl
    | cons y b => exact absurd ((h y).2 (by simp)) (by simp)
  | cons x a ih =>
    cases b with
    | nil => exact absurd ((h x).1 (by simp)) (by simp)
    | cons y b =>
      unfold Rise at ha hb
      rw [List.pairwise_cons] at ha hb
      have hxy : x = y := by
        have h1 := (h x).1 (by simp)
        have h2 := (h y).2 (by simp)
        rcases List.mem_cons.1 h1 with e | e
        · exact e
        · rcases List.mem_cons.1 h2 with e' | e'
          · exact e'.symm
          · have c1 := hb.1 x e
            have c2 := ha.1 y e'
            have := ahd_trans c1 c2
            rw [ahd_irr] at this
            cases this
      subst hxy
      congr 1
      refine ih ha.2 hb.2 fun e => ⟨fun he => ?_, fun he => ?_⟩
      · rcases List.mem_cons.1 ((h e).1 (List.mem_cons_of_mem _ he)) with e' | e'
        · subst e'
          have := ha.1 _ he
          rw [ahd_irr] at this
          cases this
        · exact e'
      · rcases List.mem_cons.1 ((h e).2 (List.mem_cons_of_mem _ he)) with e' | e'
        · subst e'
          have := hb.1 _ he
          rw [ahd_irr] at this
          cases this
        · exact e'
theorem Red.sub {l a b : List Ed} (hok : ∀ e ∈ l, EdOk e) (ha : Red l a) (hb : Red l b) : ∀ e, e ∈ a → e ∈ b := by
  intro e he
  obtain ⟨f, hf, hp⟩ := hb.all e (ha.mem e he) (ha.loop e he)
  have h1 := ha.best e he f (hb.mem f hf) ⟨hp.1.symm, hp.2.symm⟩
  have h2 := hb.best f hf e (ha.mem e he) hp
  obtain ⟨hx, hm⟩ := betB_tot (hok f (hb.mem f hf)).m (hok e (ha.mem e he)).m h1 h2
  have : e = f := Ed.ext' hp.1 hp.2 hx.symm hm.symm
  rw [this]
  exact hf
/-- what counts is one list -/
theorem Red.eq {l a b : List Ed} (hok : ∀ e ∈ l, EdOk e) (ha : Red l a) (hb : Red l b) : a = b :=
  rise_eq ha.rise hb.rise fun e => ⟨ha.sub hok hb e, hb.sub hok ha e⟩
/-- the order has no say, nor how often an edge is there -/
theorem Red.congr {l m a : List Ed} (h : ∀ e, e ∈ l ↔ e ∈ m) (ha : Red l a) : Red m a :=
  ⟨ha.rise, fun e he => (h e).1 (ha.mem e he), ha.loop, fun e he f hf => ha.best e he f ((h f).2 hf), fun f hf => ha.all f ((h f).2 hf)⟩
/-- what counts of what counts is the same -/
theorem Red.again {l a : List Ed} (ha : Red l a) : Red a a :=
  ⟨ha.rise, fun e he => he, ha.loop, fun e he f hf => ha.best e he f (ha.mem f hf), fun f hf _ => ⟨f, hf, rfl, rfl⟩⟩
/-- what counts of two lists is what counts of what counts of both -/
theorem Red.join {l m a b c : List Ed} (ha : Red l a) (hb : Red m b) (hc : Red (a ++ b) c) : Red (l ++ m) c := by
  refine ⟨hc.rise, fun e he => ?_, hc.loop, fun e he f hf hp => ?_, fun f hf hl => ?_⟩
  · rcases List.mem_append.1 (hc.mem e he) with h | h
    · exact List.mem_append_left _ (ha.mem e h)
    · exact List.mem_append_right _ (hb.mem e h)
  · have key : ∀ {l' a' : List Ed}, Red l' a' → (∀ y ∈ a', y ∈ a ++ b) → f ∈ l' → betE f e = false := by
      intro l' a' h' hsub hf'
      have hfl : f.t ≠ f.h := by rw [hp.1, hp.2]; exact hc.loop e he
      obtain ⟨g, hg, hpg⟩ := h'.all f hf' hfl
      have h1 := h'.best g hg f hf' hpg
      have h2 := hc.best e he g (hsub g hg) ⟨hpg.1.symm.trans hp.1, hpg.2.symm.trans hp.2⟩
      cases h3 : betE f e with
      | false => rfl
      | true =>
        exfalso
        unfold betE at *
        cases h4 : betB e.x e.m g.x g.m with
        | true => rw [betB_trans h3 h4] at h1; cases h1
        | false =>
          rw [Bool.eq_false_iff, ne_eq, betB_true] at h1 h2 h4
          rw [betB_true] at h3
          omega
    rcases List.mem_append.1 hf with h | h
    · exact key ha (fun y hy => List.mem_append_left _ hy) h
    · exact key hb (fun y hy => List.mem_append_right _ hy) h
  · rcases List.mem_append.1 hf with h | h
    · obtain ⟨g, hg, hp⟩ := ha.all f h hl
      obtain ⟨e, he, hq⟩ := hc.all g (List.mem_append_left _ hg) (ha.loop g hg)
      exact ⟨e, he, hp.1.trans hq.1, hp.2.trans hq.2⟩
    · obtain ⟨g, hg, hp⟩ := hb.all f h hl
      obtain ⟨e, he, hq⟩ := hc.all g (List.mem_append_right _ hg) (hb.loop g hg)
      exact ⟨e, he, hp.1.trans hq.1, hp.2.trans hq.2⟩
theorem red_nil : Red [] [] := ⟨List.Pairwise.nil, fun e he => by simp at he, fun e he => by simp at he, fun e he => by simp at he, fun f hf => by simp at hf⟩
/-- one edge more, a loop -/
theorem Red.loop1 {l a : List Ed} {x : Ed} (h : Red l a) (hx : x.t = x.h) : Red (l ++ [x]) a := by
  refine ⟨h.rise, fun e he => List.mem_append_left _ (h.mem e he), h.loop, fun e he f hf hp => ?_, fun f hf hl => ?_⟩
  · rcases List.mem_append.1 hf with hf | hf
    · exact h.best e he f hf hp
    · simp only [List.mem_singleton] at hf
      subst hf
      have := h.loop e he
      exact absurd (by rw [← hp.1, ← hp.2]; exact hx) this
  · rcases List.mem_append.1 hf with hf | hf
    · exact h.all f hf hl
    · simp only [List.mem_singleton] at hf
      subst hf
      exact absurd hx hl
/-- one edge more, whose pair is there, at its place -/
theorem Red.better1 {l p q : List Ed} {x y : Ed} (h : Red l (p ++ y :: q)) (hp : Pair x y) : Red (l ++ [x]) (p ++ (bif betE x y then x else y) :: q) := by
  have hr := h.rise
  unfold Rise at hr
  have hxl : x.t ≠ x.h := by rw [hp.1, hp.2]; exact h.loop y (by simp)
  have hz : Pair (bif betE x y then x else y) y := by cases betE x y <;> simp [hp, Pair] <;> exact hp
  generalize hzz : (bif betE x y then x else y) = z at *
  have az : ∀ e, ahd z e = ahd y e := fun e => by simp [ahd, hz.1, hz.2]
  have az' : ∀ e, ahd e z = ahd e y := fun e => by simp [ahd, hz.1, hz.2]
  have other : ∀ e, e ∈ p ++ q → ¬ Pair e y := fun e he hpe => by
    rw [List.pairwise_append] at hr
    rcases List.mem_append.1 he with he | he
    · have := hr.2.2 e he y (by simp)
      simp [ahd, hpe.1, hpe.2] at this
    · have := (List.pairwise_cons.1 hr.2.1).1 e he
      simp [ahd, hpe.1, hpe.2] at this
  have zm : z = x ∨ z = y := by rw [← hzz]; cases betE x y <;> simp
  refine ⟨?_, fun e he => ?_, fun e he => ?_, fun e he f hf hpf => ?_, fun f hf hl => ?_⟩
  · unfold Rise
    rw [List.pairwise_append, List.pairwise_cons] at hr ⊢
    refine ⟨hr.1, ⟨fun e he => by rw [az]; exact hr.2.1.1 e he, hr.2.1.2⟩, fun a ha b hb => ?_⟩
    rcases List.mem_cons.1 hb with rfl | hb
    · rw [az']; exact hr.2.2 a ha y (by simp)
    · exact hr.2.2 a ha b (by simp [hb])
  · rcases List.mem_append.1 he with he | he
    · exact List.mem_append_left _ (h.mem e (by simp [he]))
    · rcases List.mem_cons.1 he with rfl | he
      · rcases zm with e | e
        · rw [e]; simp
        · rw [e]; exact List.mem_append_left _ (h.mem y (by simp))
      · exact List.mem_append_left _ (h.mem e (by simp [he]))
  · rcases List.mem_append.1 he with he | he
    · exact h.loop e (by simp [he])
    · rcases List.mem_cons.1 he with rfl | he
      · rw [hz.1, hz.2]; exact h.loop y (by simp)
      · exact h.loop e (by simp [he])
  · have h0 : e ∈ p ++ q ∨ e = z := by
      rcases List.mem_append.1 he with he | he
      · exact .inl (List.mem_append_left _ he)
      · rcases List.mem_cons.1 he with he | he
        · exact .inr he
        · exact .inl (List.mem_append_right _ he)
    rcases h0 with he' | he'
    · have hne := other e he'
      rcases List.mem_append.1 hf with hf | hf
      · exact h.best e (by rcases List.mem_append.1 he' with h | h <;> simp [h]) f hf hpf
      · simp only [List.mem_singleton] at hf
        subst hf
        exact absurd ⟨hpf.1.symm.trans hp.1, hpf.2.symm.trans hp.2⟩ hne
    · subst he'
      have hfy : ∀ f ∈ l, Pair f e → betE f y = false := fun f hf hpf => h.best y (by simp) f hf ⟨hpf.1.trans hz.1, hpf.2.trans hz.2⟩
      cases hb : betE x y with
      | true =>
        rw [hb] at hzz
        simp only [cond_true] at hzz
        subst hzz
        rcases List.mem_append.1 hf with hf | hf
        · have := hfy f hf hpf
          cases h3 : betE f x with
          | false => rfl
          | true => unfold betE at *; rw [betB_trans h3 hb] at this; cases this
        · simp only [List.mem_singleton] at hf
          subst hf
          exact betB_irr _ _
      | false =>
        rw [hb] at hzz
        simp only [cond_false] at hzz
        subst hzz
        rcases List.mem_append.1 hf with hf | hf
        · exact hfy f hf hpf
        · simp only [List.mem_singleton] at hf
          subst hf
          exact hb
  · rcases List.mem_append.1 hf with hf | hf
    · obtain ⟨e, he, hq⟩ := h.all f hf hl
      rcases List.mem_append.1 he with he | he
      · exact ⟨e, by simp [he], hq⟩
      · rcases List.mem_cons.1 he with rfl | he
        · exact ⟨z, by simp, hq.1.trans hz.1.symm, hq.2.trans hz.2.symm⟩
        · exact ⟨e, by simp [he], hq⟩
    · simp only [List.mem_singleton] at hf
      subst hf
      exact ⟨z, by simp, hp.1.trans hz.1.symm, hp.2.trans hz.2.symm⟩
/-- one edge more, of a new pair, at its place -/
theorem Red.new1 {l p q : List Ed} {x : Ed} (h : Red l (p ++ q)) (hx : x.t ≠ x.h) (hp : ∀ e ∈ p, ahd e x = true) (hq : ∀ e ∈ q, ahd x e = true) : Red (l ++ [x]) (p ++ x :: q) := by
  have hr := h.rise
  unfold Rise at hr
  have other : ∀ e, e ∈ p ++ q → ¬ Pair e x := fun e he hpe => by
    rcases List.mem_append.1 he with he | he
    · have := hp e he
      simp [ahd, hpe.1, hpe.2] at this
    · have := hq e he
      simp [ahd, hpe.1, hpe.2] at this
  have nox : ∀ f ∈ l, ¬ Pair f x := fun f hf hpf => by
    obtain ⟨e, he, hpe⟩ := h.all f hf (by rw [hpf.1, hpf.2]; exact hx)
    exact other e he ⟨hpe.1.symm.trans hpf.1, hpe.2.symm.trans hpf.2⟩
  have mm : ∀ e, e ∈ p ++ x :: q → e = x ∨ e ∈ p ++ q := fun e he => by
    rcases List.mem_append.1 he with he | he
    · exact .inr (List.mem_append_left _ he)
    · rcases List.mem_cons.1 he with he | he
      · exact .inl he
      · exact .inr (List.mem_append_right _ he)
  refine ⟨?_, fun e he => ?_, fun e he => ?_, fun e he f hf hpf => ?_, fun f hf hl => ?_⟩
  · unfold Rise
    rw [List.pairwise_append] at hr
    rw [List.pairwise_append, List.pairwise_cons]
    refine ⟨hr.1, ⟨hq, hr.2.1⟩, fun a ha b hb => ?_⟩
    rcases List.mem_cons.1 hb with rfl | hb
    · exact hp a ha
    · exact hr.2.2 a ha b hb
  · rcases mm e he with rfl | he
    · simp
    · exact List.mem_append_left _ (h.mem e he)
  · rcases mm e he with rfl | he
    · exact hx
    · exact h.loop e he
  · rcases mm e he with rfl | he
    · rcases List.mem_append.1 hf with hf | hf
      · exact absurd hpf (nox f hf)
      · simp only [List.mem_singleton] at hf
        subst hf
        exact betB_irr _ _
    · have hoe := other e he
      rcases List.mem_append.1 hf with hf | hf
      · exact h.best e he f hf hpf
      · simp only [List.mem_singleton] at hf
        subst hf
        exact absurd ⟨hpf.1.symm, hpf.2.symm⟩ hoe
  · rcases List.mem_append.1 hf with hf | hf
    · obtain ⟨e, he, hpe⟩ := h.all f hf hl
      refine ⟨e, ?_, hpe⟩
      rcases List.mem_append.1 he with he | he <;> simp [he]
    · simp only [List.mem_singleton] at hf
      subst hf
      exact ⟨f, by simp, rfl, rfl⟩
end Go.Proofs.YtbalejfloieiiaaDoor
