/- Mathematics of no program: which edges count, kept by their pairs in no order. -/
import Derived.Test.YtbalejfloieiiaaDoorMapE
namespace Go.Proofs.YtbalejfloieiiaaDoor
open Go.RowKit
set_option linter.unusedSimpArgs false
set_option linter.unusedVariables false
set_option maxRecDepth 100000

/-- of each pair of l that is no loop the best one is in m, and nothing else -/
structure Bst (l m : List Ed) : Prop where
  mem : ∀ e ∈ m, e ∈ l
  loop : ∀ e ∈ m, e.t ≠ e.h
  best : ∀ e ∈ m, ∀ f ∈ l, Pair f e → betE f e = false
  all : ∀ f ∈ l, f.t ≠ f.h → ∃ e ∈ m, Pair f e
theorem Bst.nil : Bst [] [] := ⟨fun e h => by simp at h, fun e h => by simp at h, fun e h => by simp at h, fun f h => by simp at h⟩
theorem Bst.red {l m a : List Ed} (h : Bst l m) (hp : a.Perm m) (hr : Rise a) : Red l a :=
  ⟨hr, fun e he => h.mem e (hp.mem_iff.1 he), fun e he => h.loop e (hp.mem_iff.1 he), fun e he => h.best e (hp.mem_iff.1 he), fun f hf hl => by
    obtain ⟨e, he, hpe⟩ := h.all f hf hl
    exact ⟨e, hp.mem_iff.2 he, hpe⟩⟩
theorem betE_irr (a : Ed) : betE a a = false := by simp [betE, betB]
theorem betE_far {f x y : Ed} (h : betE f y = false) (k : betE x y = true) : betE f x = false := by
  cases hb : betE f x with
  | false => rfl
  | true =>
    exfalso
    simp only [betE, betB, Bool.or_eq_true, Bool.and_eq_true, decide_eq_true_eq, Bool.or_eq_false_iff, Bool.and_eq_false_iff, decide_eq_false_iff_not] at *
    omega
theorem Bst.skip {l m : List Ed} {x : Ed} (h : Bst l m) (hx : x.t = x.h) : Bst (l ++ [x]) m :=
  ⟨fun e he => List.mem_append_left _ (h.mem e he), h.loop, fun e he f hf hp => by
    rcases List.mem_append.1 hf with hf | hf
    · exact h.best e he f hf hp
    · simp at hf; subst hf
      exact absurd (hp.1.symm.trans (hx.trans hp.2)) (h.loop e he), fun f hf hl => by
    rcases List.mem_append.1 hf with hf | hf
    · exact h.all f hf hl
    · simp at hf; subst hf; exact absurd hx hl⟩
theorem pair_trans {a b c : Ed} (h : Pair a b) (k : Pair b c) : Pair a c := ⟨h.1.trans k.1, h.2.trans k.2⟩
theorem pair_symm {a b : Ed} (h : Pair a b) : Pair b a := ⟨h.1.symm, h.2.symm⟩
theorem once_eq {m : List Ed} (h : m.Pairwise fun x y => prB x y = false) {y z : Ed} (hy : y ∈ m) (hz : z ∈ m) (hp : Pair y z) : y = z := by
  induction m with
  | nil => simp at hy
  | cons a m ih =>
    obtain ⟨h1, h2⟩ := List.pairwise_cons.1 h
    rcases List.mem_cons.1 hy with rfl | hy'
    · rcases List.mem_cons.1 hz with rfl | hz'
      · rfl
      · have := h1 z hz'
        rw [(prB_true _ _).2 hp] at this
        cases this
    · rcases List.mem_cons.1 hz with rfl | hz'
      · have := h1 y hy'
        rw [(prB_true _ _).2 (pair_symm hp)] at this
        cases this
      · exact ih h2 hy' hz'
theorem Bst.keep {l m : List Ed} {x y : Ed} (h : Bst l m) (ho : m.Pairwise fun x y => prB x y = false) (hy : y ∈ m) (hp : Pair x y) (hb : betE x y = false) : Bst (l ++ [x]) m :=
  ⟨fun e he => List.mem_append_left _ (h.mem e he), h.loop, fun e he f hf hpe => by
    rcases List.mem_append.1 hf with hf | hf
    · exact h.best e he f hf hpe
    · simp at hf; subst hf
      obtain rfl := once_eq ho he hy (pair_trans (pair_symm hpe) hp)
      exact hb, fun f hf hl => by
    rcases List.mem_append.1 hf with hf | hf
    · exact h.all f hf hl
    · simp at hf; subst hf; exact ⟨y, hy, hp⟩⟩
theorem mem_put {m : List Ed} {x e : Ed} (h : e ∈ putL m x) : e = x ∨ e ∈ m := by
  unfold putL at h
  split at h
  · rcases List.mem_or_eq_of_mem_set h with h | h
    · exact .inr h
    · exact .inl h
  · rcases List.mem_append.1 h with h | h
    · exact .inr h
    · simp at h; exact .inl h
theorem put_self (m : List Ed) (x : Ed) : x ∈ putL m x := by
  unfold putL
  split
  · rename_i j hj
    obtain ⟨hl, _⟩ := List.findIdx?_eq_some_iff_getElem.1 hj
    exact List.mem_set hl _
  · simp
theorem put_other {m : List Ed} {x e : Ed} (he : e ∈ m) (hp : ¬ Pair x e) : e ∈ putL m x := by
  unfold putL
  split
  · rename_i j hj
    obtain ⟨hl, hb, _⟩ := List.findIdx?_eq_some_iff_getElem.1 hj
    obtain ⟨i, hi⟩ := List.getElem?_of_mem he
    have hne : j ≠ i := fun e' => by
      subst e'
      rw [List.getElem?_eq_getElem hl] at hi
      rw [Option.some.inj hi] at hb
      exact hp ((prB_true _ _).1 hb)
    exact List.mem_of_getElem? (i := i) (by rw [List.getElem?_set, if_neg hne]; exact hi)
  · exact List.mem_append_left _ he
/-- a better one, or the first one, of its pair -/
theorem Bst.put {l m : List Ed} {x : Ed} (h : Bst l m) (hx : x.t ≠ x.h) (hon : (putL m x).Pairwise fun x y => prB x y = false) (hb : ∀ y ∈ m, Pair x y → betE x y = true) : Bst (l ++ [x]) (putL m x) := by
  have key : ∀ e ∈ putL m x, Pair x e → e = x := fun e he hp => once_eq hon he (put_self m x) (pair_symm hp)
  refine ⟨fun e he => ?_, fun e he => ?_, fun e he f hf hp => ?_, fun f hf hl => ?_⟩
  · rcases mem_put he with rfl | he
    · simp
    · exact List.mem_append_left _ (h.mem e he)
  · rcases mem_put he with rfl | he
    · exact hx
    · exact h.loop e he
  · rcases List.mem_append.1 hf with hf' | hf
    · by_cases hxe : Pair x e
      · have e1 := key e he hxe
        rw [e1] at hp ⊢
        obtain ⟨y, hy, hfy⟩ := h.all f hf' (by rw [hp.1, hp.2]; exact hx)
        exact betE_far (h.best y hy f hf' hfy) (hb y hy (pair_trans (pair_symm hp) hfy))
      · rcases mem_put he with e1 | he'
        · exact absurd (by rw [e1]; exact ⟨rfl, rfl⟩) hxe
        · exact h.best e he' f hf' hp
    · simp at hf
      subst hf
      rw [key e he hp]
      exact betE_irr _
  · rcases List.mem_append.1 hf with hf | hf
    · obtain ⟨e, he, hp⟩ := h.all f hf hl
      by_cases hxe : Pair x e
      · exact ⟨x, put_self m x, pair_trans hp (pair_symm hxe)⟩
      · exact ⟨e, put_other he hxe, hp⟩
    · simp at hf
      subst hf
      exact ⟨f, put_self m f, ⟨rfl, rfl⟩⟩
end Go.Proofs.YtbalejfloieiiaaDoor
