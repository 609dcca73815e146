/- What is asked of a page's bytes, part by part. -/
import Derived.Test.YtllmmmggepgblaaDoorPageMath
namespace Go.Proofs.YtllmmmggepgblaaDoor
open Go.RowKit
set_option linter.unusedSimpArgs false
set_option linter.unusedVariables false
set_option maxRecDepth 100000

theorem seg_nb (p : List UInt8) (a s : Nat) (h : a + s ≤ p.length) : (p.drop a).take s = nb s (numAt p a s) := by
  have hl : ((p.drop a).take s).length = s := by rw [List.length_take, List.length_drop]; omega
  have e := nb_le ((p.drop a).take s)
  rw [hl] at e
  exact e.symm
theorem numAt_split (p : List UInt8) (a : Nat) (h : a + 4 ≤ p.length) : numAt p a 4 = numAt p a 2 + 65536 * numAt p (a + 2) 2 := by
  unfold numAt
  have e : (p.drop a).take 4 = (p.drop a).take 2 ++ (p.drop (a + 2)).take 2 := by
    rw [← List.drop_drop, show (4 : Nat) = 2 + 2 from rfl, List.take_add]
  rw [e, le_append]
  have hl : ((p.drop a).take 2).length = 2 := by rw [List.length_take, List.length_drop]; omega
  rw [hl]
theorem numAt_2 (p : List UInt8) (a : Nat) : numAt p a 2 < 65536 := by
  have h := le_lt ((p.drop a).take 2)
  refine Nat.lt_of_lt_of_le h ?_
  have : ((p.drop a).take 2).length ≤ 2 := by rw [List.length_take]; omega
  exact Nat.pow_le_pow_right (n := 256) (by decide) this
/-- what Open asks -/
structure Fit (p : List UInt8) (t n : Nat) : Prop where
  size : numAt p 8 2 ≤ 240
  tag : numAt p 0 4 = t
  number : numAt p 4 4 = n
  zero : numAt p 10 2 = 0
  rest : (p.take 252).drop (12 + numAt p 8 2) = noughts (240 - numAt p 8 2)
  sum : numAt p 252 4 = extC 0 (p.take 252)
theorem fit_size {p : List UInt8} (hl : p.length = 256) (h : numAt p 8 4 ≤ 240 ∨ (numAt p 8 2 ≤ 240 ∧ numAt p 10 2 = 0)) : numAt p 8 4 = numAt p 8 2 ∧ numAt p 10 2 = 0 := by
  have h1 := numAt_split p 8 (by omega)
  have h2 := numAt_2 p 8
  simp only [Nat.reduceAdd] at h1
  rcases h with h | ⟨h, h'⟩ <;> omega
theorem fit_of {p : List UInt8} {t n : Nat} (ht : t < 4294967296) (hn : n < 4294967296) (h : IsPage p t n) : Fit p t n := by
  obtain ⟨hl, hs, he⟩ := h
  have hq : (saidB p).length ≤ 240 := by rw [saidB_length hl hs]; exact hs
  obtain ⟨h84, h10⟩ := fit_size hl (.inl hs)
  have hsl := saidB_length hl hs
  have htk : p.take 252 = bodyB t n (saidB p) := by
    rw [he]
    generalize saidB p = b at *
    unfold pageB
    have e : saidB (bodyB t n b ++ nb 4 (extC 0 (bodyB t n b))) = b := saidB_pageB t n b hq
    rw [List.take_left' (bodyB_length t n hq), e]
  refine ⟨by omega, ?_, ?_, h10, ?_, ?_⟩
  · rw [he, tag_pageB, mod4 ht]
  · rw [he, number_pageB, mod4 hn]
  · rw [htk, ← h84, ← hsl]
    unfold bodyB
    rw [← List.drop_drop, List.drop_left' (headB_length _ _ _), List.drop_left]
  · rw [htk]
    have e2 : numAt p 252 4 = numAt (pageB t n (saidB p)) 252 4 := congrArg (fun q => numAt q 252 4) he
    rw [e2]
    generalize saidB p = b at *
    unfold pageB
    rw [numAt_behind _ _ _ _ (bodyB_length t n hq).symm, List.take_of_length_le (by rw [nb_length]; omega), le_nb, mod4 (extC_lt (by decide) _)]
theorem page_of {p : List UInt8} {t n : Nat} (hl : p.length = 256) (h : Fit p t n) : IsPage p t n := by
  obtain ⟨h84, h10⟩ := fit_size hl (.inr ⟨h.size, h.zero⟩)
  have hs : numAt p 8 4 ≤ 240 := by have := h.size; omega
  have hsl := saidB_length hl hs
  refine ⟨hl, hs, ?_⟩
  have e1 : p.take 252 = bodyB t n (saidB p) := by
    have a1 : p.take 252 = p.take 12 ++ (p.take 252).drop 12 := by
      have := List.take_append_drop 12 (p.take 252)
      rw [List.take_take] at this
      exact this.symm
    have a2 : p.take 12 = headB t n (saidB p).length := by
      unfold headB
      rw [hsl, ← h.tag, ← h.number, ← seg_nb p 0 4 (by omega), ← seg_nb p 4 4 (by omega), ← seg_nb p 8 4 (by omega), List.drop_zero]
      rw [show (12 : Nat) = (4 + 4) + 4 from rfl, List.take_add, List.take_add]
    have a3 : (p.take 252).drop 12 = saidB p ++ noughts (240 - (saidB p).length) := by
      have h3 := List.take_append_drop (saidB p).length ((p.take 252).drop 12)
      rw [List.drop_drop] at h3
      have h4 := h.rest
      rw [← h84, ← hsl] at h4
      rw [h4] at h3
      rw [← h3]
      congr 1
      unfold saidB at hsl ⊢
      rw [hsl, List.drop_take, List.take_take, Nat.min_eq_left (by omega)]
    rw [a1, a2, a3]
    rfl
  have e2 : p.drop 252 = nb 4 (extC 0 (p.take 252)) := by
    rw [← h.sum, ← seg_nb p 252 4 (by omega), List.take_of_length_le (by rw [List.length_drop]; omega)]
  have e3 := List.take_append_drop 252 p
  unfold pageB
  rw [← e1]
  rw [e2] at e3
  exact e3.symm
end Go.Proofs.YtllmmmggepgblaaDoor
