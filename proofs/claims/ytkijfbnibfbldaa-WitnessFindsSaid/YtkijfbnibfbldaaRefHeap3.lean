/- The contract of milepostref04's Pop, where there is something. -/
import Derived.Test.YtkijfbnibfbldaaRefHeap2
namespace Go.Proofs.Ytkijfbnibfbldaa
open Go.RowKit
set_option linter.unusedSimpArgs false
set_option linter.unusedVariables false
set_option maxRecDepth 100000

/-- an item in a row -/
def ItG (W : World) (g j : Nat) (e : It) : Prop := W.cell? ⟨g, j * 2, none⟩ = some (.int .u64 (e.k : Int)) ∧ W.cell? ⟨g, j * 2 + 1, none⟩ = some (.int .u32 (e.i : Int))
theorem flat_get (l : List It) {j : Nat} {e : It} (h : l[j]? = some e) : (l.flatMap itC)[j * 2]? = some (.int .u64 (e.k : Int)) ∧ (l.flatMap itC)[j * 2 + 1]? = some (.int .u32 (e.i : Int)) := by
  have g : ∀ i, i < 2 → (l.flatMap itC)[j * 2 + i]? = (itC e)[i]? := fun i hi => by
    rw [flatMap_get itC 2 itC_length l hi, h]
    rfl
  exact ⟨g 0 (by decide), g 1 (by decide)⟩
theorem flat_len (l : List It) : (l.flatMap itC).length = l.length * 2 := flatMap_length itC 2 itC_length l
theorem own_item {W : World} {B g n cap : Nat} {T : TypeId} {l : List It} (h : Own W B T 2 (.slice (some ⟨g, 0, none⟩) n cap) n (l.flatMap itC)) {j : Nat} {e : It} (he : l[j]? = some e) : ItG W g j e ∧ W.frozen? ⟨g, j * 2, none⟩ = false ∧ W.frozen? ⟨g, j * 2 + 1, none⟩ = false := by
  have hj := (List.getElem?_eq_some_iff.1 he).1
  obtain ⟨f0, f1⟩ := flat_get l he
  obtain ⟨g', e', c0, z0, _⟩ := h.cell (j := j * 2) (by rw [flat_len]; omega)
  obtain ⟨g'', e'', c1, z1, _⟩ := h.cell (j := j * 2 + 1) (by rw [flat_len]; omega)
  injection e' with e'; injection e' with e'; subst e'
  injection e'' with e''; injection e'' with e''; subst e''
  exact ⟨⟨c0.trans f0, c1.trans f1⟩, z0, z1⟩
theorem ItG.keep {W V : World} {g j : Nat} {e : It} (h : ItG W g j e) (k : Keeps W V) : ItG V g j e := ⟨k.cellOf h.1, k.cellOf h.2⟩
/-- one item of a list is another one -/
theorem flat_set (l : List It) (a : Nat) (z : It) : ((l.flatMap itC).set (a * 2) (.int .u64 (z.k : Int))).set (a * 2 + 1) (.int .u32 (z.i : Int)) = (l.set a z).flatMap itC := by
  induction l generalizing a with
  | nil => simp
  | cons x l ih =>
    rcases a with _ | a
    · simp [itC]
    · have e : (a + 1) * 2 = a * 2 + 1 + 1 := by omega
      rw [e]
      simp only [List.flatMap_cons, itC, List.set_cons_succ, List.cons_append, List.nil_append]
      rw [← ih a]
theorem flat_take (l : List It) (m : Nat) : (l.flatMap itC).take (m * 2) = (l.take m).flatMap itC := by
  induction l generalizing m with
  | nil => simp
  | cons x l ih =>
    rcases m with _ | m
    · simp
    · have e : (m + 1) * 2 = m * 2 + 1 + 1 := by omega
      rw [e]
      simp only [List.flatMap_cons, itC, List.cons_append, List.nil_append, List.take_succ_cons]
      rw [ih m]
theorem Own.cut_ {W : World} {B g n cap m : Nat} {T : TypeId} {xs : List Value} (h : Own W B T 2 (.slice (some ⟨g, 0, none⟩) n cap) n xs) (hm : m ≤ n) : Own W B T 2 (.slice (some ⟨g, 0, none⟩) m cap) m (xs.take (m * 2)) := by
  refine ⟨by rw [List.length_take, h.1]; omega, ?_⟩
  rcases h.2 with ⟨hv, _⟩ | ⟨g', cap', cur, fz, hv, hb, hg, hz, h1, h2, h3, h4⟩
  · cases hv
  · injection hv with hA hn hc
    injection hA with hA
    injection hA with hA
    subst hA; subst hc
    refine .inr ⟨g, cap, cur, fz, rfl, hb, hg, hz, by omega, h2, h3, ?_⟩
    rw [← h4, List.take_take, Nat.min_eq_left (by omega)]
theorem set_permT {d : List It} {k : Nat} {x : It} (h : d[k]? = some x) (z : It) : (x :: d.set k z).Perm (z :: d) := by
  induction d generalizing k with
  | nil => simp at h
  | cons a d ih =>
    rcases k with _ | k
    · simp only [List.getElem?_cons_zero, Option.some.injEq] at h
      subst h
      exact List.Perm.swap _ _ _
    · have h' : d[k]? = some x := by simpa using h
      rw [List.set_cons_succ]
      exact (List.Perm.swap a x _).trans (((ih h').cons a).trans (List.Perm.swap z a _))
/-- what is left when x, which stands at a, goes, and the last one comes in its place -/
def popL (l : List It) (a : Nat) (z : It) : List It := (l.set a z).take (l.length - 1)
theorem popL_perm {l : List It} {a : Nat} {x z : It} (hx : l[a]? = some x) (hz : l[l.length - 1]? = some z) : (x :: popL l a z).Perm l := by
  have ha := (List.getElem?_eq_some_iff.1 hx).1
  unfold popL
  have hl : l = l.take (l.length - 1) ++ [z] := by
    have h1 : l.take (l.length - 1 + 1) = l.take (l.length - 1) ++ [z] := by
      have hk := (List.getElem?_eq_some_iff.1 hz).1
      rw [List.take_succ_eq_append_getElem hk]
      rw [List.getElem?_eq_getElem hk] at hz
      rw [Option.some.inj hz]
    rw [show l.length - 1 + 1 = l.length by omega, List.take_length] at h1
    exact h1
  rw [List.take_set]
  by_cases h : a = l.length - 1
  · subst h
    rw [hx] at hz
    obtain rfl := Option.some.inj hz
    rw [List.set_eq_of_length_le (by rw [List.length_take]; omega)]
    refine (List.perm_append_singleton x _).symm.trans ?_
    rw [← hl]
  · have hd : (l.take (l.length - 1))[a]? = some x := by rw [List.getElem?_take, if_pos (by omega)]; exact hx
    refine (set_permT hd z).trans ?_
    refine (List.perm_append_singleton z _).symm.trans ?_
    rw [← hl]
theorem popL_length {l : List It} {a : Nat} {z : It} : (popL l a z).length = l.length - 1 := by
  unfold popL
  rw [List.length_take, List.length_set]
  omega

end Go.Proofs.Ytkijfbnibfbldaa
