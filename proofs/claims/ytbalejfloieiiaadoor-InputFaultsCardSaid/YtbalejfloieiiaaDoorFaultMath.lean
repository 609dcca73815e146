/- Mathematics of no program: one number of an input's row is another one. -/
import Derived.Test.YtbalejfloieiiaaDoorInputMath3
namespace Go.Proofs.YtbalejfloieiiaaDoor
open Go.RowKit
set_option linter.unusedSimpArgs false
set_option linter.unusedVariables false
set_option maxRecDepth 100000

/-- bytes laid over others -/
def over (b : List UInt8) (p : Nat) (s : List UInt8) : List UInt8 := b.take p ++ s ++ b.drop (p + s.length)
theorem over_nil (b : List UInt8) (p : Nat) : over b p [] = b := by simp [over]
theorem over_length (b : List UInt8) (p : Nat) (s : List UInt8) (h : p + s.length ≤ b.length) : (over b p s).length = b.length := by
  simp only [over, List.length_append, List.length_take, List.length_drop]
  omega
theorem over_set (b : List UInt8) (p : Nat) (s : List UInt8) (v : UInt8) (h : p + s.length < b.length) : (over b p s).set (p + s.length) v = over b p (s ++ [v]) := by
  unfold over
  have hl : (b.take p ++ s).length = p + s.length := by rw [List.length_append, List.length_take]; omega
  have hd : b.drop (p + s.length) = b[p + s.length] :: b.drop (p + s.length + 1) := List.drop_eq_getElem_cons h
  rw [List.set_append_right _ _ (by omega), hl, Nat.sub_self, hd, List.set_cons_zero, List.length_append, List.length_singleton]
  simp [Nat.add_assoc]
theorem over_nb (b : List UInt8) (p X j : Nat) (h : p + j < b.length) : (over b p (nb j X)).set (p + j) (UInt8.ofNat (X / 256 ^ j % 256)) = over b p (nb (j + 1) X) := by
  have := over_set b p (nb j X) (UInt8.ofNat (X / 256 ^ j % 256)) (by rw [nb_length]; exact h)
  rw [nb_length] at this
  rw [this, nb_succ]
theorem over_mid (a b c : List UInt8) (q : Nat) (s : List UInt8) (h : q + s.length ≤ b.length) : over (a ++ (b ++ c)) (a.length + q) s = a ++ (over b q s ++ c) := by
  unfold over
  rw [List.take_length_add_append, List.take_append_of_le_length (by omega), Nat.add_assoc, ← List.drop_drop, List.drop_left' rfl, List.drop_append_of_le_length h]
  simp [List.append_assoc]
/-- the edge with another number -/
def fSet (q X : Nat) (e : Ed) : Ed := if q = 0 then ⟨X % 4294967296, e.h, e.x, e.m⟩ else if q = 1 then ⟨e.t, X % 4294967296, e.x, e.m⟩ else ⟨e.t, e.h, X, e.m⟩
def fSize (q : Nat) : Nat := if q = 2 then 8 else 4
theorem fSet_ok {q X : Nat} {e : Ed} (h : EdOk e) (hX : X < 18446744073709551616) : EdOk (fSet q X e) := by
  unfold fSet
  split
  · exact ⟨by simp only; omega, h.h, h.x, h.m⟩
  · split
    · exact ⟨h.t, by simp only; omega, h.x, h.m⟩
    · exact ⟨h.t, h.h, hX, h.m⟩
theorem over_row {q X : Nat} (e : Ed) (hq : q < 3) : over (rowB e) (4 * q) (nb (fSize q) X) = rowB (fSet q X e) := by
  have m4 : nb 4 (X % 4294967296) = nb 4 X := nb_mod 4 X
  rcases (show q = 0 ∨ q = 1 ∨ q = 2 by omega) with rfl | rfl | rfl
  · have : over ([] ++ (nb 4 e.t ++ (nb 4 e.h ++ nb 8 e.x))) (([] : List UInt8).length + 0) (nb 4 X) = [] ++ (over (nb 4 e.t) 0 (nb 4 X) ++ (nb 4 e.h ++ nb 8 e.x)) := over_mid [] (nb 4 e.t) _ 0 _ (by simp [nb_length])
    have e2 : over (nb 4 e.t) 0 (nb 4 X) = nb 4 X := by simp [over, nb_length]
    simp only [List.nil_append, List.length_nil, Nat.zero_add] at this
    simpa [rowB, fSet, fSize, m4, e2] using this
  · have : over (nb 4 e.t ++ (nb 4 e.h ++ nb 8 e.x)) ((nb 4 e.t).length + 0) (nb 4 X) = nb 4 e.t ++ (over (nb 4 e.h) 0 (nb 4 X) ++ nb 8 e.x) := over_mid _ (nb 4 e.h) _ 0 _ (by simp [nb_length])
    have e2 : over (nb 4 e.h) 0 (nb 4 X) = nb 4 X := by simp [over, nb_length]
    rw [nb_length, e2] at this
    simpa [rowB, fSet, fSize, m4] using this
  · have : over ((nb 4 e.t ++ nb 4 e.h) ++ (nb 8 e.x ++ [])) ((nb 4 e.t ++ nb 4 e.h).length + 0) (nb 8 X) = (nb 4 e.t ++ nb 4 e.h) ++ (over (nb 8 e.x) 0 (nb 8 X) ++ []) := over_mid _ (nb 8 e.x) _ 0 _ (by simp [nb_length])
    have e2 : over (nb 8 e.x) 0 (nb 8 X) = nb 8 X := by simp [over, nb_length]
    rw [List.length_append, nb_length, nb_length, e2] at this
    simpa [rowB, fSet, fSize, List.append_assoc] using this
theorem fSize_le {q : Nat} (hq : q < 3) : 4 * q + fSize q ≤ 16 := by
  unfold fSize
  split <;> omega
theorem over_rows {q X : Nat} (hq : q < 3) : ∀ (l : List Ed) (k : Nat), k < l.length → over (l.flatMap rowB) (16 * k + 4 * q) (nb (fSize q) X) = (l.set k (fSet q X (l.getD k zeroEd))).flatMap rowB := by
  intro l
  induction l with
  | nil => intro k h; simp at h
  | cons e l ih =>
    intro k h
    rcases k with _ | k
    · have := over_mid [] (rowB e) (l.flatMap rowB) (4 * q) (nb (fSize q) X) (by rw [nb_length, rowB_length]; exact fSize_le hq)
      rw [over_row e hq] at this
      simpa using this
    · have h2 : k < l.length := by simpa using h
      have e1 : over (rowB e ++ (l.flatMap rowB ++ [])) ((rowB e).length + (16 * k + 4 * q)) (nb (fSize q) X) = rowB e ++ (over (l.flatMap rowB) (16 * k + 4 * q) (nb (fSize q) X) ++ []) := over_mid _ _ _ _ _ (by rw [nb_length, rows_len]; have := fSize_le hq; omega)
      rw [rowB_length, ih k h2, List.append_nil, List.append_nil] at e1
      have e3 : 16 * (k + 1) + 4 * q = 16 + (16 * k + 4 * q) := by omega
      rw [e3]
      simpa using e1
theorem over_write {n q X k : Nat} {l : List Ed} (hq : q < 3) (hk : k < l.length) : over (writeB n l) (12 + 16 * k + 4 * q) (nb (fSize q) X) = writeB n (l.set k (fSet q X (l.getD k zeroEd))) := by
  unfold writeB
  have e1 : over (headB n l.length ++ (l.flatMap rowB ++ [])) ((headB n l.length).length + (16 * k + 4 * q)) (nb (fSize q) X) = headB n l.length ++ (over (l.flatMap rowB) (16 * k + 4 * q) (nb (fSize q) X) ++ []) := over_mid _ _ _ _ _ (by rw [nb_length, rows_len]; have := fSize_le hq; omega)
  rw [headB_length, over_rows hq l k hk, List.append_nil, List.append_nil] at e1
  rw [List.length_set, ← e1, Nat.add_assoc]
/-- the number that counts -/
def fVal (q X : Nat) : Nat := if q < 2 then X % 4294967296 else X
/-- may it not be? -/
def fBad (n q X : Nat) : Bool := if q < 2 then decide (n ≤ fVal q X) else decide (9223372036854775808 ≤ X) || decide (9223372036854775807 / n < X)
theorem fault_res {n : Nat} {l : List Ed} (hok : ∀ e ∈ l, EdOk e) (h : WOk n l) {k q X : Nat} (hk : k < l.length) (hq : q < 3) (hX : X < 18446744073709551616) :
    checkS (over (writeB n l) (12 + 16 * k + 4 * q) (nb (fSize q) X)) = if fBad n q X then ⟨0, [], if q < 2 then 13 else 11, 12 + 16 * k + 4 * q⟩ else ⟨n, (l.set k (fSet q X (l.getD k zeroEd))).map nomid, 0, 0⟩ := by
  rw [over_write hq hk]
  have hm : l.getD k zeroEd ∈ l := by
    rw [List.getD_eq_getElem?_getD, List.getElem?_eq_getElem hk]
    exact List.getElem_mem hk
  generalize l.getD k zeroEd = e at *
  obtain ⟨ht, hh, hx⟩ := h.2 e hm
  have hn0 : 0 < n := by omega
  rw [check_fault hok h hk (fSet_ok (hok e hm) hX)]
  have hx' : ¬ (fitB n e.x = false) := by rw [hx]; simp
  rcases (show q = 0 ∨ q = 1 ∨ q = 2 by omega) with rfl | rfl | rfl
  · simp only [fSet, fBad, fVal, edErr, if_true, show (0 : Nat) < 2 from by decide]
    by_cases c : n ≤ X % 4294967296
    · simp [c]
    · simp [c, show ¬ n ≤ e.h by omega, hx]
  · simp only [fSet, fBad, fVal, edErr, if_true, if_neg (show ¬ (1 : Nat) = 0 by decide), show (1 : Nat) < 2 from by decide]
    by_cases c : n ≤ X % 4294967296
    · simp [c, show ¬ n ≤ e.t by omega]
    · simp [c, show ¬ n ≤ e.t by omega, hx]
  · have hf : fitB n X = false ↔ (9223372036854775808 ≤ X ∨ 9223372036854775807 / n < X) := by
      unfold fitB far
      rw [decide_eq_false_iff_not, Nat.div_lt_iff_lt_mul hn0, Nat.mul_comm X n]
      constructor
      · intro h; right; omega
      · rintro (h | h)
        · have := Nat.mul_le_mul hn0 h
          omega
        · omega
    simp only [fSet, fBad, fVal, edErr, if_neg (show ¬ (2 : Nat) = 0 by decide), if_neg (show ¬ (2 : Nat) = 1 by decide), if_neg (show ¬ (2 : Nat) < 2 by decide)]
    by_cases c : fitB n X = false
    · have c' := hf.1 c
      simp [c, show ¬ n ≤ e.t by omega, show ¬ n ≤ e.h by omega]
      intro h1
      rcases c' with c' | c'
      · omega
      · exact c'
    · have c' : ¬ (9223372036854775808 ≤ X ∨ 9223372036854775807 / n < X) := fun h => c (hf.2 h)
      have c2 : fitB n X = true := by cases hh : fitB n X <;> simp_all
      simp [c2, show ¬ n ≤ e.t by omega, show ¬ n ≤ e.h by omega]
      omega
end Go.Proofs.YtbalejfloieiiaaDoor
