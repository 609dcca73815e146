/- Mathematics of no program: two sectors of a journal in one another's place; a sector of which bits were turned. -/
import Derived.Test.YtiohijkelagloaaDoorQJrMath
namespace Go.Proofs.YtiohijkelagloaaDoor
open Go.RowKit
set_option linter.unusedSimpArgs false
set_option linter.unusedVariables false
set_option maxRecDepth 100000

/-- the sector with that number -/
def secAt (b : List UInt8) (k : Nat) : List UInt8 := (b.drop (64 * k)).take 64
theorem secAt_get (b : List UInt8) (k j : Nat) : (secAt b k)[j]? = if j < 64 then b[64 * k + j]? else none := by
  unfold secAt
  rw [List.getElem?_take]
  split
  · rw [List.getElem?_drop]
  · rfl
theorem secAt_ext {b : List UInt8} {k : Nat} {p : List UInt8} (hl : p.length = 64) (h : ∀ j, j < 64 → b[64 * k + j]? = p[j]?) : secAt b k = p := by
  apply List.ext_getElem?
  intro j
  rw [secAt_get]
  split
  · rename_i hj; exact h j hj
  · rw [List.getElem?_eq_none (by omega)]
theorem secAt_file {l : List RecS} {k : Nat} {r : RecS} (hr : l[k]? = some r) : secAt (fileR 1 l) k = sectB (k + 1) r := by
  have hk : k < l.length := (List.getElem?_eq_some_iff.1 hr).1
  unfold secAt
  rw [fileR_drop _ _ _ (by omega)]
  have e : l.drop k = r :: l.drop (k + 1) := by
    rw [List.drop_eq_getElem_cons hk]
    congr 1
    exact (List.getElem?_eq_some_iff.1 hr).2
  rw [e, fileR, List.take_left' (sectB_length _ _), Nat.add_comm]
theorem secAt_length {l : List RecS} {k : Nat} (hk : k < l.length) : (secAt (fileR 1 l) k).length = 64 := by
  rw [secAt_file (List.getElem?_eq_getElem hk), sectB_length]
/-- what lies where a sector was laid -/
theorem secAt_lay {b : List UInt8} {k : Nat} {p : List UInt8} (hk : 64 * k ≤ b.length) (hl : p.length = 64) (i : Nat) : secAt (layB b (64 * k) p) i = if i = k then p else secAt b i := by
  by_cases h : i = k
  · subst h
    rw [if_pos rfl]
    refine secAt_ext hl fun j hj => ?_
    rw [layB_get _ _ _ hk, if_pos ⟨by omega, by omega⟩]
    congr 1
    omega
  · rw [if_neg h]
    apply List.ext_getElem?
    intro j
    rw [secAt_get, secAt_get]
    split
    · rename_i hj
      rw [layB_get _ _ _ hk, if_neg (by omega)]
    · rfl
/-- a file is its sectors -/
theorem secs_take {b c : List UInt8} (m : Nat) (h : ∀ i, i < m → secAt b i = secAt c i) : b.take (64 * m) = c.take (64 * m) := by
  induction m with
  | zero => simp
  | succ m ih =>
    rw [show 64 * (m + 1) = 64 * m + 64 by omega, List.take_add, List.take_add, ih (fun i hi => h i (by omega))]
    congr 1
    exact h m (by omega)
/-- the first sector that is none ends the row -/
theorem recs_secs {l : List RecS} (hl : Fine l) (hm : l.length ≤ 65536) {b : List UInt8} {m : Nat} (hmn : m ≤ l.length) (h : ∀ i, i < m → secAt b i = secAt (fileR 1 l) i) (hn : ¬ IsRec (secAt b m) (m + 1)) : recsOf b = l.take m := by
  have e := secs_take m h
  rw [fileR_take _ _ _ hmn] at e
  rw [← List.take_append_drop (64 * m) b, e]
  refine recsOf_more _ _ (hl.take _) (by rw [List.length_take]; omega) ?_
  rw [List.length_take, Nat.min_eq_left hmn, Nat.add_comm]
  exact hn
/-- two sectors in one another's place -/
theorem recs_moved {l : List RecS} (hl : Fine l) (hm : l.length ≤ 65536) {i k : Nat} (hi : i < l.length) (hk : k < l.length) :
    recsOf (layB (layB (fileR 1 l) (64 * i) (secAt (fileR 1 l) k)) (64 * k) (secAt (fileR 1 l) i)) = if i = k then l else l.take (min i k) := by
  have hfl := fileR_length 1 l
  have li := secAt_length hi
  have lk := secAt_length hk
  have hl1 : (layB (fileR 1 l) (64 * i) (secAt (fileR 1 l) k)).length = 64 * l.length := by
    rw [layB_length _ _ _ (by omega), lk]; omega
  have G : ∀ p, secAt (layB (layB (fileR 1 l) (64 * i) (secAt (fileR 1 l) k)) (64 * k) (secAt (fileR 1 l) i)) p = if p = k then secAt (fileR 1 l) i else if p = i then secAt (fileR 1 l) k else secAt (fileR 1 l) p := fun p => by
    rw [secAt_lay (by omega) li, secAt_lay (by omega) lk]
  by_cases h : i = k
  · subst h
    rw [if_pos rfl]
    have e : layB (layB (fileR 1 l) (64 * i) (secAt (fileR 1 l) i)) (64 * i) (secAt (fileR 1 l) i) = fileR 1 l := by
      have h1 := secs_take (b := layB (layB (fileR 1 l) (64 * i) (secAt (fileR 1 l) i)) (64 * i) (secAt (fileR 1 l) i)) (c := fileR 1 l) l.length (fun p hp => by
        rw [G]
        by_cases e : p = i
        · rw [if_pos e, e]
        · rw [if_neg e, if_neg e])
      have hl2 : (layB (layB (fileR 1 l) (64 * i) (secAt (fileR 1 l) i)) (64 * i) (secAt (fileR 1 l) i)).length = 64 * l.length := by rw [layB_length _ _ _ (by omega), li, hl1]; omega
      rw [List.take_of_length_le (by omega), List.take_of_length_le (by omega)] at h1
      exact h1
    rw [e, recsOf_file l hl hm]
  · rw [if_neg h]
    refine recs_secs hl hm (by omega) (fun p hp => by rw [G, if_neg (by omega), if_neg (by omega)]) ?_
    rw [G]
    by_cases h2 : i < k
    · rw [Nat.min_eq_left (by omega), if_neg (by omega), if_pos rfl, secAt_file (List.getElem?_eq_getElem hk)]
      exact isRec_moved (by omega) (by omega) _ (by omega)
    · rw [Nat.min_eq_right (by omega), if_pos rfl, secAt_file (List.getElem?_eq_getElem hi)]
      exact isRec_moved (by omega) (by omega) _ (by omega)
end Go.Proofs.YtiohijkelagloaaDoor
/- Mathematics of no program: a journal's file, one of whose sectors bits were turned in. -/
namespace Go.Proofs.YtiohijkelagloaaDoor
open Go.RowKit
set_option linter.unusedSimpArgs false
set_option linter.unusedVariables false
set_option maxRecDepth 100000

variable {q : Nat}
theorem flipJ_length (l : List UInt8) (i : Nat) (m : UInt8) : (flipB l i m).length = l.length := by simp [flipB]
theorem flipj {f : Fl} (hn : f.name = nmJ) {i : Nat} (hi : i < f.now.length) {m : UInt8} (hm : m ≠ 0) : flipS (DJ q f 0 false) nmJ (i : Int) m = (DJ q (flipF f i m) 0 false, 0) := by
  have h1 : ¬ (i : Int) < 0 := by omega
  have h2 : ¬ f.now.length ≤ i := by omega
  have e3 : setF [f] (flipF f i m) = [flipF f i m] := setj rfl
  simp [flipS, DJ, ok_j, getj hn, h1, h2, e3, hm]
theorem flip_sec {b : List UInt8} {k j : Nat} (hj : j < 64) (hl : 64 * k + 64 ≤ b.length) (m : UInt8) (i : Nat) : secAt (flipB b (64 * k + j) m) i = if i = k then flipB (secAt b k) j m else secAt b i := by
  have hg : ∀ x, (flipB b (64 * k + j) m)[x]? = if 64 * k + j = x then some (b.getD (64 * k + j) 0 ^^^ m) else b[x]? := fun x => by
    unfold flipB
    rw [List.getElem?_set]
    split
    · rename_i e
      subst e
      rw [if_pos (by omega)]
    · rfl
  have hp : (secAt b k).length = 64 := by unfold secAt; rw [List.length_take, List.length_drop]; omega
  have hd : (secAt b k).getD j 0 = b.getD (64 * k + j) 0 := by
    simp only [List.getD]
    rw [secAt_get, if_pos hj]
  by_cases h : i = k
  · subst h
    rw [if_pos rfl]
    refine secAt_ext (by rw [flipJ_length, hp]) fun x hx => ?_
    rw [hg]
    unfold flipB
    rw [List.getElem?_set, hp, hd]
    by_cases e : j = x
    · subst e
      rw [if_pos rfl, if_pos rfl, if_pos hj]
    · rw [if_neg (by omega), if_neg e, secAt_get, if_pos hx]
  · rw [if_neg h]
    apply List.ext_getElem?
    intro x
    rw [secAt_get, secAt_get]
    split
    · rw [hg, if_neg (by omega)]
    · rfl
/-- a file of these records, but that one sector holds other bytes -/
structure IsT (f : Fl) (l : List RecS) (k : Nat) (p : List UInt8) : Prop where
  name : f.name = nmJ
  len : f.now.length = 64 * l.length
  lt : k < l.length
  secs : ∀ i, i ≠ k → secAt f.now i = secAt (fileR 1 l) i
  at_ : secAt f.now k = p
theorem Clean.isT {f : Fl} {l : List RecS} (h : Clean f l) {k : Nat} {r : RecS} (hr : l[k]? = some r) : IsT f l k (sectB (k + 1) r) :=
  ⟨h.name, h.len, (List.getElem?_eq_some_iff.1 hr).1, fun i _ => by rw [h.now], by rw [h.now, secAt_file hr]⟩
section
variable {f : Fl} {l : List RecS} {k : Nat} {p : List UInt8}
theorem IsT.flip (h : IsT f l k p) {j : Nat} (hj : j < 64) {m : UInt8} (hm : m ≠ 0) : flipS (DJ q f 0 false) nmJ ((64 * k + j : Nat) : Int) m = (DJ q (flipF f (64 * k + j) m) 0 false, 0) ∧ IsT (flipF f (64 * k + j) m) l k (flipB p j m) := by
  have hl := h.len
  have hk := h.lt
  refine ⟨flipj h.name (by omega) hm, h.name, ?_, hk, fun i hi => ?_, ?_⟩
  · show (flipB f.now _ m).length = _
    rw [flipJ_length, hl]
  · show secAt (flipB f.now _ m) i = _
    rw [flip_sec hj (by omega), if_neg hi]
    exact h.secs i hi
  · show secAt (flipB f.now _ m) k = _
    rw [flip_sec hj (by omega), if_pos rfl, h.at_]
theorem IsT.recs (h : IsT f l k p) (hf : Fine l) (hm : l.length ≤ 65536) (hn : ¬ IsRec p (k + 1)) : recsOf f.now = l.take k :=
  recs_secs hf hm (Nat.le_of_lt h.lt) (fun i hi => h.secs i (by omega)) (by rw [h.at_]; exact hn)
/-- one bit of the burst -/
theorem IsT.turn {a m j : Nat} {pg : List UInt8} (h : IsT f l k (turnC pg a m j)) (hl : pg.length = 64) (hb : m.testBit j = true) {pl u r off : Nat} (hpl : a + j = pl) (hp : pl < 512) (hq : pl / 8 = u) (hr : pl % 8 = r) (ho : 64 * k + u = off) :
    ∃ f', flipS (DJ q f 0 false) nmJ (off : Int) (UInt8.ofNat (2 ^ r)) = (DJ q f' 0 false, 0) ∧ IsT f' l k (turnC pg a m (j + 1)) := by
  have hr8 : r < 8 := by rw [← hr]; exact Nat.mod_lt _ (by decide)
  have hp2 : (2 : Nat) ^ r < 256 := Nat.pow_lt_pow_right (by omega) hr8
  have hne : UInt8.ofNat (2 ^ r) ≠ 0 := by
    intro e
    have e2 := congrArg UInt8.toNat e
    rw [UInt8.toNat_ofNat', Nat.mod_eq_of_lt hp2] at e2
    have : 0 < 2 ^ r := Nat.pow_pos (by decide)
    simp at e2
  obtain ⟨h1, h2⟩ := h.flip (q := q) (j := u) (by omega) hne
  rw [ho] at h1 h2
  refine ⟨_, h1, ?_⟩
  have e : turnC pg a m (j + 1) = flipB (turnC pg a m j) u (UInt8.ofNat (2 ^ r)) := by
    rw [turnC, if_pos ⟨hb, by omega⟩, hpl, hq, hr]
    rfl
  rw [e]
  exact h2
end
end Go.Proofs.YtiohijkelagloaaDoor
