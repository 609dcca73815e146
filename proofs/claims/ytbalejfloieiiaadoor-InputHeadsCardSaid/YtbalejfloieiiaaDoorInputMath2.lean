/- Mathematics of no program: an input's rows, and whole inputs. -/
import Derived.Test.YtbalejfloieiiaaDoorInputMath
namespace Go.Proofs.YtbalejfloieiiaaDoor
open Go.RowKit
set_option linter.unusedSimpArgs false
set_option linter.unusedVariables false
set_option maxRecDepth 100000

def zeroEd : Ed := ⟨0, 0, 0, 0⟩
/-- an edge that was there from the first -/
def nomid (e : Ed) : Ed := ⟨e.t, e.h, e.x, 4294967295⟩
/-- what a row says: an edge, an error, its place -/
structure RRes where
  ed : Ed
  e : Nat
  a : Nat
def rowS (b : List UInt8) (n : Nat) : RRes :=
  if b.length < 16 then ⟨zeroEd, 8, b.length⟩
  else if 16 < b.length then ⟨zeroEd, 1, 0⟩
  else if n ≤ numI b 0 4 then ⟨zeroEd, 13, 0⟩
  else if n ≤ numI b 4 4 then ⟨zeroEd, 13, 4⟩
  else if fitB n (numI b 8 8) = false then ⟨zeroEd, 11, 8⟩
  else ⟨⟨numI b 0 4, numI b 4 4, numI b 8 8, 4294967295⟩, 0, 0⟩
def rowB (e : Ed) : List UInt8 := nb 4 e.t ++ (nb 4 e.h ++ nb 8 e.x)
theorem rowB_length (e : Ed) : (rowB e).length = 16 := by simp [rowB, nb_length]
theorem rowB_nomid (e : Ed) : rowB (nomid e) = rowB e := rfl
/-- the numbers of a row -/
theorem rowB_nums (e : Ed) (ht : e.t < 4294967296) (hh : e.h < 4294967296) (hx : e.x < 18446744073709551616) : numI (rowB e) 0 4 = e.t ∧ numI (rowB e) 4 4 = e.h ∧ numI (rowB e) 8 8 = e.x := by
  refine ⟨?_, ?_, ?_⟩
  · have : ((rowB e).drop 0).take 4 = nb 4 e.t := List.take_left' (nb_length 4 e.t)
    unfold numI
    rw [this, le_nb]
    exact Nat.mod_eq_of_lt (by omega)
  · have h1 : (rowB e).drop 4 = nb 4 e.h ++ nb 8 e.x := List.drop_left' (nb_length 4 e.t)
    have : ((rowB e).drop 4).take 4 = nb 4 e.h := by rw [h1]; exact List.take_left' (nb_length 4 e.h)
    unfold numI
    rw [this, le_nb]
    exact Nat.mod_eq_of_lt (by omega)
  · have h0 : rowB e = (nb 4 e.t ++ nb 4 e.h) ++ nb 8 e.x := by simp [rowB]
    have h1 : (rowB e).drop 8 = nb 8 e.x := by rw [h0]; exact List.drop_left' (by simp [nb_length])
    have : ((rowB e).drop 8).take 8 = nb 8 e.x := by rw [h1]; exact List.take_of_length_le (by rw [nb_length]; omega)
    unfold numI
    rw [this, le_nb]
    exact Nat.mod_eq_of_lt (by omega)
/-- the error of a row that is whole: its number and place, or 0 -/
def edErr (n : Nat) (e : Ed) : Nat × Nat :=
  if n ≤ e.t then (13, 0) else if n ≤ e.h then (13, 4) else if fitB n e.x = false then (11, 8) else (0, 0)
def rowOk (n : Nat) (e : Ed) : Prop := e.t < n ∧ e.h < n ∧ fitB n e.x = true
theorem edErr_ok {n : Nat} {e : Ed} : rowOk n e ↔ (edErr n e).1 = 0 := by
  unfold rowOk edErr
  by_cases h1 : n ≤ e.t
  · rw [if_pos h1]; simp; omega
  · rw [if_neg h1]
    by_cases h2 : n ≤ e.h
    · rw [if_pos h2]; simp; omega
    · rw [if_neg h2]
      cases h3 : fitB n e.x
      · simp
      · simp; omega
theorem edErr_at {n : Nat} {e : Ed} : (edErr n e).1 = 0 → (edErr n e).2 = 0 := by
  unfold edErr
  split
  · simp
  · split
    · simp
    · split <;> simp
theorem edErr_lt (n : Nat) (e : Ed) : (edErr n e).2 ≤ 8 := by
  unfold edErr
  split
  · simp
  · split
    · simp
    · split <;> simp
theorem rowS_rowB (n : Nat) (e : Ed) (ht : e.t < 4294967296) (hh : e.h < 4294967296) (hx : e.x < 18446744073709551616) :
    rowS (rowB e) n = if (edErr n e).1 = 0 then ⟨nomid e, 0, 0⟩ else ⟨zeroEd, (edErr n e).1, (edErr n e).2⟩ := by
  obtain ⟨h1, h2, h3⟩ := rowB_nums e ht hh hx
  unfold rowS edErr
  rw [rowB_length, if_neg (by omega), if_neg (by omega), h1, h2, h3]
  by_cases c1 : n ≤ e.t
  · simp [c1]
  · by_cases c2 : n ≤ e.h
    · simp [c1, c2]
    · cases c3 : fitB n e.x
      · simp [c1, c2]
      · simp [c1, c2, nomid]
/-- bytes of a row's length are a row's -/
theorem row_bytes (b : List UInt8) (h : b.length = 16) : b = rowB ⟨numI b 0 4, numI b 4 4, numI b 8 8, 4294967295⟩ := by
  unfold rowB
  simp only
  rw [nb_numI b 0 4 (by omega), nb_numI b 4 4 (by omega), nb_numI b 8 8 (by omega)]
  have a1 := (List.take_append_drop 4 b).symm
  have a2 := (List.take_append_drop 4 (b.drop 4)).symm
  rw [List.drop_drop] at a2
  have a3 : (b.drop 8).take 8 = b.drop 8 := List.take_of_length_le (by rw [List.length_drop]; omega)
  rw [a3, List.drop_zero, ← a2]
  exact a1
theorem row_ed_ok (b : List UInt8) : EdOk ⟨numI b 0 4, numI b 4 4, numI b 8 8, 4294967295⟩ :=
  ⟨by have := numI_lt b 0 4; simpa using this, by have := numI_lt b 4 4; simpa using this, by have := numI_lt b 8 8; simpa using this, by show 4294967295 < 4294967296; decide⟩
theorem rowS_short (b : List UInt8) (n : Nat) (h : b.length < 16) : rowS b n = ⟨zeroEd, 8, b.length⟩ := by unfold rowS; rw [if_pos h]

/-- rows, one behind the other: the edges, an error, its place -/
structure LRes where
  l : List Ed
  e : Nat
  a : Nat
def rowsS (n : Nat) : Nat → List UInt8 → Nat → LRes
  | 0, b, p => if b = [] then ⟨[], 0, 0⟩ else ⟨[], 8, p⟩
  | r + 1, b, p =>
    if (rowS (b.take 16) n).e = 0 then
      (if (rowsS n r (b.drop 16) (p + 16)).e = 0 then ⟨(rowS (b.take 16) n).ed :: (rowsS n r (b.drop 16) (p + 16)).l, 0, 0⟩
       else ⟨[], (rowsS n r (b.drop 16) (p + 16)).e, (rowsS n r (b.drop 16) (p + 16)).a⟩)
    else ⟨[], (rowS (b.take 16) n).e, p + (rowS (b.take 16) n).a⟩
theorem rowsS_cons (n r : Nat) (e : Ed) (he : EdOk e) (b : List UInt8) (p : Nat) : rowsS n (r + 1) (rowB e ++ b) p =
    if (edErr n e).1 = 0 then (if (rowsS n r b (p + 16)).e = 0 then ⟨nomid e :: (rowsS n r b (p + 16)).l, 0, 0⟩ else ⟨[], (rowsS n r b (p + 16)).e, (rowsS n r b (p + 16)).a⟩)
    else ⟨[], (edErr n e).1, p + (edErr n e).2⟩ := by
  have t1 : (rowB e ++ b).take 16 = rowB e := List.take_left' (rowB_length e)
  have t2 : (rowB e ++ b).drop 16 = b := List.drop_left' (rowB_length e)
  rw [rowsS, t1, t2, rowS_rowB n e he.t he.h he.x]
  by_cases c : (edErr n e).1 = 0
  · simp only [if_pos c, if_true]
  · simp only [if_neg c]
theorem rowsS_short (n r : Nat) (b : List UInt8) (p : Nat) (h : b.length < 16) : rowsS n (r + 1) b p = ⟨[], 8, p + b.length⟩ := by
  have t : (b.take 16) = b := List.take_of_length_le (by omega)
  rw [rowsS, t, rowS_short b n h]
  simp
/-- bytes are a row and more, or too short -/
theorem split16 (b : List UInt8) : b.length < 16 ∨ ∃ e c, EdOk e ∧ e.m = 4294967295 ∧ b = rowB e ++ c := by
  by_cases h : b.length < 16
  · exact .inl h
  · right
    have hl : (b.take 16).length = 16 := by rw [List.length_take]; omega
    refine ⟨_, b.drop 16, row_ed_ok (b.take 16), rfl, ?_⟩
    rw [← row_bytes (b.take 16) hl, List.take_append_drop]
/-- rows that are right, written, are read -/
theorem rows_write {n : Nat} (l : List Ed) (hok : ∀ e ∈ l, EdOk e) (hr : ∀ e ∈ l, rowOk n e) (p : Nat) : rowsS n l.length (l.flatMap rowB) p = ⟨l.map nomid, 0, 0⟩ := by
  induction l generalizing p with
  | nil => rfl
  | cons e l ih =>
    rw [List.flatMap_cons, List.length_cons, rowsS_cons n _ e (hok e (by simp)), if_pos (edErr_ok.1 (hr e (by simp))), ih (fun e he => hok e (by simp [he])) (fun e he => hr e (by simp [he]))]
    simp
/-- what rows that are right say -/
theorem rows_inv {n : Nat} : ∀ (r : Nat) (b : List UInt8) (p : Nat), (rowsS n r b p).e = 0 → (rowsS n r b p).a = 0 ∧ (rowsS n r b p).l.length = r ∧ b = (rowsS n r b p).l.flatMap rowB ∧ (∀ e ∈ (rowsS n r b p).l, EdOk e ∧ rowOk n e ∧ e.m = 4294967295) := by
  intro r
  induction r with
  | zero =>
    intro b p h
    unfold rowsS at h ⊢
    by_cases hb : b = []
    · rw [if_pos hb]; simp [hb]
    · rw [if_neg hb] at h; simp at h
  | succ r ih =>
    intro b p h
    rcases split16 b with hs | ⟨e, c, he, hm, rfl⟩
    · rw [rowsS_short n r b p hs] at h; simp at h
    · rw [rowsS_cons n r e he] at h ⊢
      by_cases c1 : (edErr n e).1 = 0
      · rw [if_pos c1] at h ⊢
        by_cases c2 : (rowsS n r c (p + 16)).e = 0
        · rw [if_pos c2]
          obtain ⟨h1, h2, h3, h4⟩ := ih c (p + 16) c2
          have hne : nomid e = e := by cases e; simp only at hm; subst hm; rfl
          refine ⟨rfl, by simp [h2], ?_, ?_⟩
          · simp only [List.flatMap_cons]
            rw [rowB_nomid, ← h3]
          · intro f hf
            rcases List.mem_cons.1 hf with rfl | hf
            · rw [hne]; exact ⟨he, edErr_ok.2 c1, hm⟩
            · exact h4 f hf
        · rw [if_neg c2] at h; exact absurd h c2
      · rw [if_neg c1] at h; exact absurd h c1
/-- with an error there are no edges -/
theorem rows_none {n : Nat} (r : Nat) (b : List UInt8) (p : Nat) (h : (rowsS n r b p).e ≠ 0) : (rowsS n r b p).l = [] := by
  cases r with
  | zero => unfold rowsS; split <;> rfl
  | succ r =>
    rw [rowsS] at h ⊢
    split
    · rename_i h1
      rw [if_pos h1] at h
      split
      · rename_i h2
        rw [if_pos h2] at h
        exact absurd rfl h
      · rfl
    · rfl
/-- rows that are right, and cut -/
theorem rows_cut {n : Nat} : ∀ (r : Nat) (b : List UInt8) (p c : Nat), (rowsS n r b p).e = 0 → c < b.length → rowsS n r (b.take c) p = ⟨[], 8, p + c⟩ := by
  intro r
  induction r with
  | zero =>
    intro b p c h hc
    unfold rowsS at h
    by_cases hb : b = []
    · subst hb; simp at hc
    · rw [if_neg hb] at h; simp at h
  | succ r ih =>
    intro b p c h hc
    by_cases h16 : c < 16
    · rw [rowsS_short n r _ p (by rw [List.length_take]; omega), List.length_take, Nat.min_eq_left (by omega)]
    · rcases split16 b with hs | ⟨e, d, he, hm, rfl⟩
      · rw [rowsS_short n r b p hs] at h; simp at h
      · have t : (rowB e ++ d).take c = rowB e ++ d.take (c - 16) := by
          rw [List.take_append, rowB_length, List.take_of_length_le (by rw [rowB_length]; omega)]
        rw [rowsS_cons n r e he] at h
        rw [t, rowsS_cons n r e he]
        by_cases c1 : (edErr n e).1 = 0
        · rw [if_pos c1] at h ⊢
          by_cases c2 : (rowsS n r d (p + 16)).e = 0
          · rw [ih d (p + 16) (c - 16) c2 (by rw [List.length_append, rowB_length] at hc; omega)]
            simp only
            rw [if_neg (by decide)]
            congr 1
            omega
          · rw [if_neg c2] at h; exact absurd h c2
        · rw [if_neg c1] at h; exact absurd h c1
/-- rows that are right, with more behind them -/
theorem rows_more {n : Nat} : ∀ (r : Nat) (b : List UInt8) (p : Nat) (more : List UInt8), (rowsS n r b p).e = 0 → more ≠ [] → rowsS n r (b ++ more) p = ⟨[], 8, p + b.length⟩ := by
  intro r
  induction r with
  | zero =>
    intro b p more h hm
    unfold rowsS at h
    by_cases hb : b = []
    · subst hb
      unfold rowsS
      rw [if_neg (by simpa using hm)]
      simp
    · rw [if_neg hb] at h; simp at h
  | succ r ih =>
    intro b p more h hm
    rcases split16 b with hs | ⟨e, d, he, hme, rfl⟩
    · rw [rowsS_short n r b p hs] at h; simp at h
    · rw [rowsS_cons n r e he] at h
      rw [List.append_assoc, rowsS_cons n r e he]
      by_cases c1 : (edErr n e).1 = 0
      · rw [if_pos c1] at h ⊢
        by_cases c2 : (rowsS n r d (p + 16)).e = 0
        · rw [ih d (p + 16) more c2 hm]
          simp only
          rw [if_neg (by decide), List.length_append, rowB_length]
          congr 1
          omega
        · rw [if_neg c2] at h; exact absurd h c2
      · rw [if_neg c1] at h; exact absurd h c1
/-- where rows are wrong, what is ahead of the place is refused at its end, or is right -/
theorem rows_wrong {n : Nat} : ∀ (r : Nat) (b : List UInt8) (p : Nat), (rowsS n r b p).e ≠ 0 → p ≤ (rowsS n r b p).a ∧ (rowsS n r b p).a ≤ p + b.length ∧
    (rowsS n r (b.take ((rowsS n r b p).a - p)) p = ⟨[], 8, (rowsS n r b p).a⟩ ∨ (rowsS n r (b.take ((rowsS n r b p).a - p)) p).e = 0) := by
  intro r
  induction r with
  | zero =>
    intro b p h
    by_cases hb : b = []
    · unfold rowsS at h; rw [if_pos hb] at h; simp at h
    · have e0 : rowsS n 0 b p = ⟨[], 8, p⟩ := by unfold rowsS; rw [if_neg hb]
      rw [e0]
      refine ⟨Nat.le_refl _, by simp, .inr ?_⟩
      simp [rowsS]
  | succ r ih =>
    intro b p h
    rcases split16 b with hs | ⟨e, d, he, hm, rfl⟩
    · rw [rowsS_short n r b p hs]
      refine ⟨by simp, by simp, .inl ?_⟩
      simp only [Nat.add_sub_cancel_left]
      rw [List.take_length, rowsS_short n r b p hs]
    · rw [rowsS_cons n r e he] at h ⊢
      by_cases c1 : (edErr n e).1 = 0
      · rw [if_pos c1] at h ⊢
        by_cases c2 : (rowsS n r d (p + 16)).e = 0
        · rw [if_pos c2] at h; simp at h
        · rw [if_neg c2]
          obtain ⟨h1, h2, h3⟩ := ih d (p + 16) c2
          simp only
          refine ⟨by omega, by rw [List.length_append, rowB_length]; omega, ?_⟩
          have t : (rowB e ++ d).take ((rowsS n r d (p + 16)).a - p) = rowB e ++ d.take ((rowsS n r d (p + 16)).a - (p + 16)) := by
            rw [List.take_append, rowB_length, List.take_of_length_le (by rw [rowB_length]; omega)]
            congr 2
            try omega
          rw [t, rowsS_cons n r e he, if_pos c1]
          rcases h3 with h3 | h3
          · left
            rw [h3]
            simp
          · right
            rw [if_pos h3]
      · rw [if_neg c1]
        have h8 := edErr_lt n e
        simp only [Nat.add_sub_cancel_left]
        refine ⟨by omega, by rw [List.length_append, rowB_length]; omega, .inl ?_⟩
        rw [rowsS_short n r _ p (by rw [List.length_take]; omega), List.length_take, List.length_append, rowB_length, Nat.min_eq_left (by omega)]
/-- rows that are whole, of which the one at k is the first wrong one -/
theorem rows_bad {n : Nat} (l : List Ed) (hok : ∀ e ∈ l, EdOk e) (k : Nat) (e : Ed) (hk : l[k]? = some e) (hr : ∀ i f, i < k → l[i]? = some f → rowOk n f) (he : (edErr n e).1 ≠ 0) (p : Nat) :
    rowsS n l.length (l.flatMap rowB) p = ⟨[], (edErr n e).1, p + 16 * k + (edErr n e).2⟩ := by
  induction l generalizing k p with
  | nil => simp at hk
  | cons f l ih =>
    rw [List.flatMap_cons, List.length_cons, rowsS_cons n _ f (hok f (by simp))]
    rcases k with _ | k
    · simp only [List.getElem?_cons_zero, Option.some.injEq] at hk
      subst hk
      rw [if_neg he]
      simp
    · have h1 := edErr_ok.1 (hr 0 f (by omega) rfl)
      rw [if_pos h1, ih (fun e he => hok e (by simp [he])) k (by simpa using hk) (fun i g hi hg => hr (i + 1) g (by omega) (by simpa using hg))]
      simp only
      rw [if_neg he]
      congr 1
      omega
end Go.Proofs.YtbalejfloieiiaaDoor
