/- Mathematics of no program: whole inputs, read and written. -/
import Derived.Test.YtbalejfloieiiaaDoorInputMath2
namespace Go.Proofs.YtbalejfloieiiaaDoor
open Go.RowKit
set_option linter.unusedSimpArgs false
set_option linter.unusedVariables false
set_option maxRecDepth 100000

/-- what a whole input says -/
structure CRes where
  n : Nat
  l : List Ed
  e : Nat
  a : Nat
def checkS (b : List UInt8) : CRes :=
  if (headS b).e = 0 then
    (if (rowsS (headS b).n (headS b).m (b.drop 12) 12).e = 0 then ⟨(headS b).n, (rowsS (headS b).n (headS b).m (b.drop 12) 12).l, 0, 0⟩
     else ⟨0, [], (rowsS (headS b).n (headS b).m (b.drop 12) 12).e, (rowsS (headS b).n (headS b).m (b.drop 12) 12).a⟩)
  else ⟨0, [], (headS b).e, (headS b).a⟩
/-- may these edges be written? -/
def WOk (n : Nat) (l : List Ed) : Prop := HeadOk n l.length ∧ ∀ e ∈ l, rowOk n e
/-- the bytes of edges -/
def writeB (n : Nat) (l : List Ed) : List UInt8 := headB n l.length ++ l.flatMap rowB
theorem rows_len (l : List Ed) : (l.flatMap rowB).length = 16 * l.length := by
  induction l with
  | nil => rfl
  | cons e l ih => rw [List.flatMap_cons, List.length_append, rowB_length, ih, List.length_cons]; omega
theorem writeB_length (n : Nat) (l : List Ed) : (writeB n l).length = 12 + 16 * l.length := by
  unfold writeB
  rw [List.length_append, headB_length, rows_len]
theorem flat_nomid (l : List Ed) : (l.map nomid).flatMap rowB = l.flatMap rowB := by
  induction l with
  | nil => rfl
  | cons e l ih => simp only [List.map_cons, List.flatMap_cons, rowB_nomid, ih]
theorem drop12 (n m : Nat) (b : List UInt8) : (headB n m ++ b).drop 12 = b := List.drop_left' (headB_length n m)
theorem check_of {n m : Nat} (h : HeadOk n m) (b : List UInt8) : checkS (headB n m ++ b) =
    if (rowsS n m b 12).e = 0 then ⟨n, (rowsS n m b 12).l, 0, 0⟩ else ⟨0, [], (rowsS n m b 12).e, (rowsS n m b 12).a⟩ := by
  unfold checkS
  rw [headS_ok h b, drop12]
  simp only [if_true]
/-- what was written is taken -/
theorem check_write {n : Nat} {l : List Ed} (hok : ∀ e ∈ l, EdOk e) (h : WOk n l) : checkS (writeB n l) = ⟨n, l.map nomid, 0, 0⟩ := by
  unfold writeB
  rw [check_of h.1, rows_write l hok h.2]
  simp
/-- what is taken was written -/
theorem check_inv {b : List UInt8} (h : (checkS b).e = 0) : (checkS b).a = 0 ∧ WOk (checkS b).n (checkS b).l ∧ b = writeB (checkS b).n (checkS b).l ∧ (∀ e ∈ (checkS b).l, EdOk e ∧ e.m = 4294967295) := by
  unfold checkS at h ⊢
  by_cases h1 : (headS b).e = 0
  · rw [if_pos h1] at h ⊢
    by_cases h2 : (rowsS (headS b).n (headS b).m (b.drop 12) 12).e = 0
    · rw [if_pos h2]
      obtain ⟨a1, a2, a3⟩ := headS_inv h1
      obtain ⟨c1, c2, c3, c4⟩ := rows_inv _ _ _ h2
      simp only
      refine ⟨trivial, ⟨by rw [c2]; exact a1, fun e he => (c4 e he).2.1⟩, ?_, fun e he => ⟨(c4 e he).1, (c4 e he).2.2⟩⟩
      unfold writeB
      rw [c2, ← c3]
      exact a2
    · rw [if_neg h2] at h; exact absurd h h2
  · rw [if_neg h1] at h; exact absurd h h1
/-- with an error all else is nothing -/
theorem check_none {b : List UInt8} (h : (checkS b).e ≠ 0) : (checkS b).n = 0 ∧ (checkS b).l = [] := by
  unfold checkS at h ⊢
  by_cases h1 : (headS b).e = 0
  · rw [if_pos h1] at h ⊢
    by_cases h2 : (rowsS (headS b).n (headS b).m (b.drop 12) 12).e = 0
    · rw [if_pos h2] at h; exact absurd rfl h
    · rw [if_neg h2]; exact ⟨rfl, rfl⟩
  · rw [if_neg h1]; exact ⟨rfl, rfl⟩
/-- a head that is cut is refused at its end -/
theorem head_cut {n m c : Nat} (b : List UInt8) (hc : c < 12) : headS ((headB n m ++ b).take c) = ⟨0, 0, 8, c⟩ := by
  have hl : ((headB n m ++ b).take c).length = c := by rw [List.length_take, List.length_append, headB_length]; omega
  by_cases h4 : c < 4
  · have e : (headB n m ++ b).take c = magicL.take c := by
      unfold headB
      rw [List.append_assoc, List.take_append_of_le_length (by show c ≤ 4; omega)]
    have f := firstBad_short magicL 0 c (by show c < 4; omega)
    rw [Nat.zero_add] at f
    unfold headS
    rw [e, f]
  · have e : (headB n m ++ b).take c = magicL ++ (((nb 4 n ++ nb 4 m) ++ b).take (c - 4)) := by
      unfold headB
      rw [List.append_assoc, List.take_append, List.take_of_length_le (by show 4 ≤ c; omega)]
      rfl
    have f := firstBad_self magicL (((nb 4 n ++ nb 4 m) ++ b).take (c - 4)) 0
    rw [← e] at f
    unfold headS
    rw [f]
    simp only
    rw [if_pos (by rw [hl]; exact hc), hl]
/-- an input that is right, and cut, is refused at its end -/
theorem check_cut {b : List UInt8} (h : (checkS b).e = 0) {c : Nat} (hc : c < b.length) : checkS (b.take c) = ⟨0, [], 8, c⟩ := by
  obtain ⟨_, hw, hb, hok⟩ := check_inv h
  generalize (checkS b).n = n at *
  generalize (checkS b).l = l at *
  have hr := rows_write l (fun e he => (hok e he).1) hw.2 12
  rw [hb] at hc ⊢
  by_cases h12 : c < 12
  · unfold writeB checkS
    rw [head_cut _ h12]
    simp
  · have t : (writeB n l).take c = headB n l.length ++ (l.flatMap rowB).take (c - 12) := by
      unfold writeB
      rw [List.take_append, headB_length, List.take_of_length_le (by rw [headB_length]; omega)]
    rw [t, check_of hw.1, rows_cut l.length (l.flatMap rowB) 12 (c - 12) (by rw [hr]) (by rw [writeB_length] at hc; rw [rows_len]; omega)]
    simp only
    rw [if_neg (by decide)]
    congr 1
    omega
/-- an input that is right, with more behind it, is refused where that begins -/
theorem check_more {n : Nat} {l : List Ed} (hok : ∀ e ∈ l, EdOk e) (h : WOk n l) (more : List UInt8) (hm : more ≠ []) : checkS (writeB n l ++ more) = ⟨0, [], 8, (writeB n l).length⟩ := by
  have hr := rows_write l hok h.2 12
  have e : writeB n l ++ more = headB n l.length ++ (l.flatMap rowB ++ more) := by simp [writeB]
  rw [e, check_of h.1, rows_more l.length (l.flatMap rowB) 12 more (by rw [hr]) hm, writeB_length, rows_len]
  simp
/-- where an input is wrong, what is ahead of the place is refused at its end, or is right -/
theorem check_wrong {b : List UInt8} (h : (checkS b).e ≠ 0) : (checkS b).a ≤ b.length ∧ (((checkS (b.take (checkS b).a)).e = 8 ∧ (checkS (b.take (checkS b).a)).a = (checkS b).a) ∨ (checkS (b.take (checkS b).a)).e = 0) := by
  by_cases h1 : (headS b).e = 0
  · obtain ⟨a1, a2, a3⟩ := headS_inv h1
    generalize (headS b).n = n at *
    generalize (headS b).m = m at *
    generalize b.drop 12 = d at *
    subst a2
    rw [check_of a1] at h ⊢
    by_cases h2 : (rowsS n m d 12).e = 0
    · rw [if_pos h2] at h; exact absurd rfl h
    · rw [if_neg h2]
      obtain ⟨c1, c2, c3⟩ := rows_wrong m d 12 h2
      simp only
      refine ⟨by rw [List.length_append, headB_length]; omega, ?_⟩
      have t : (headB n m ++ d).take (rowsS n m d 12).a = headB n m ++ d.take ((rowsS n m d 12).a - 12) := by
        rw [List.take_append, headB_length, List.take_of_length_le (by rw [headB_length]; omega)]
      rw [t, check_of a1]
      rcases c3 with c3 | c3
      · left
        rw [c3]
        simp
      · right
        rw [if_pos c3]
  · have e : checkS b = ⟨0, [], (headS b).e, (headS b).a⟩ := by unfold checkS; rw [if_neg h1]
    rw [e]
    simp only
    have key : ∀ c, c ≤ b.length → headS (b.take c) = ⟨0, 0, 8, c⟩ → (checkS (b.take c)).e = 8 ∧ (checkS (b.take c)).a = c := fun c hc hh => by
      unfold checkS
      rw [hh]
      simp
    have key2 : (headS b).a ≤ b.length ∧ headS (b.take (headS b).a) = ⟨0, 0, 8, (headS b).a⟩ := by
      unfold headS at h1 ⊢
      cases hf : firstBad magicL b 0 with
      | some i =>
        obtain ⟨f1, f2, f3, f4⟩ := firstBad_cut hf
        simp only [Nat.sub_zero] at f2 f3 f4 ⊢
        exact ⟨f3, by rw [f4]⟩
      | none =>
        rw [hf] at h1
        simp only at h1 ⊢
        have hm := firstBad_none hf
        have g : ∀ c, 4 ≤ c → firstBad magicL (b.take c) 0 = none := fun c hc => by
          rw [hm, List.take_append, List.take_of_length_le (by show 4 ≤ c; omega)]
          exact firstBad_self _ _ _
        have gl : ∀ c, c ≤ b.length → (b.take c).length = c := fun c hc => by rw [List.length_take]; omega
        have hb4 : 4 ≤ b.length := by rw [hm, List.length_append]; show 4 ≤ 4 + _; omega
        by_cases c1 : b.length < 12
        · rw [if_pos c1]
          simp only
          refine ⟨Nat.le_refl _, ?_⟩
          rw [List.take_length, hf]
          simp only
          rw [if_pos c1]
        · rw [if_neg c1] at h1 ⊢
          have fin : ∀ c, 4 ≤ c → c < 12 → c ≤ b.length ∧ (match firstBad magicL (b.take c) 0 with
              | some i => (⟨0, 0, 8, i⟩ : HRes)
              | none => if (b.take c).length < 12 then ⟨0, 0, 8, (b.take c).length⟩ else if 2147483647 < numI (b.take c) 4 4 then ⟨0, 0, 9, 4⟩ else if 16777216 < numI (b.take c) 8 4 then ⟨0, 0, 9, 8⟩ else if numI (b.take c) 4 4 = 0 ∧ 0 < numI (b.take c) 8 4 then ⟨0, 0, 8, 8⟩ else ⟨numI (b.take c) 4 4, numI (b.take c) 8 4, 0, 0⟩) = ⟨0, 0, 8, c⟩ := fun c hc hc' => by
            refine ⟨by omega, ?_⟩
            rw [g c hc]
            simp only
            rw [if_pos (by rw [gl c (by omega)]; exact hc'), gl c (by omega)]
          by_cases c2 : 2147483647 < numI b 4 4
          · rw [if_pos c2]; exact fin 4 (by omega) (by omega)
          · rw [if_neg c2] at h1 ⊢
            by_cases c3 : 16777216 < numI b 8 4
            · rw [if_pos c3]; exact fin 8 (by omega) (by omega)
            · rw [if_neg c3] at h1 ⊢
              by_cases c4 : numI b 4 4 = 0 ∧ 0 < numI b 8 4
              · rw [if_pos c4]; exact fin 8 (by omega) (by omega)
              · rw [if_neg c4] at h1; exact absurd rfl h1
    exact ⟨key2.1, .inl (key _ key2.1 key2.2)⟩
/-- one row of a right input is another one: it is refused there, or taken -/
theorem check_fault {n : Nat} {l : List Ed} (hok : ∀ e ∈ l, EdOk e) (h : WOk n l) {k : Nat} {e : Ed} (hk : k < l.length) (he : EdOk e) :
    checkS (writeB n (l.set k e)) = if (edErr n e).1 = 0 then ⟨n, (l.set k e).map nomid, 0, 0⟩ else ⟨0, [], (edErr n e).1, 12 + 16 * k + (edErr n e).2⟩ := by
  have hok' : ∀ f ∈ l.set k e, EdOk f := fun f hf => by
    rcases List.mem_or_eq_of_mem_set hf with hf | hf
    · exact hok f hf
    · rw [hf]; exact he
  have hl : (l.set k e).length = l.length := List.length_set
  have hH : HeadOk n (l.set k e).length := by rw [hl]; exact h.1
  by_cases c : (edErr n e).1 = 0
  · rw [if_pos c]
    refine check_write hok' ⟨hH, fun f hf => ?_⟩
    rcases List.mem_or_eq_of_mem_set hf with hf | hf
    · exact h.2 f hf
    · rw [hf]; exact edErr_ok.2 c
  · rw [if_neg c]
    unfold writeB
    rw [check_of hH, rows_bad (l.set k e) hok' k e (by simp [hk]) (fun i f hi hf => by
      rw [List.getElem?_set_ne (by omega)] at hf
      exact h.2 f (List.mem_of_getElem? hf)) c]
    simp only
    rw [if_neg c]
/-- one of the first four bytes is another one -/
theorem check_mark {n : Nat} {l : List Ed} (k : Nat) (hk : k < 4) (v : UInt8) (hv : v ≠ magicL.getD k 0) : checkS ((writeB n l).set k v) = ⟨0, [], 8, k⟩ := by
  have e : (writeB n l).set k v = (magicL ++ (nb 4 n ++ nb 4 l.length ++ l.flatMap rowB)).set k v := by
    unfold writeB headB
    rw [List.append_assoc]
  have f := firstBad_set magicL (nb 4 n ++ nb 4 l.length ++ l.flatMap rowB) 0 k v hk hv
  rw [← e, Nat.zero_add] at f
  unfold checkS headS
  rw [f]
  simp
theorem mark_was {n : Nat} {l : List Ed} (k : Nat) (hk : k < 4) : (writeB n l).getD k 0 = magicL.getD k 0 := by
  unfold writeB headB
  rw [List.append_assoc]
  simp only [List.getD]
  rw [List.getElem?_append_left (by show k < 4; omega)]
theorem set_was (b : List UInt8) (k : Nat) (hk : k < b.length) : b.set k (b.getD k 0) = b := by
  have : b.getD k 0 = b[k] := by simp [List.getD, hk]
  rw [this]
  exact List.set_getElem_self hk
/-- a row's bytes among an input's -/
theorem row_at {n : Nat} {l : List Ed} {k : Nat} {e : Ed} (hk : l[k]? = some e) : ((writeB n l).drop (12 + 16 * k)).take 16 = rowB e := by
  have h1 : (writeB n l).drop (12 + 16 * k) = (l.flatMap rowB).drop (16 * k) := by
    unfold writeB
    rw [← List.drop_drop, drop12]
  rw [h1]
  induction l generalizing k with
  | nil => simp at hk
  | cons f l ih =>
    rcases k with _ | k
    · simp only [List.getElem?_cons_zero, Option.some.injEq] at hk
      subst hk
      rw [Nat.mul_zero, List.drop_zero, List.flatMap_cons]
      exact List.take_left' (rowB_length f)
    · have e2 : 16 * (k + 1) = 16 + 16 * k := by omega
      rw [List.flatMap_cons, e2, ← List.drop_drop, List.drop_left' (rowB_length f)]
      refine ih (by simpa using hk) ?_
      unfold writeB
      rw [← List.drop_drop, drop12]
end Go.Proofs.YtbalejfloieiiaaDoor
