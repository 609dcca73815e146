/- Mathematics of no program: the reference's list of those that were come to, beside those that wait. -/
import Derived.Test.YtkijfbnibfbldaaWitDij
import Derived.Test.YtkijfbnibfbldaaWitHeap
namespace Go.Proofs.Ytkijfbnibfbldaa
open Go.RowKit
set_option linter.unusedSimpArgs false
set_option linter.unusedVariables false
set_option maxRecDepth 100000

/-- a vertex that was come to -/
structure Rc where
  v : Nat
  d : Nat
  z : Bool
def Rc.vals (r : Rc) : List Value := [.int .u32 (r.v : Int), .int .u64 (r.d : Int), .bool r.z]
def rcC (l : List Rc) : List Value := l.flatMap Rc.vals
theorem rcC_len (l : List Rc) : (rcC l).length = l.length * 3 := by
  induction l with
  | nil => rfl
  | cons r l ih => simp only [rcC, List.flatMap_cons, List.length_append, List.length_cons] at *; rw [ih]; simp [Rc.vals]; omega
theorem rcC_append (l m : List Rc) : rcC (l ++ m) = rcC l ++ rcC m := by simp [rcC]
theorem rcC_at : ∀ {l : List Rc} {k : Nat} {r : Rc}, l[k]? = some r → (rcC l)[k * 3]? = some (.int .u32 (r.v : Int)) ∧ (rcC l)[k * 3 + 1]? = some (.int .u64 (r.d : Int)) ∧ (rcC l)[k * 3 + 2]? = some (.bool r.z) := by
  intro l
  induction l with
  | nil => intro k r h; simp at h
  | cons a l ih =>
    intro k r h
    cases k with
    | zero => simp only [List.getElem?_cons_zero, Option.some.injEq] at h; subst h; exact ⟨rfl, rfl, rfl⟩
    | succ k =>
      have := ih (k := k) (by simpa using h)
      have e : rcC (a :: l) = .int .u32 (a.v : Int) :: .int .u64 (a.d : Int) :: .bool a.z :: rcC l := rfl
      rw [e, show (k + 1) * 3 = k * 3 + 1 + 1 + 1 by omega, show k * 3 + 1 + 1 + 1 + 1 = (k * 3 + 1) + 1 + 1 + 1 by omega, show k * 3 + 1 + 1 + 1 + 2 = (k * 3 + 2) + 1 + 1 + 1 by omega]
      simp only [List.getElem?_cons_succ]
      exact this
theorem rcC_setD : ∀ {l : List Rc} {k : Nat} {r : Rc} (d : Nat), l[k]? = some r → (rcC l).set (k * 3 + 1) (.int .u64 (d : Int)) = rcC (l.set k ⟨r.v, d, r.z⟩) := by
  intro l
  induction l with
  | nil => intro k r d h; simp at h
  | cons a l ih =>
    intro k r d h
    have e : ∀ (a : Rc) l, rcC (a :: l) = .int .u32 (a.v : Int) :: .int .u64 (a.d : Int) :: .bool a.z :: rcC l := fun _ _ => rfl
    cases k with
    | zero => simp only [List.getElem?_cons_zero, Option.some.injEq] at h; subst h; rw [List.set_cons_zero, e, e]; rfl
    | succ k =>
      have := ih (k := k) d (by simpa using h)
      rw [List.set_cons_succ, e, e, ← this, show (k + 1) * 3 + 1 = (k * 3 + 1) + 1 + 1 + 1 by omega]
      simp only [List.set_cons_succ]
theorem rcC_setZ : ∀ {l : List Rc} {k : Nat} {r : Rc} (z : Bool), l[k]? = some r → (rcC l).set (k * 3 + 2) (.bool z) = rcC (l.set k ⟨r.v, r.d, z⟩) := by
  intro l
  induction l with
  | nil => intro k r d h; simp at h
  | cons a l ih =>
    intro k r d h
    have e : ∀ (a : Rc) l, rcC (a :: l) = .int .u32 (a.v : Int) :: .int .u64 (a.d : Int) :: .bool a.z :: rcC l := fun _ _ => rfl
    cases k with
    | zero => simp only [List.getElem?_cons_zero, Option.some.injEq] at h; subst h; rw [List.set_cons_zero, e, e]; rfl
    | succ k =>
      have := ih (k := k) d (by simpa using h)
      rw [List.set_cons_succ, e, e, ← this, show (k + 1) * 3 + 2 = (k * 3 + 2) + 1 + 1 + 1 by omega]
      simp only [List.set_cons_succ]
def waitR (l : List Rc) : Wt := (l.filter fun r => !r.z).map fun r => (r.v, r.d)
theorem waitR_no {a : Rc} (l : List Rc) (h : a.z = true) : waitR (a :: l) = waitR l := by simp [waitR, h]
theorem waitR_yes {a : Rc} (l : List Rc) (h : a.z = false) : waitR (a :: l) = (a.v, a.d) :: waitR l := by simp [waitR, h]
theorem waitR_mem {l : List Rc} {v d : Nat} : (v, d) ∈ waitR l ↔ ∃ r ∈ l, r.z = false ∧ r.v = v ∧ r.d = d := by
  simp only [waitR, List.mem_map, List.mem_filter, Bool.not_eq_true', Prod.mk.injEq]
  exact ⟨fun ⟨r, ⟨a, b⟩, c, d⟩ => ⟨r, a, b, c, d⟩, fun ⟨r, a, b, c, d⟩ => ⟨r, ⟨a, b⟩, c, d⟩⟩
theorem waitR_key {l : List Rc} {v : Nat} (h : v ∈ (waitR l).map Prod.fst) : v ∈ l.map Rc.v := by
  obtain ⟨p, hp, rfl⟩ := List.mem_map.1 h
  obtain ⟨r, hr, -, h2, -⟩ := waitR_mem.1 (show (p.1, p.2) ∈ waitR l from hp)
  exact List.mem_map.2 ⟨r, hr, h2⟩
theorem waitR_onces {l : List Rc} (h : (l.map Rc.v).Nodup) : Onces (waitR l) := by
  induction l with
  | nil => simp [waitR, Onces]
  | cons a l ih =>
    rw [List.map_cons, List.nodup_cons] at h
    cases e : a.z with
    | true => rw [waitR_no l e]; exact ih h.2
    | false => rw [waitR_yes l e]; exact List.nodup_cons.2 ⟨fun hm => h.1 (waitR_key hm), ih h.2⟩
/-- v is come to at d -/
def comeR : List Rc → Nat → Nat → List Rc
  | [], v, d => [⟨v, d, false⟩]
  | r :: l, v, d => if r.v = v then (if r.z || decide (r.d ≤ d) then r :: l else ⟨r.v, d, r.z⟩ :: l) else r :: comeR l v d
theorem comeR_skip : ∀ {l : List Rc} {k v d : Nat}, v ∉ (l.take k).map Rc.v → comeR l v d = l.take k ++ comeR (l.drop k) v d := by
  intro l
  induction l with
  | nil => intro k v d h; simp
  | cons a l ih =>
    intro k v d h
    cases k with
    | zero => rfl
    | succ k =>
      simp only [List.take_succ_cons, List.map_cons, List.mem_cons, not_or] at h
      simp only [List.take_succ_cons, List.drop_succ_cons, List.cons_append]
      rw [← ih h.2]
      show (if a.v = v then _ else _) = _
      rw [if_neg (fun e => h.1 e.symm)]
theorem comeR_at {l : List Rc} {k v d : Nat} {r : Rc} (hn : v ∉ (l.take k).map Rc.v) (hk : l[k]? = some r) (hv : r.v = v) : comeR l v d = if r.z || decide (r.d ≤ d) then l else l.set k ⟨r.v, d, r.z⟩ := by
  obtain ⟨hl, hr⟩ := List.getElem?_eq_some_iff.1 hk
  rw [comeR_skip hn, List.drop_eq_getElem_cons hl, hr]
  show _ ++ (if r.v = v then _ else _) = _
  rw [if_pos hv]
  split
  · rw [← hr, ← List.drop_eq_getElem_cons hl, List.take_append_drop]
  · rw [List.set_eq_take_append_cons_drop, if_pos hl]
theorem comeR_none {l : List Rc} {v d : Nat} (hn : v ∉ l.map Rc.v) : comeR l v d = l ++ [⟨v, d, false⟩] := by
  have := comeR_skip (l := l) (k := l.length) (v := v) (d := d) (by rw [List.take_length]; exact hn)
  rw [List.take_length, List.drop_length] at this
  exact this
theorem comeR_keys (l : List Rc) (v d : Nat) : (comeR l v d).map Rc.v = if v ∈ l.map Rc.v then l.map Rc.v else l.map Rc.v ++ [v] := by
  induction l with
  | nil => simp [comeR]
  | cons a l ih =>
    by_cases h : a.v = v
    · have : (comeR (a :: l) v d).map Rc.v = (a :: l).map Rc.v := by
        show List.map _ (if a.v = v then _ else _) = _
        rw [if_pos h]; split <;> rfl
      rw [this, if_pos (by simp [h])]
    · have : comeR (a :: l) v d = a :: comeR l v d := by
        show (if a.v = v then _ else _) = _
        rw [if_neg h]
      rw [this, List.map_cons, ih]
      by_cases hm : v ∈ l.map Rc.v
      · rw [if_pos hm, if_pos (by simp only [List.map_cons, List.mem_cons]; exact .inr hm)]; rfl
      · rw [if_neg hm, if_neg (by simp only [List.map_cons, List.mem_cons, not_or]; exact ⟨fun e => h e.symm, hm⟩)]; rfl
theorem comeR_mem {l : List Rc} {v d : Nat} {r : Rc} (h : r ∈ comeR l v d) : r ∈ l ∨ (r.v = v ∧ r.d = d ∧ r.z = false) := by
  induction l with
  | nil => simp only [comeR, List.mem_singleton] at h; subst h; exact .inr ⟨rfl, rfl, rfl⟩
  | cons a l ih =>
    unfold comeR at h
    split at h
    · rename_i hv
      split at h
      · exact .inl h
      · rename_i hz
        simp only [Bool.or_eq_true, decide_eq_true_eq, not_or, Bool.not_eq_true] at hz
        rcases List.mem_cons.1 h with rfl | h
        · exact .inr ⟨hv, rfl, hz.1⟩
        · exact .inl (by simp [h])
    · rcases List.mem_cons.1 h with rfl | h
      · exact .inl (by simp)
      · rcases ih h with h | h
        · exact .inl (by simp [h])
        · exact .inr h
theorem comeR_done {l : List Rc} {v : Nat} (d : Nat) (hv : v ∈ l.map Rc.v) (hz : ∀ r ∈ l, r.v = v → r.z = true) : comeR l v d = l := by
  induction l with
  | nil => simp at hv
  | cons a l ih =>
    unfold comeR
    by_cases h : a.v = v
    · rw [if_pos h, hz a (by simp) h]; rfl
    · rw [if_neg h, ih (by simp only [List.map_cons, List.mem_cons] at hv; exact hv.resolve_left (fun e => h e.symm)) (fun r hr => hz r (by simp [hr]))]
theorem delM_no {W : Wt} {v : Nat} (h : v ∉ W.map Prod.fst) : delM W v = W := by
  unfold delM
  rw [List.filter_eq_self]
  intro p hp
  simp only [Bool.not_eq_true', decide_eq_false_iff_not, ne_eq, decide_not]
  exact fun e => h (List.mem_map.2 ⟨p, hp, e⟩)
theorem comeR_wait {l : List Rc} {v : Nat} (d : Nat) (hn : (l.map Rc.v).Nodup) (hz : ∀ r ∈ l, r.v = v → r.z = false) : (waitR (comeR l v d)).Perm (comeW (waitR l) v d) := by
  induction l with
  | nil => exact List.Perm.refl _
  | cons a l ih =>
    rw [List.map_cons, List.nodup_cons] at hn
    by_cases h : a.v = v
    · have az := hz a (by simp) h
      have ce : comeR (a :: l) v d = if a.z || decide (a.d ≤ d) then a :: l else ⟨a.v, d, a.z⟩ :: l := by
        show (if a.v = v then _ else _) = _
        rw [if_pos h]
      rw [ce, az, waitR_yes l az]
      have hl : lateB ((a.v, a.d) :: waitR l) v d = decide (a.d ≤ d) := by
        unfold lateB lookM
        rw [List.find?_cons, decide_eq_true (show (a.v, a.d).1 = v from h)]
        rfl
      unfold comeW
      rw [hl]
      by_cases hd : a.d ≤ d
      · rw [decide_eq_true hd]
        simp only [Bool.or_true, if_true]
        rw [waitR_yes l az]
      · rw [decide_eq_false hd]
        simp only [Bool.or_false, Bool.false_eq_true, if_false]
        rw [waitR_yes (a := ⟨a.v, d, false⟩) l rfl]
        simp only
        have hnk : v ∉ (waitR l).map Prod.fst := fun hm => hn.1 (by rw [h]; exact waitR_key hm)
        have : putM ((a.v, a.d) :: waitR l) v d = (v, d) :: waitR l := by
          unfold putM
          congr 1
          have : delM ((a.v, a.d) :: waitR l) v = delM (waitR l) v := by
            unfold delM
            rw [List.filter_cons_of_neg (by simp [h])]
          rw [this, delM_no hnk]
        rw [this, h]
    · have ce : comeR (a :: l) v d = a :: comeR l v d := by
        show (if a.v = v then _ else _) = _
        rw [if_neg h]
      rw [ce]
      have ihh := ih hn.2 (fun r hr => hz r (by simp [hr]))
      cases az : a.z with
      | true => rw [waitR_no _ az, waitR_no _ az]; exact ihh
      | false =>
        rw [waitR_yes _ az, waitR_yes _ az]
        refine (ihh.cons _).trans ?_
        have hl : lateB ((a.v, a.d) :: waitR l) v d = lateB (waitR l) v d := by
          unfold lateB lookM
          rw [List.find?_cons, decide_eq_false (show ¬ (a.v, a.d).1 = v from h)]
        unfold comeW
        rw [hl]
        split
        · exact List.Perm.refl _
        · unfold putM
          have : delM ((a.v, a.d) :: waitR l) v = (a.v, a.d) :: delM (waitR l) v := by
            unfold delM
            rw [List.filter_cons_of_pos (by simp [h])]
          rw [this]
          exact List.Perm.swap _ _ _
/-- the list beside those that are settled -/
structure Rk (l : List Rc) (S : List Nat) : Prop where
  once : (l.map Rc.v).Nodup
  done : ∀ r ∈ l, r.z = decide (r.v ∈ S)
  all : ∀ s ∈ S, s ∈ l.map Rc.v
  ok : ∀ r ∈ l, r.v < 4294967296 ∧ r.d < 9223372036854775808
theorem Rk.come {l : List Rc} {S : List Nat} (h : Rk l S) {v d : Nat} (hv : v < 4294967296) (hd : d < 9223372036854775808) : Rk (comeR l v d) S := by
  by_cases hs : v ∈ S
  · rw [comeR_done d (h.all v hs) (fun r hr e => by rw [h.done r hr, e]; exact decide_eq_true hs)]
    exact h
  · refine ⟨?_, fun r hr => ?_, fun s hs' => ?_, fun r hr => ?_⟩
    · rw [comeR_keys]
      split
      · exact h.once
      · rename_i hn
        rw [List.nodup_append]
        refine ⟨h.once, by simp, fun a ha b hb e => ?_⟩
        rw [List.mem_singleton] at hb
        subst hb; subst e; exact hn ha
    · rcases comeR_mem hr with h1 | ⟨h1, h2, h3⟩
      · exact h.done r h1
      · rw [h1, h3, decide_eq_false hs]
    · rw [comeR_keys]
      split
      · exact h.all s hs'
      · exact List.mem_append.2 (.inl (h.all s hs'))
    · rcases comeR_mem hr with h1 | ⟨h1, h2, h3⟩
      · exact h.ok r h1
      · rw [h1, h2]; exact ⟨hv, hd⟩
def folR (av : Nat → Bool) (d : Nat) : List Ed → List Rc → List Rc
  | [], l => l
  | e :: es, l => folR av d es (if addB d e.x && !av e.h then comeR l e.h (d + e.x) else l)
theorem folR_append (av : Nat → Bool) (d : Nat) (es fs : List Ed) : ∀ l, folR av d (es ++ fs) l = folR av d fs (folR av d es l) := by
  induction es with
  | nil => intro l; rfl
  | cons e es ih => intro l; exact ih _
theorem Rk.step {l : List Rc} {S : List Nat} (h : Rk l S) (av : Nat → Bool) (d : Nat) {e : Ed} (he : EdOk e) : Rk (if addB d e.x && !av e.h then comeR l e.h (d + e.x) else l) S := by
  split
  · rename_i hc
    simp only [Bool.and_eq_true] at hc
    have := hc.1
    unfold addB far at this
    simp only [decide_eq_true_eq] at this
    exact h.come he.h this
  · exact h
theorem Rk.fol {S : List Nat} (av : Nat → Bool) (d : Nat) : ∀ (es : List Ed) {l : List Rc}, Rk l S → (∀ e ∈ es, EdOk e) → Rk (folR av d es l) S := by
  intro es
  induction es with
  | nil => intro l h _; exact h
  | cons e es ih => intro l h he; exact ih (h.step av d (he e (by simp))) (fun x hx => he x (by simp [hx]))
theorem folR_wait {S : List Nat} (av : Nat → Bool) (d : Nat) : ∀ (es : List Ed) {l : List Rc}, Rk l S → (∀ e ∈ es, EdOk e) → (waitR (folR av d es l)).Perm (folW av S d es (waitR l)) := by
  intro es
  induction es with
  | nil => intro l h _; exact List.Perm.refl _
  | cons e es ih =>
    intro l h he
    have h1 := h.step av d (he e (by simp))
    refine (ih h1 (fun x hx => he x (by simp [hx]))).trans ?_
    refine folW_perm av S d es ?_ (waitR_onces h1.once)
    unfold goB
    by_cases hs : e.h ∈ S
    · rw [decide_eq_true hs]
      simp only [Bool.not_true, Bool.and_false, Bool.false_and, Bool.false_eq_true, if_false]
      split
      · rw [comeR_done _ (h.all _ hs) (fun r hr e' => by rw [h.done r hr, e']; exact decide_eq_true hs)]
      · exact List.Perm.refl _
    · rw [decide_eq_false hs]
      simp only [Bool.not_false, Bool.and_true]
      by_cases hc : (addB d e.x && !av e.h) = true
      · rw [if_pos hc, if_pos (by rw [Bool.and_comm]; exact hc)]
        exact comeR_wait _ h.once (fun r hr e' => by rw [h.done r hr, e']; exact decide_eq_false hs)
      · rw [if_neg hc, if_neg (by rw [Bool.and_comm]; exact hc)]
/-- the place of the least one that is not settled -/
def NextR (l : List Rc) (k : Nat) (at_ : Int) : Prop :=
  (at_ = -1 ∧ ∀ j r, j < k → l[j]? = some r → r.z = true) ∨ ∃ (p : Nat) (r : Rc), at_ = (p : Int) ∧ p < k ∧ l[p]? = some r ∧ r.z = false ∧ ∀ j s, j < k → l[j]? = some s → s.z = false → lessB ⟨s.d, s.v⟩ ⟨r.d, r.v⟩ = false
theorem NextR.none {l : List Rc} (h : NextR l l.length (-1)) : waitR l = [] := by
  rcases h with ⟨-, h⟩ | ⟨p, r, h, -⟩
  · unfold waitR
    rw [List.map_eq_nil_iff, List.filter_eq_nil_iff]
    intro r hr
    obtain ⟨j, hj⟩ := List.getElem?_of_mem hr
    rw [h j r (List.getElem?_eq_some_iff.1 hj).1 hj]
    simp
  · omega
theorem NextR.least {l : List Rc} {p : Nat} (h : NextR l l.length (p : Int)) : ∃ r, l[p]? = some r ∧ r.z = false ∧ LeastW r.v r.d (waitR l) := by
  rcases h with ⟨h, -⟩ | ⟨q, r, h, hq, hr, hz, hl⟩
  · omega
  · obtain rfl : p = q := by omega
    refine ⟨r, hr, hz, waitR_mem.2 ⟨r, List.mem_of_getElem? hr, hz, rfl, rfl⟩, fun u c hu => ?_⟩
    obtain ⟨s, hs, hsz, rfl, rfl⟩ := waitR_mem.1 hu
    obtain ⟨j, hj⟩ := List.getElem?_of_mem hs
    exact hl j s (List.getElem?_eq_some_iff.1 hj).1 hj hsz
theorem NextR.skip {l : List Rc} {k : Nat} {a : Int} (h : NextR l k a) {s : Rc} (hs : l[k]? = some s) (hz : s.z = true) : NextR l (k + 1) a := by
  rcases h with ⟨h, h1⟩ | ⟨p, r, h1, h2, h3, h4, h5⟩
  · refine .inl ⟨h, fun j r hj hr => ?_⟩
    by_cases e : j = k
    · subst e; rw [hs] at hr; cases hr; exact hz
    · exact h1 j r (by omega) hr
  · refine .inr ⟨p, r, h1, by omega, h3, h4, fun j t hj ht htz => ?_⟩
    by_cases e : j = k
    · subst e; rw [hs] at ht; cases ht; rw [hz] at htz; cases htz
    · exact h5 j t (by omega) ht htz
theorem NextR.stay {l : List Rc} {k p : Nat} (h : NextR l k (p : Int)) {r s : Rc} (hr : l[p]? = some r) (hs : l[k]? = some s) (hl : lessB ⟨s.d, s.v⟩ ⟨r.d, r.v⟩ = false) : NextR l (k + 1) (p : Int) := by
  rcases h with ⟨h, h1⟩ | ⟨q, r', h1, h2, h3, h4, h5⟩
  · omega
  · obtain rfl : p = q := by omega
    rw [hr] at h3; cases h3
    refine .inr ⟨p, r, h1, by omega, hr, h4, fun j t hj ht htz => ?_⟩
    by_cases e : j = k
    · subst e; rw [hs] at ht; cases ht; exact hl
    · exact h5 j t (by omega) ht htz
theorem NextR.first {l : List Rc} {k : Nat} (h : NextR l k (-1)) {s : Rc} (hs : l[k]? = some s) (hz : s.z = false) : NextR l (k + 1) (k : Int) := by
  rcases h with ⟨h, h1⟩ | ⟨q, r', h1, h2, h3, h4, h5⟩
  · refine .inr ⟨k, s, rfl, by omega, hs, hz, fun j t hj ht htz => ?_⟩
    by_cases e : j = k
    · subst e; rw [hs] at ht; cases ht; exact lessB_irr _
    · rw [h1 j t (by omega) ht] at htz; cases htz
  · omega
theorem NextR.take {l : List Rc} {k p : Nat} (h : NextR l k (p : Int)) {r s : Rc} (hr : l[p]? = some r) (hs : l[k]? = some s) (hz : s.z = false) (hl : lessB ⟨s.d, s.v⟩ ⟨r.d, r.v⟩ = true) : NextR l (k + 1) (k : Int) := by
  rcases h with ⟨h, h1⟩ | ⟨q, r', h1, h2, h3, h4, h5⟩
  · omega
  · obtain rfl : p = q := by omega
    rw [hr] at h3; cases h3
    refine .inr ⟨k, s, rfl, by omega, hs, hz, fun j t hj ht htz => ?_⟩
    by_cases e : j = k
    · subst e; rw [hs] at ht; cases ht; exact lessB_irr _
    · have := h5 j t (by omega) ht htz
      cases e2 : lessB ⟨t.d, t.v⟩ ⟨s.d, s.v⟩
      · rfl
      · rw [lessB_trW e2 hl] at this; cases this
theorem Rk.start {fr : Nat} (h : fr < 4294967296) : Rk [⟨fr, 0, false⟩] [] := ⟨by simp, by simp, by simp, by simp [h]⟩
/-- one is settled -/
theorem Rk.settle {l : List Rc} {S : List Nat} (h : Rk l S) {p : Nat} {r : Rc} (hr : l[p]? = some r) (hz : r.z = false) : Rk (l.set p ⟨r.v, r.d, true⟩) (S ++ [r.v]) ∧ (waitR (l.set p ⟨r.v, r.d, true⟩)).Perm (delM (waitR l) r.v) := by
  induction l generalizing p S with
  | nil => simp at hr
  | cons a l ih =>
    have hn := h.once
    rw [List.map_cons, List.nodup_cons] at hn
    cases p with
    | zero =>
      simp only [List.getElem?_cons_zero, Option.some.injEq] at hr
      subst hr
      have key : ∀ s ∈ l, s.v ≠ a.v := fun s hs e => hn.1 (by rw [← e]; exact List.mem_map_of_mem (f := Rc.v) hs)
      refine ⟨⟨h.once, fun s hs => ?_, fun s hs => ?_, fun s hs => ?_⟩, ?_⟩
      · rcases List.mem_cons.1 hs with rfl | hs
        · simp
        · have := h.done s (by simp [hs])
          rw [this]
          simp [key s hs]
      · rcases List.mem_append.1 hs with h1 | h1
        · exact h.all s h1
        · rw [List.mem_singleton] at h1; rw [h1]; simp
      · rcases List.mem_cons.1 hs with rfl | hs
        · exact h.ok a (by simp)
        · exact h.ok s (by simp [hs])
      · rw [List.set_cons_zero, waitR_no (a := ⟨a.v, a.d, true⟩) l rfl, waitR_yes l hz]
        have : delM ((a.v, a.d) :: waitR l) a.v = delM (waitR l) a.v := by
          unfold delM
          rw [List.filter_cons_of_neg (by simp)]
        rw [this, delM_no (fun hm => hn.1 (waitR_key hm))]
    | succ p =>
      simp only [List.getElem?_cons_succ] at hr
      have hm : r ∈ l := List.mem_of_getElem? hr
      have hav : a.v ≠ r.v := fun e => hn.1 (by rw [e]; exact List.mem_map_of_mem (f := Rc.v) hm)
      have hS : Rk l (S.filter fun s => decide (s ≠ a.v)) := ⟨hn.2, fun s hs => by
        have h1 : s.v ≠ a.v := fun e => hn.1 (by rw [← e]; exact List.mem_map_of_mem (f := Rc.v) hs)
        rw [h.done s (by simp [hs])]
        simp [List.mem_filter, h1], fun s hs => by
        obtain ⟨h1, h2⟩ := List.mem_filter.1 hs
        have := h.all s h1
        rw [List.map_cons, List.mem_cons] at this
        exact this.resolve_left (by simpa using h2), fun s hs => h.ok s (by simp [hs])⟩
      obtain ⟨i1, i2⟩ := ih hS hr
      rw [List.set_cons_succ]
      refine ⟨⟨?_, fun s hs => ?_, fun s hs => ?_, fun s hs => ?_⟩, ?_⟩
      · have e : (l.set p ⟨r.v, r.d, true⟩).map Rc.v = l.map Rc.v := by
          rw [List.map_set]
          have hl := (List.getElem?_eq_some_iff.1 hr)
          apply List.ext_getElem?
          intro i
          by_cases ei : i = p
          · subst ei
            rw [List.getElem?_set_self (by simpa using hl.1), List.getElem?_map, hr]
            rfl
          · rw [List.getElem?_set_ne (fun h => ei h.symm)]
        rw [List.map_cons, e]
        exact h.once
      · rcases List.mem_cons.1 hs with rfl | hs
        · rw [h.done s (by simp)]; simp [hav]
        · have h1 := i1.done s hs
          have h2 : s.v ≠ a.v := by
            rcases List.mem_or_eq_of_mem_set hs with h3 | h3
            · exact fun e => hn.1 (by rw [← e]; exact List.mem_map_of_mem (f := Rc.v) h3)
            · rw [h3]; exact fun e => hav e.symm
          rw [h1]
          simp [List.mem_filter, h2]
      · have e : (l.set p ⟨r.v, r.d, true⟩).map Rc.v = l.map Rc.v := by
          rw [List.map_set]
          have hl := (List.getElem?_eq_some_iff.1 hr)
          apply List.ext_getElem?
          intro i
          by_cases ei : i = p
          · subst ei
            rw [List.getElem?_set_self (by simpa using hl.1), List.getElem?_map, hr]
            rfl
          · rw [List.getElem?_set_ne (fun h => ei h.symm)]
        rw [List.map_cons, e]
        rcases List.mem_append.1 hs with h1 | h1
        · exact h.all s h1
        · rw [List.mem_singleton] at h1
          rw [h1]
          exact List.mem_cons_of_mem _ (List.mem_map_of_mem (f := Rc.v) hm)
      · rcases List.mem_cons.1 hs with rfl | hs
        · exact h.ok s (by simp)
        · exact i1.ok s hs
      · cases az : a.z with
        | true => rw [waitR_no _ az, waitR_no _ az]; exact i2
        | false =>
          rw [waitR_yes _ az, waitR_yes _ az]
          have : delM ((a.v, a.d) :: waitR l) r.v = (a.v, a.d) :: delM (waitR l) r.v := by
            unfold delM
            rw [List.filter_cons_of_pos (by simp [hav])]
          rw [this]
          exact i2.cons _
end Go.Proofs.Ytkijfbnibfbldaa
