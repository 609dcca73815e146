/- Mathematics of no program: a file of pages behind a loss of power, one page written anew. -/
import Derived.Test.YtbpiiegjbcoapaaDoorQPfMath
import Derived.Test.YtbpiiegjbcoapaaDoorDiskTorn
namespace Go.Proofs.YtbpiiegjbcoapaaDoor
open Go.RowKit
set_option linter.unusedSimpArgs false
set_option linter.unusedVariables false
set_option maxRecDepth 100000

theorem filter_ivl (a m d : Nat) : (List.range (a + (m + d))).filter (fun j => decide (a ≤ j ∧ j < a + m)) = (List.range m).map (a + ·) := by
  rw [List.range_add, List.filter_append, List.range_add (n := m), List.map_append, List.filter_append]
  rw [List.filter_eq_nil_iff.2 (fun j hj => by have := List.mem_range.1 hj; simp; omega)]
  rw [List.filter_eq_self.2 (fun j hj => by
    obtain ⟨i, hi, rfl⟩ := List.mem_map.1 hj
    have := List.mem_range.1 hi
    simp
    omega)]
  rw [List.filter_eq_nil_iff.2 (fun j hj => by
    obtain ⟨i, hi, rfl⟩ := List.mem_map.1 hj
    obtain ⟨q, hq, rfl⟩ := List.mem_map.1 hi
    simp)]
  simp
/-- a file whose pages are synced, and page k of it written anew -/
structure Tear (fl g : Fl) (ps : List (List UInt8)) (k : Nat) (T : List UInt8) : Prop where
  is : IsF fl ps
  lasts : fl.lasts = fl.now
  loose : ∀ j, fl.loose j = false
  le_k : k ≤ ps.length
  len : T.length = 256
  eq_g : g = writeF fl (256 * k) T
section
variable {fl g : Fl} {ps : List (List UInt8)} {k : Nat} {T : List UInt8}
theorem Tear.now (h : Tear fl g ps k T) : g.now.length = max (256 * ps.length) (256 * k + 256) := by
  have := h.le_k
  rw [h.eq_g, writeF_len (by rw [h.is.len]; omega) h.len, h.is.len]
theorem Tear.name (h : Tear fl g ps k T) : g.name = [97] := by rw [h.eq_g]; exact h.is.name
theorem Tear.last (h : Tear fl g ps k T) : g.lasts = fl.now := by rw [h.eq_g]; exact h.lasts
theorem Tear.le (h : Tear fl g ps k T) : g.lasts.length ≤ g.now.length := by rw [h.last, h.now, h.is.len]; omega
theorem Tear.at_ (h : Tear fl g ps k T) : pageAt g k = T := by
  have := h.le_k
  rw [h.eq_g, writeF_page (by rw [h.is.len]; omega) h.len, if_pos rfl]
theorem Tear.loose_ (h : Tear fl g ps k T) (j : Nat) : g.loose j = decide (4 * k ≤ j ∧ j < 4 * k + 4) := by
  rw [h.eq_g]
  show (fl.loose j || (decide (0 < T.length) && decide (256 * k / 64 ≤ j) && decide (j ≤ (256 * k + T.length - 1) / 64))) = _
  rw [h.loose, h.len, Bool.false_or, Bool.eq_iff_iff]
  simp
  omega
theorem Tear.looseF_ (h : Tear fl g ps k T) : looseF g = (List.range 4).map (4 * k + ·) := by
  unfold looseF
  rw [show g.loose = fun j => decide (4 * k ≤ j ∧ j < 4 * k + 4) from funext h.loose_]
  have hl := h.now
  obtain ⟨d, hd⟩ : ∃ d, sect g.now.length = 4 * k + (4 + d) := ⟨sect g.now.length - (4 * k + 4), by unfold sect; omega⟩
  rw [hd]
  exact filter_ivl _ _ _
theorem Tear.places (h : Tear fl g ps k T) : (placesL [g]).length = 4 := by rw [places1, List.length_map, h.looseF_]; rfl
theorem Tear.kept (h : Tear fl g ps k T) (keep : List Int) {t : Nat} (ht : t < 4) : keptF g 0 keep (4 * k + t) = keep.contains (t : Int) := by
  unfold keptF
  rw [h.loose_, decide_eq_true (show 4 * k ≤ 4 * k + t ∧ 4 * k + t < 4 * k + 4 by omega), Bool.true_and]
  congr 2
  rw [Nat.zero_add, show g.loose = fun j => decide (4 * k ≤ j ∧ j < 4 * k + 4) from funext h.loose_, List.range_add, List.filter_append]
  rw [List.filter_eq_nil_iff.2 (fun j hj => by have := List.mem_range.1 hj; simp; omega)]
  rw [List.filter_eq_self.2 (fun j hj => by
    obtain ⟨i, hi, rfl⟩ := List.mem_map.1 hj
    have := List.mem_range.1 hi
    simp
    omega)]
  simp
theorem Tear.not_kept (h : Tear fl g ps k T) (keep : List Int) {j : Nat} (hj : ¬ (4 * k ≤ j ∧ j < 4 * k + 4)) : keptF g 0 keep j = false := by
  unfold keptF
  rw [h.loose_, decide_eq_false hj, Bool.false_and]
theorem Tear.back_le (h : Tear fl g ps k T) (keep : List Int) : 256 * ps.length ≤ (backF g 0 keep).now.length ∧ (backF g 0 keep).now.length ≤ max (256 * ps.length) (256 * k + 256) := by
  have hb := backB_bounds g (keptF g 0 keep) h.le
  rw [h.last, h.is.len, h.now] at hb
  exact hb
theorem get_some {l : List UInt8} {i : Nat} (h : i < l.length) : l[i]? = some (l.getD i 0) := by
  simp [List.getD, h]
/-- what was not written, or is not kept, is as it was -/
theorem Tear.old (h : Tear fl g ps k T) (keep : List Int) {i : Nat} (hi : i < ps.length) (hn : ∀ j, j < 256 → keptF g 0 keep ((256 * i + j) / 64) = false) : pageAt (backF g 0 keep) i = pageAt fl i := by
  have hb := h.back_le keep
  refine pageAt_eq fun j hj => ?_
  have h1 : 256 * i + j < (backF g 0 keep).now.length := by omega
  have h2 : 256 * i + j < fl.now.length := by rw [h.is.len]; omega
  rw [get_some h1, get_some h2]
  have := backB_get g (keptF g 0 keep) h.le h1
  rw [hn j hj, h.last] at this
  rw [show (backF g 0 keep).now = backB g (keptF g 0 keep) from rfl, this]
  simp
theorem Tear.others (h : Tear fl g ps k T) (keep : List Int) {i : Nat} {p : List UInt8} (hp : ps[i]? = some p) (hi : i ≠ k) : readP (D1 (backF g 0 keep)) [97] (i : Int) = (p, 0) := by
  have hil := (List.getElem?_eq_some_iff.1 hp).1
  have hb := h.back_le keep
  obtain ⟨hl, e⟩ := h.is.page i p hp
  rw [readP1 (f := backF g 0 keep) h.name, if_neg (by omega), h.old keep hil (fun j hj => h.not_kept keep (by omega)), e, if_pos (isPage_pageB _ _ _ hl), saidB_pageB _ _ _ hl]
theorem Tear.none (h : Tear fl g ps k T) (keep : List Int) (hno : ∀ t, t < 4 → keep.contains ((t : Nat) : Int) = false) {p : List UInt8} (hp : ps[k]? = some p) : readP (D1 (backF g 0 keep)) [97] (k : Int) = (p, 0) := by
  have hil := (List.getElem?_eq_some_iff.1 hp).1
  have hb := h.back_le keep
  obtain ⟨hl, e⟩ := h.is.page k p hp
  have ho := h.old keep hil (fun j hj => by
    rw [show (256 * k + j) / 64 = 4 * k + j / 64 by omega, h.kept keep (by omega)]
    exact hno _ (by omega))
  rw [readP1 (f := backF g 0 keep) h.name, if_neg (by omega), ho, e, if_pos (isPage_pageB _ _ _ hl), saidB_pageB _ _ _ hl]
theorem Tear.all (h : Tear fl g ps k T) (keep : List Int) (hall : ∀ t, t < 4 → keep.contains ((t : Nat) : Int) = true) {b : List UInt8} (hb : b.length ≤ 240) (hT : T = pageB tA k b) : readP (D1 (backF g 0 keep)) [97] (k : Int) = (b, 0) := by
  have hn := h.now
  have hlen : 256 * k + 256 ≤ (backF g 0 keep).now.length := by
    have h1 := endK_ge g.now.length (keptF g 0 keep) (sect g.now.length) (4 * k + 3) (by unfold sect; omega) (by rw [h.kept keep (by omega)]; exact hall 3 (by omega))
    have h2 := backB_length g (keptF g 0 keep)
    rw [show (backF g 0 keep).now = backB g (keptF g 0 keep) from rfl, h2]
    omega
  have hp : pageAt (backF g 0 keep) k = T := by
    refine Eq.trans (pageAt_eq (g := g) fun j hj => ?_) h.at_
    have h1 : 256 * k + j < (backF g 0 keep).now.length := by omega
    have h2 : 256 * k + j < g.now.length := by omega
    rw [get_some h1, get_some h2]
    have := backB_get g (keptF g 0 keep) h.le h1
    rw [show (256 * k + j) / 64 = 4 * k + j / 64 by omega, h.kept keep (by omega), hall _ (by omega)] at this
    rw [show (backF g 0 keep).now = backB g (keptF g 0 keep) from rfl, this]
    simp
  rw [readP1 (f := backF g 0 keep) h.name, if_neg (by omega), hp, hT, if_pos (isPage_pageB _ _ _ hb), saidB_pageB _ _ _ hb]
/-- each byte is as it was, or as it was written -/
theorem Tear.each (h : Tear fl g ps k T) (keep : List Int) {i : Nat} (hi : i < (pageAt (backF g 0 keep) k).length) :
    i < 256 ∧ ((pageAt (backF g 0 keep) k).getD i 0 = (pageAt fl k).getD i 0 ∨ (pageAt (backF g 0 keep) k).getD i 0 = T.getD i 0) := by
  have h256 : i < 256 := by unfold pageAt at hi; rw [List.length_take] at hi; omega
  refine ⟨h256, ?_⟩
  have hg : ∀ (f : Fl), (pageAt f k).getD i 0 = f.now.getD (256 * k + i) 0 := fun f => by
    simp only [List.getD]
    rw [pageAt_get, if_pos h256]
  have h1 : 256 * k + i < (backF g 0 keep).now.length := by
    unfold pageAt at hi
    rw [List.length_take, List.length_drop] at hi
    omega
  have hb := backB_get g (keptF g 0 keep) h.le h1
  rw [← h.at_, hg, hg, hg]
  rw [show (backF g 0 keep).now = backB g (keptF g 0 keep) from rfl, hb]
  split
  · exact .inr rfl
  · exact .inl (by rw [h.last])
theorem Tear.write (h : Tear fl g ps k T) (hm : ps.length ≤ 700) {b : List UInt8} (hb : b.length ≤ 240) (hT : T = pageB tA k b) : writeP (D1 fl) [97] (k : Int) b = (D1 g, 0) := by
  rw [h.is.write h.le_k hm hb, h.eq_g, hT]
theorem raw_any {f : Fl} (hn : f.name = [97]) (k : Nat) : readS (D1 f) [97] ((256 * k : Nat) : Int) 256 = (pageAt f k, 0) := by
  have h1 : ¬ ((256 * k : Nat) : Int) < 0 := by omega
  have e2 : ((256 * k : Nat) : Int).toNat = 256 * k := by omega
  unfold pageAt
  unfold readS
  simp only [D1, ok_a, get1 hn]
  rw [e2, show (256 : Int).toNat = 256 from rfl]
  simp
  omega
theorem syncD (f : Fl) : syncS ⟨[f], 4096, 1, false⟩ [97] = (⟨[f], 4096, 0, true⟩, 6) := by simp [syncS, goneS]
end
/-- how many of the first sectors are kept -/
def stayN (keep : List Int) (i : Nat) : Nat := ((List.range i).filter fun t => keep.contains ((t : Nat) : Int)).length
theorem stayN_succ (keep : List Int) (i : Nat) : stayN keep (i + 1) = stayN keep i + if keep.contains (i : Int) = true then 1 else 0 := by
  unfold stayN
  rw [List.range_succ, List.filter_append, List.length_append]
  congr 1
  by_cases h : keep.contains (i : Int) = true
  · rw [if_pos h]; simp only [List.filter_cons, h, if_true]; rfl
  · rw [if_neg h]; simp only [List.filter_cons, h]; rfl
theorem stayN_le (keep : List Int) (i : Nat) : stayN keep i ≤ i := by
  have := List.length_filter_le (fun t : Nat => keep.contains (t : Int)) (List.range i)
  unfold stayN
  rwa [List.length_range] at this
theorem stayN_all {keep : List Int} {n : Nat} (h : stayN keep n = n) : ∀ t, t < n → keep.contains ((t : Nat) : Int) = true := by
  induction n with
  | zero => intro t ht; omega
  | succ n ih =>
    rw [stayN_succ] at h
    have := stayN_le keep n
    intro t ht
    by_cases hc : keep.contains (n : Int) = true
    · rw [if_pos hc] at h
      by_cases e : t = n
      · subst e; exact hc
      · exact ih (by omega) t (by omega)
    · rw [if_neg hc] at h; omega
theorem stayN_none {keep : List Int} {n : Nat} (h : stayN keep n = 0) : ∀ t, t < n → keep.contains ((t : Nat) : Int) = false := by
  induction n with
  | zero => intro t ht; omega
  | succ n ih =>
    rw [stayN_succ] at h
    intro t ht
    by_cases hc : keep.contains (n : Int) = true
    · rw [if_pos hc] at h; omega
    · by_cases e : t = n
      · subst e; simpa using hc
      · exact ih (by omega) t (by omega)
end Go.Proofs.YtbpiiegjbcoapaaDoor
