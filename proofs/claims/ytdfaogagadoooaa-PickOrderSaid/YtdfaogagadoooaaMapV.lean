/- Maps of any keys and elements in memory, in whatever order their entries lie: looked up, stored into, struck, cleared, counted and ranged over; of no program. -/
import Derived.Test.YtdfaogagadoooaaOnly
import Derived.MapKept
import Derived.Maps.RangeRun
import Derived.Maps.RangeWalk
import Derived.Maps.OwnSet
import Derived.Laws.StructEq
import Derived.DeepKeys3
namespace Go.Proofs.Ytdfaogagadoooaa
open Go.RowKit
open Go.ChangeMaps (setBlock)
set_option linter.unusedSimpArgs false
set_option linter.unusedVariables false
set_option linter.unusedSectionVars false
set_option maxRecDepth 100000

section
variable {κ ε : Type} [DecidableEq κ]
/-- how keys and elements are spelled, and what the model's operations on keys do -/
structure MapV (P : Program) (M K V : TypeId) (kv : κ → Value) (ev : ε → Value) : Prop where
  m : P.underlying M = some (.map K V)
  check : ∀ em k w, (Instr.checkKey em 10000 K (kv k)).run P w = .ok () w
  find : ∀ (w : World) (k : κ) (es : List MapEntry) (ks : List κ), es.map (·.key) = ks.map kv →
    (Instr.findKey K (kv k) es).run P w = .ok ((ks.findIdx? fun x => decide (x = k)).bind fun j => (es[j]?).map fun e => (j, e.val)) w
  bits : ∀ k, Instr.sameBits 10000 (kv k) (kv k) = true
  inv : ∃ f : Value → κ, ∀ k, f (kv k) = k
  einv : ∃ f : Value → ε, ∀ x, f (ev x) = x

def EntsV (kv : κ → Value) (ev : ε → Value) (es : List MapEntry) (l : List (κ × ε)) : Prop := es.map (fun e => (e.key, e.val)) = l.map fun p => (kv p.1, ev p.2)
def lookM (l : List (κ × ε)) (k : κ) : Option ε := (l.find? fun p => decide (p.1 = k)).map Prod.snd
def delM (l : List (κ × ε)) (k : κ) : List (κ × ε) := l.filter fun p => decide (p.1 ≠ k)
def putM (l : List (κ × ε)) (k : κ) (x : ε) : List (κ × ε) := (k, x) :: delM l k
/-- block b is a map of just these entries, in whatever order -/
structure MapW (kv : κ → Value) (ev : ε → Value) (w : World) (b : Nat) (l : List (κ × ε)) : Prop where
  here : ∃ es clock l0, l0.Perm l ∧ w.heap[b]? = some (.map es clock) ∧ EntsV kv ev es.toList l0 ∧ (∀ e ∈ es.toList, e.born < clock) ∧ es.toList.Pairwise (fun x y => x.born ≠ y.born)
  once : (l.map Prod.fst).Nodup
section
variable {kv : κ → Value} {ev : ε → Value} {w w' : World} {b : Nat} {l l' : List (κ × ε)}
theorem MapW.lt (h : MapW kv ev w b l) : b < w.heap.size := by
  obtain ⟨⟨es, clock, l0, -, hb, -⟩, -⟩ := h
  exact (Array.getElem?_eq_some_iff.1 hb).1
theorem MapW.same (h : MapW kv ev w b l) (hk : w'.heap[b]? = w.heap[b]?) : MapW kv ev w' b l := by
  obtain ⟨⟨es, clock, l0, hp, hb, r⟩, o⟩ := h
  exact ⟨⟨es, clock, l0, hp, hk.trans hb, r⟩, o⟩
theorem MapW.keep (h : MapW kv ev w b l) (k : Keeps w w') : MapW kv ev w' b l := h.same (k.block b h.lt)
theorem MapW.perm (h : MapW kv ev w b l) (hp : l.Perm l') : MapW kv ev w b l' := by
  obtain ⟨⟨es, clock, l0, hp0, r⟩, o⟩ := h
  exact ⟨⟨es, clock, l0, hp0.trans hp, r⟩, (hp.map Prod.fst).nodup_iff.1 o⟩
theorem MapW.new (kv : κ → Value) (ev : ε → Value) (w : World) : MapW kv ev (w.alloc (.map #[] 0)) w.heap.size [] :=
  ⟨⟨#[], 0, [], .nil, heap_alloc_new w _, rfl, by simp, by simp⟩, by simp⟩
/-- a row of cells lies elsewhere -/
theorem MapW.ne (h : MapW kv ev w b l) {g : Nat} {cs : Array Value} {t : TypeId} {fz : Nat × Nat} (hg : w.heap[g]? = some (.cells cs t fz)) : g ≠ b := by
  obtain ⟨⟨es, clock, l0, -, hb, -⟩, -⟩ := h
  intro e
  rw [e, hb] at hg
  cases hg
end
theorem nodup_perm_find {l m : List (κ × ε)} (hp : l.Perm m) (hn : (l.map Prod.fst).Nodup) (k : κ) : l.find? (fun p => decide (p.1 = k)) = m.find? (fun p => decide (p.1 = k)) := by
  have uniq : ∀ (a : List (κ × ε)), (a.map Prod.fst).Nodup → ∀ x ∈ a, x.1 = k → a.find? (fun p => decide (p.1 = k)) = some x := by
    intro a ha x hx hk
    induction a with
    | nil => simp at hx
    | cons y a ih =>
      rw [List.map_cons, List.nodup_cons] at ha
      rcases List.mem_cons.1 hx with rfl | hx'
      · simp [hk]
      · have hne : y.1 ≠ k := fun e => ha.1 (by rw [e, ← hk]; exact List.mem_map_of_mem hx')
        rw [List.find?_cons, decide_eq_false hne]
        exact ih ha.2 hx'
  cases h : l.find? (fun p => decide (p.1 = k)) with
  | none =>
    symm
    rw [List.find?_eq_none] at h ⊢
    intro x hx
    exact h x (hp.mem_iff.2 hx)
  | some x =>
    have h1 := List.mem_of_find?_eq_some h
    have h2 := List.find?_some h
    exact (uniq m ((hp.map _).nodup_iff.1 hn) x (hp.mem_iff.1 h1) (by simpa using h2)).symm
theorem lookM_perm {l m : List (κ × ε)} (hp : l.Perm m) (hn : (l.map Prod.fst).Nodup) (k : κ) : lookM l k = lookM m k := by
  unfold lookM
  rw [nodup_perm_find hp hn]
theorem delM_perm {l m : List (κ × ε)} (hp : l.Perm m) (k : κ) : (delM l k).Perm (delM m k) := hp.filter _
theorem delM_nodup {l : List (κ × ε)} (h : (l.map Prod.fst).Nodup) (k : κ) : ((delM l k).map Prod.fst).Nodup := h.sublist ((List.filter_sublist).map _)
theorem delM_not (l : List (κ × ε)) (k : κ) : k ∉ (delM l k).map Prod.fst := by
  intro h
  obtain ⟨p, hp, hk⟩ := List.mem_map.1 h
  have := (List.mem_filter.1 hp).2
  simp [hk] at this
theorem putM_nodup {l : List (κ × ε)} (h : (l.map Prod.fst).Nodup) (k : κ) (x : ε) : ((putM l k x).map Prod.fst).Nodup := by
  unfold putM
  rw [List.map_cons, List.nodup_cons]
  exact ⟨delM_not l k, delM_nodup h k⟩
theorem delM_absent {l : List (κ × ε)} {k : κ} (h : k ∉ l.map Prod.fst) : delM l k = l := by
  unfold delM
  rw [List.filter_eq_self]
  intro p hp
  simp only [decide_eq_true_eq]
  exact fun e => h (by rw [← e]; exact List.mem_map_of_mem hp)
/-- entry j alone bears its key -/
theorem delM_at {l : List (κ × ε)} (hn : (l.map Prod.fst).Nodup) {j : Nat} (hj : j < l.length) : delM l l[j].1 = l.eraseIdx j := by
  induction l generalizing j with
  | nil => simp at hj
  | cons y l ih =>
    rw [List.map_cons, List.nodup_cons] at hn
    cases j with
    | zero =>
      simp only [List.getElem_cons_zero, List.eraseIdx_zero, List.tail_cons]
      unfold delM
      rw [List.filter_cons_of_neg (by simp)]
      exact delM_absent hn.1
    | succ j =>
      simp only [List.length_cons] at hj
      have hj' : j < l.length := by omega
      have hne : y.1 ≠ l[j].1 := fun e => hn.1 (by rw [e]; exact List.mem_map_of_mem (List.getElem_mem hj'))
      simp only [List.getElem_cons_succ, List.eraseIdx_cons_succ]
      unfold delM
      rw [List.filter_cons_of_pos (by simp [hne])]
      congr 1
      exact ih hn.2 hj'
theorem set_perm {α : Type} (x : α) : ∀ (l : List α) (j : Nat), j < l.length → (l.set j x).Perm (x :: l.eraseIdx j)
  | [], j, h => by simp at h
  | y :: l, 0, _ => by simp
  | y :: l, j + 1, h => by
    simp only [List.set_cons_succ, List.eraseIdx_cons_succ]
    exact ((set_perm x l j (by simpa using h)).cons y).trans (List.Perm.swap x y _)
theorem set_perm_put {l : List (κ × ε)} (hn : (l.map Prod.fst).Nodup) {j : Nat} (hj : j < l.length) (x : ε) : (l.set j (l[j].1, x)).Perm (putM l l[j].1 x) := by
  unfold putM
  rw [delM_at hn hj]
  exact set_perm _ l j hj

section
variable {P : Program} {M K V : TypeId} {kv : κ → Value} {ev : ε → Value}
theorem ents_keys {es : List MapEntry} {l : List (κ × ε)} (h : EntsV kv ev es l) : es.map (·.key) = (l.map Prod.fst).map kv := by
  have := congrArg (List.map Prod.fst) h
  simpa [List.map_map, Function.comp_def] using this
theorem ents_len {es : List MapEntry} {l : List (κ × ε)} (h : EntsV kv ev es l) : es.length = l.length := by
  have := congrArg List.length h
  simpa using this
theorem ents_get {es : List MapEntry} {l : List (κ × ε)} (h : EntsV kv ev es l) {j : Nat} (hj : j < l.length) : ∃ e, es[j]? = some e ∧ e.key = kv l[j].1 ∧ e.val = ev l[j].2 := by
  have h1 : j < es.length := by rw [ents_len h]; exact hj
  have := congrArg (fun L => L[j]?) h
  simp [h1, hj] at this
  exact ⟨_, List.getElem?_eq_getElem h1, this.1, this.2⟩
theorem findIdx_fst (l : List (κ × ε)) (k : κ) : (l.map Prod.fst).findIdx? (fun x => decide (x = k)) = l.findIdx? (fun p => decide (p.1 = k)) := by
  rw [List.findIdx?_map]
  rfl
theorem look_idx (l : List (κ × ε)) (k : κ) : lookM l k = (l.findIdx? (fun p => decide (p.1 = k))).bind fun j => (l[j]?).map Prod.snd := by
  unfold lookM
  cases hx : l.findIdx? (fun p => decide (p.1 = k)) with
  | none =>
    have : l.find? (fun p => decide (p.1 = k)) = none := by
      rw [List.find?_eq_none]
      rw [List.findIdx?_eq_none_iff] at hx
      intro x hxm
      simpa using hx x hxm
    simp [this]
  | some j =>
    obtain ⟨hj, hp, hq⟩ := List.findIdx?_eq_some_iff_getElem.1 hx
    have : l.find? (fun p => decide (p.1 = k)) = some l[j] := by
      rw [List.find?_eq_some_iff_getElem]
      exact ⟨hp, j, hj, rfl, fun i hi => by simpa using hq i hi⟩
    simp [this, hj]
/-- the look-up finds the element of that key, or none -/
theorem run_findV (T : MapV P M K V kv ev) (w : World) (k : κ) {es : List MapEntry} {l : List (κ × ε)} (h : EntsV kv ev es l) :
    ∃ r, (Instr.findKey K (kv k) es).run P w = .ok r w ∧ ((r = none ∧ k ∉ l.map Prod.fst ∧ lookM l k = none) ∨ ∃ j, ∃ hj : j < l.length, r = some (j, ev l[j].2) ∧ l[j].1 = k ∧ lookM l k = some l[j].2) := by
  refine ⟨_, T.find w k es _ (ents_keys h), ?_⟩
  rw [findIdx_fst, look_idx]
  cases hx : l.findIdx? (fun p => decide (p.1 = k)) with
  | none =>
    left
    refine ⟨rfl, fun hm => ?_, rfl⟩
    obtain ⟨p, hp, hk⟩ := List.mem_map.1 hm
    have := (List.findIdx?_eq_none_iff.1 hx) p hp
    simp [hk] at this
  | some j =>
    right
    obtain ⟨hj, hp, hq⟩ := List.findIdx?_eq_some_iff_getElem.1 hx
    obtain ⟨e, he, -, hv⟩ := ents_get h hj
    exact ⟨j, hj, by simp [he, hv], by simpa using hp, by simp [hj]⟩
theorem run_lookV (T : MapV P M K V kv ev) {z : Value} (hz : ∀ w, (zeroValue V).run P w = .ok z w) {w : World} {b : Nat} {l : List (κ × ε)} (h : MapW kv ev w b l) (k : κ) (c : Bool) :
    (Instr.lookup M (.map (some b)) (kv k) c).run P w = .ok (if c then .tuple #[((lookM l k).map ev).getD z, .bool (lookM l k).isSome] else ((lookM l k).map ev).getD z) w := by
  obtain ⟨⟨es, clock, l0, hp, hb, he, -⟩, ho⟩ := h
  have hg : (getObj b).run P w = .ok (.map es clock) w := MapKept.run_getObj_map hb
  have hlk := lookM_perm hp ((hp.map _).nodup_iff.2 ho) k
  obtain ⟨r, hr, hcase⟩ := run_findV T w k he
  simp only [Instr.lookup, Sem.run_bind]
  simp [underlying, T.m, hg, T.check, hr]
  rcases hcase with ⟨rfl, -, hn⟩ | ⟨j, hj, rfl, -, hs⟩
  · rw [← hlk, hn]
    simp [hz]
  · rw [← hlk, hs]
    simp
theorem run_putV (T : MapV P M K V kv ev) {w : World} {b : Nat} {l : List (κ × ε)} (h : MapW kv ev w b l) (k : κ) (x : ε) :
    ∃ w', (Instr.mapUpdate M (.map (some b)) (kv k) (ev x)).run P w = .ok () w' ∧ MapW kv ev w' b (putM l k x) ∧ Only w w' (fun c => c = b) := by
  obtain ⟨⟨es, clock, l0, hp, hb, he, hbo, hbp⟩, ho⟩ := h
  have hg : (getObj b).run P w = .ok (.map es clock) w := MapKept.run_getObj_map hb
  have hbl := (Array.getElem?_eq_some_iff.1 hb).1
  have ho0 := (hp.map Prod.fst).nodup_iff.2 ho
  obtain ⟨r, hr, hcase⟩ := run_findV T w k he
  rcases hcase with ⟨rfl, hnk, -⟩ | ⟨j, hj, rfl, hk, -⟩
  · have hs := MapKept.run_setObj_map (P := P) (.map (es.push { key := kv k, val := ev x, born := clock }) (clock + 1)) hb
    refine ⟨_, by
      simp only [Instr.mapUpdate, Sem.run_bind]
      simp [underlying, T.m, hg, T.check, hr]
      exact hs, ⟨⟨es.push { key := kv k, val := ev x, born := clock }, clock + 1, l0 ++ [(k, x)], ?_, by simp [Array.getElem?_setIfInBounds, hbl], ?_, ?_, ?_⟩, putM_nodup ho k x⟩, ?_⟩
    · unfold putM
      have e1 : delM l k = l := delM_absent fun hm => hnk ((hp.map Prod.fst).mem_iff.2 hm)
      rw [e1]
      exact (List.perm_append_singleton _ _).trans (hp.cons _)
    · unfold EntsV at he ⊢
      rw [Array.toList_push, List.map_append, he]
      simp
    · intro e he'
      rw [Array.toList_push] at he'
      rcases List.mem_append.1 he' with h | h
      · have := hbo e h; omega
      · simp at h; subst h; simp
    · rw [Array.toList_push, List.pairwise_append]
      refine ⟨hbp, by simp, fun a ha c hc => ?_⟩
      simp at hc
      subst hc
      have := hbo a ha
      simp only
      omega
    · exact ⟨rfl, rfl, rfl, by simp, fun i hi hn => by simp [Array.getElem?_setIfInBounds, Ne.symm hn]⟩
  · obtain ⟨e0, he0, hkey0, -⟩ := ents_get he hj
    rw [hk] at hkey0
    have hjs : j < es.size := by
      have := ents_len he
      simp at this
      omega
    have he0' : es[j] = e0 := by
      rw [Array.getElem?_toList, Array.getElem?_eq_getElem hjs] at he0
      exact Option.some.inj he0
    have hkey : es[j].key = kv k := by rw [he0', hkey0]
    have hs := MapKept.run_setObj_map (P := P) (.map (es.modify j fun e => { e with key := kv k, val := ev x }) clock) hb
    have hkt : (Instr.keyThatStays (kv k) (kv k)).run P w = .ok (kv k) w := by simp [Instr.keyThatStays, T.bits]
    have hmod : ∀ i : Nat, (es.modify j fun e => { e with key := kv k, val := ev x }).toList[i]? = if i = j then (es.toList[i]?).map (fun e => { e with key := kv k, val := ev x }) else es.toList[i]? := fun i => by
      rw [Array.getElem?_toList, Array.getElem?_toList, Array.getElem?_modify]
      by_cases h : j = i
      · subst h; simp
      · rw [if_neg h, if_neg (fun e => h e.symm)]
    have hborn : (es.modify j fun e => { e with key := kv k, val := ev x }).toList.map (·.born) = es.toList.map (·.born) := by
      apply List.ext_getElem?
      intro i
      rw [List.getElem?_map, List.getElem?_map, hmod i]
      split
      · rw [Option.map_map]; rfl
      · rfl
    refine ⟨_, by
      simp only [Instr.mapUpdate, Sem.run_bind]
      simp [underlying, T.m, hg, T.check, hr, hj, hjs, hkey, hkt]
      exact hs, ⟨⟨_, clock, l0.set j (k, x), ?_, by simp [Array.getElem?_setIfInBounds, hbl]; rfl, ?_, ?_, ?_⟩, putM_nodup ho k x⟩, ?_⟩
    · have h1 := set_perm_put ho0 hj x
      rw [hk] at h1
      exact h1.trans ((delM_perm hp k).cons _)
    · unfold EntsV at he ⊢
      apply List.ext_getElem?
      intro i
      have h0 := congrArg (fun L => L[i]?) he
      simp only [List.getElem?_map] at h0
      rw [List.getElem?_map, List.getElem?_map, hmod i, List.getElem?_set]
      by_cases h : i = j
      · subst h
        rw [if_pos rfl, if_pos rfl, if_pos hj, List.getElem?_eq_getElem (by simpa using hjs)]
        rfl
      · rw [if_neg h, if_neg (fun e => h e.symm)]
        exact h0
    · intro e hE
      have h1 : e.born ∈ es.toList.map (·.born) := by rw [← hborn]; exact List.mem_map_of_mem hE
      obtain ⟨e', h2, h3⟩ := List.mem_map.1 h1
      rw [← h3]
      exact hbo e' h2
    · have h2 : ((es.modify j fun e => { e with key := kv k, val := ev x }).toList.map (·.born)).Pairwise (· ≠ ·) := by rw [hborn]; exact List.pairwise_map.2 hbp
      exact List.pairwise_map.1 h2
    · exact ⟨rfl, rfl, rfl, by simp, fun i hi hn => by simp [Array.getElem?_setIfInBounds, Ne.symm hn]⟩
theorem ents_filter {f : Value → κ} (hf : ∀ k, f (kv k) = k) (k : κ) : ∀ {es : List MapEntry} {l : List (κ × ε)}, EntsV kv ev es l → EntsV kv ev (es.filter fun e => decide (f e.key ≠ k)) (delM l k) := by
  intro es
  induction es with
  | nil =>
    intro l h
    cases l with
    | nil => rfl
    | cons => simp [EntsV] at h
  | cons e es ih =>
    intro l h
    cases l with
    | nil => simp [EntsV] at h
    | cons p l =>
      simp only [EntsV, List.map_cons, List.cons.injEq, Prod.mk.injEq] at h
      obtain ⟨⟨h1, h2⟩, h3⟩ := h
      have := ih h3
      unfold EntsV delM at *
      by_cases hk : p.1 = k
      · rw [List.filter_cons_of_neg (by simp [h1, hf, hk]), List.filter_cons_of_neg (by simp [hk])]
        exact this
      · rw [List.filter_cons_of_pos (by simp [h1, hf, hk]), List.filter_cons_of_pos (by simp [hk])]
        simp only [List.map_cons, h1, h2, this]
theorem ents_filter_none {f : Value → κ} (hf : ∀ k, f (kv k) = k) {k : κ} {es : List MapEntry} {l : List (κ × ε)} (h : EntsV kv ev es l) (hk : k ∉ l.map Prod.fst) : (es.filter fun e => decide (f e.key ≠ k)) = es := by
  rw [List.filter_eq_self]
  intro e he
  have h1 : e.key ∈ es.map (·.key) := List.mem_map_of_mem he
  rw [ents_keys h] at h1
  obtain ⟨x, hx, hxe⟩ := List.mem_map.1 h1
  simp only [decide_eq_true_eq]
  intro e1
  rw [← hxe, hf] at e1
  exact hk (e1 ▸ hx)
theorem ents_erase {f : Value → κ} (hf : ∀ k, f (kv k) = k) : ∀ {es : List MapEntry} {l : List (κ × ε)} {j : Nat} (hj : j < l.length), EntsV kv ev es l → (l.map Prod.fst).Nodup → es.eraseIdx j = es.filter fun e => decide (f e.key ≠ l[j].1) := by
  intro es
  induction es with
  | nil => intros; simp
  | cons e es ih =>
    intro l j hj h hn
    cases l with
    | nil => simp at hj
    | cons p l =>
      have h' := h
      simp only [EntsV, List.map_cons, List.cons.injEq, Prod.mk.injEq] at h'
      obtain ⟨⟨h1, h2⟩, h3⟩ := h'
      rw [List.map_cons, List.nodup_cons] at hn
      cases j with
      | zero =>
        simp only [List.eraseIdx_zero, List.tail_cons, List.getElem_cons_zero]
        rw [List.filter_cons_of_neg (by simp [h1, hf]), ents_filter_none hf h3 hn.1]
      | succ j =>
        have hj' : j < l.length := by simpa using hj
        have hne : p.1 ≠ l[j].1 := fun e => hn.1 (by rw [e]; exact List.mem_map_of_mem (List.getElem_mem hj'))
        simp only [List.eraseIdx_cons_succ, List.getElem_cons_succ]
        rw [List.filter_cons_of_pos (by simp [h1, hf, hne]), ih hj' h3 hn.2]
theorem run_delEs (T : MapV P M K V kv ev) {w : World} {b : Nat} {es : Array MapEntry} {clock : Nat} {l0 : List (κ × ε)} (hb : w.heap[b]? = some (.map es clock)) (he : EntsV kv ev es.toList l0) (hn : (l0.map Prod.fst).Nodup) {f : Value → κ} (hf : ∀ k, f (kv k) = k) (k : κ) (ty : TypeId) :
    ∃ es', (Builtin.delete_ #[M, K] ty #[.map (some b), kv k]).run P w = .ok (.tuple #[]) (setBlock w b (.map es' clock)) ∧ es'.toList = es.toList.filter fun e => decide (f e.key ≠ k) := by
  have hg : (getObj b).run P w = .ok (.map es clock) w := MapKept.run_getObj_map hb
  obtain ⟨r, hr, hcase⟩ := run_findV T w k he
  rcases hcase with ⟨rfl, hnk, -⟩ | ⟨j, hj, rfl, hk, -⟩
  · have hs := MapKept.run_setObj_map (P := P) (.map es clock) hb
    refine ⟨es, ?_, (ents_filter_none hf he hnk).symm⟩
    simp [Builtin.delete_, underlying, T.m, hg, T.check, hr]
    rw [hs]
    rfl
  · have hs := MapKept.run_setObj_map (P := P) (.map (es.eraseIdxIfInBounds j) clock) hb
    refine ⟨es.eraseIdxIfInBounds j, ?_, ?_⟩
    · simp [Builtin.delete_, underlying, T.m, hg, T.check, hr]
      rw [hs]
      rfl
    · have h1 := ents_erase hf hj he hn
      rw [hk] at h1
      rw [← h1]
      simp
theorem only_setBlock (w : World) (b : Nat) (o : Obj) : Only w (setBlock w b o) (fun c => c = b) := ⟨rfl, rfl, rfl, by simp [setBlock], fun i _ hn => by simp [setBlock, Array.getElem?_setIfInBounds, Ne.symm hn]⟩
theorem heap_setBlock {w : World} {b : Nat} (h : b < w.heap.size) (o : Obj) : (setBlock w b o).heap[b]? = some o := by simp [setBlock, h]
theorem heap_setBlock_ne (w : World) {b c : Nat} (h : c ≠ b) (o : Obj) : (setBlock w b o).heap[c]? = w.heap[c]? := by simp [setBlock, Ne.symm h]
theorem run_delV (T : MapV P M K V kv ev) {w : World} {b : Nat} {l : List (κ × ε)} (h : MapW kv ev w b l) (k : κ) (ty : TypeId) :
    ∃ w', (Builtin.delete_ #[M, K] ty #[.map (some b), kv k]).run P w = .ok (.tuple #[]) w' ∧ MapW kv ev w' b (delM l k) ∧ Only w w' (fun c => c = b) := by
  have hlt := h.lt
  obtain ⟨⟨es, clock, l0, hp, hb, he, hbo, hbp⟩, ho⟩ := h
  obtain ⟨f, hf⟩ := T.inv
  obtain ⟨es', hrun, hes⟩ := run_delEs T hb he ((hp.map Prod.fst).nodup_iff.2 ho) hf k ty
  refine ⟨_, hrun, ⟨⟨es', clock, delM l0 k, delM_perm hp k, heap_setBlock hlt _, ?_, ?_, ?_⟩, delM_nodup ho k⟩, only_setBlock _ _ _⟩
  · rw [hes]
    exact ents_filter hf k he
  · intro e he'
    rw [hes] at he'
    exact hbo e (List.mem_filter.1 he').1
  · rw [hes]
    exact hbp.filter _
theorem run_clearV (T : MapV P M K V kv ev) {w : World} {b : Nat} {l : List (κ × ε)} (h : MapW kv ev w b l) (ty : TypeId) :
    ∃ w', (Builtin.clear_ #[M] ty #[.map (some b)]).run P w = .ok (.tuple #[]) w' ∧ MapW kv ev w' b [] ∧ Only w w' (fun c => c = b) := by
  obtain ⟨⟨es, clock, l0, hp, hb, he, hbo, hbp⟩, ho⟩ := h
  have hg : (getObj b).run P w = .ok (.map es clock) w := MapKept.run_getObj_map hb
  have hbl := (Array.getElem?_eq_some_iff.1 hb).1
  have hs := MapKept.run_setObj_map (P := P) (.map #[] clock) hb
  have hrun : (Builtin.clear_ #[M] ty #[.map (some b)]).run P w = .ok (.tuple #[]) (setBlock w b (.map #[] clock)) := by
    simp [Builtin.clear_, underlying, T.m, hg]
    rw [hs]
    rfl
  exact ⟨_, hrun, ⟨⟨#[], clock, [], .nil, heap_setBlock hbl _, rfl, by simp, by simp⟩, by simp⟩, only_setBlock _ _ _⟩

/-! ### A range goes on -/
/-- block r is an iterator over the map in block b, which has the entries l now; those of lf are still to come -/
structure IterV (kv : κ → Value) (ev : ε → Value) (w : World) (b r : Nat) (l lf : List (κ × ε)) : Prop where
  map : MapW kv ev w b l
  here : ∃ es clock since seen c0 lf0, w.heap[b]? = some (.map es clock) ∧ (∀ e ∈ es.toList, e.born < since) ∧ w.heap[r]? = some (.mapIter (some b) since seen c0) ∧ since ≤ c0 ∧ since ≤ clock ∧ lf0.Perm lf ∧ EntsV kv ev (leftOf es seen).toList lf0
section
variable {w w' : World} {b r : Nat} {l lf : List (κ × ε)}
theorem IterV.left_eq (h : IterV kv ev w b r l lf) : w.rangeLeft b r = lf.length := by
  obtain ⟨es, clock, since, seen, c0, lf0, hb, -, hr, -, -, hp, hl⟩ := h.here
  simp only [World.rangeLeft, hb, hr]
  have := ents_len hl
  rw [hp.length_eq] at this
  simpa using this
theorem IterV.same (h : IterV kv ev w b r l lf) (hb : w'.heap[b]? = w.heap[b]?) (hr : w'.heap[r]? = w.heap[r]?) : IterV kv ev w' b r l lf := by
  obtain ⟨es, clock, since, seen, c0, lf0, h1, h2, h3, h4⟩ := h.here
  exact ⟨h.map.same hb, es, clock, since, seen, c0, lf0, hb.trans h1, h2, hr.trans h3, h4⟩
theorem IterV.lt (h : IterV kv ev w b r l lf) : b < w.heap.size ∧ r < w.heap.size := by
  obtain ⟨es, clock, since, seen, c0, lf0, h1, h2, h3, h4⟩ := h.here
  exact ⟨(Array.getElem?_eq_some_iff.1 h1).1, (Array.getElem?_eq_some_iff.1 h3).1⟩
theorem IterV.keep (h : IterV kv ev w b r l lf) (k : Keeps w w') : IterV kv ev w' b r l lf := h.same (k.block b h.lt.1) (k.block r h.lt.2)
theorem IterV.ne (h : IterV kv ev w b r l lf) : r ≠ b := by
  obtain ⟨es, clock, since, seen, c0, lf0, h1, h2, h3, h4⟩ := h.here
  intro e
  rw [e, h1] at h3
  cases h3
/-- a row of cells lies elsewhere -/
theorem IterV.apart (h : IterV kv ev w b r l lf) {g : Nat} {cs : Array Value} {t : TypeId} {fz : Nat × Nat} (hg : w.heap[g]? = some (.cells cs t fz)) : g ≠ b ∧ g ≠ r := by
  obtain ⟨es, clock, since, seen, c0, lf0, h1, h2, h3, h4⟩ := h.here
  exact ⟨fun e => (by rw [e, h1] at hg; cases hg), fun e => (by rw [e, h3] at hg; cases hg)⟩
end
theorem ents_memV {es : List MapEntry} {l : List (κ × ε)} (h : EntsV kv ev es l) {x : MapEntry} (hx : x ∈ es) : ∃ e ∈ l, x.key = kv e.1 ∧ x.val = ev e.2 := by
  have : (x.key, x.val) ∈ l.map fun e => (kv e.1, ev e.2) := by rw [← h]; exact List.mem_map.2 ⟨x, hx, rfl⟩
  obtain ⟨e, he, heq⟩ := List.mem_map.1 this
  injection heq with h1 h2
  exact ⟨e, he, h1.symm, h2.symm⟩
theorem pairs_perm (T : MapV P M K V kv ev) {a c : List (κ × ε)} (h : (a.map fun p => (kv p.1, ev p.2)).Perm (c.map fun p => (kv p.1, ev p.2))) : a.Perm c := by
  obtain ⟨f, hf⟩ := T.inv
  obtain ⟨g, hg⟩ := T.einv
  have := h.map fun q => (f q.1, g q.2)
  simp only [List.map_map] at this
  have e1 : ∀ d : List (κ × ε), d.map ((fun q : Value × Value => (f q.1, g q.2)) ∘ fun p => (kv p.1, ev p.2)) = d := fun d => by
    rw [show ((fun q : Value × Value => (f q.1, g q.2)) ∘ fun p : κ × ε => (kv p.1, ev p.2)) = id from funext fun p => by simp [hf, hg]]
    simp
  rwa [e1, e1] at this
theorem ents_of {es : List MapEntry} (h : ∀ y ∈ es, ∃ f : κ × ε, y.key = kv f.1 ∧ y.val = ev f.2) : ∃ l, EntsV kv ev es l := by
  induction es with
  | nil => exact ⟨[], rfl⟩
  | cons y r ih =>
    obtain ⟨l', hl'⟩ := ih (fun z hz => h z (by simp [hz]))
    obtain ⟨f, h1, h2⟩ := h y (by simp)
    exact ⟨f :: l', by unfold EntsV at *; simp [hl', h1, h2]⟩
theorem left_stepV (es : Array MapEntry) (seen : Array Nat) (e : MapEntry) (he : e ∈ (leftOf es seen).toList) (hn : es.toList.Pairwise (fun x y => x.born ≠ y.born)) : (leftOf es seen).toList.Perm (e :: (leftOf es (seen.push e.born)).toList) := by
  have e1 : (leftOf es (seen.push e.born)).toList = (leftOf es seen).toList.filter fun x => !(x.born == e.born) := by
    unfold leftOf
    rw [Array.toList_filter, Array.toList_filter, List.filter_filter]
    congr 1
    funext x
    simp only [Array.contains_push, Bool.not_or, Bool.and_comm]
  rw [e1]
  have hn' : (leftOf es seen).toList.Pairwise (fun x y => x.born ≠ y.born) := by
    unfold leftOf
    rw [Array.toList_filter]
    exact hn.filter _
  generalize (leftOf es seen).toList = L at he hn'
  clear e1 hn
  induction L with
  | nil => simp at he
  | cons x L ih =>
    obtain ⟨p1, p2⟩ := List.pairwise_cons.1 hn'
    rcases List.mem_cons.1 he with rfl | he'
    · have : L.filter (fun x => !(x.born == e.born)) = L := List.filter_eq_self.2 fun y hy => by
        have := p1 y hy
        simp [Ne.symm this]
      simp [this]
    · have hx : x.born ≠ e.born := p1 e he'
      rw [List.filter_cons_of_pos (by simp [hx])]
      exact ((ih he' p2).cons x).trans (List.Perm.swap e x _)
theorem run_rangeV (T : MapV P M K V kv ev) {w : World} {b : Nat} {l : List (κ × ε)} (h : MapW kv ev w b l) :
    ∃ w', (Instr.range M (.map (some b))).run P w = .ok (.pointer (some ⟨w.heap.size, 0, none⟩)) w' ∧ IterV kv ev w' b w.heap.size l l ∧ Keeps w w' ∧ w'.heap.size = w.heap.size + 1 := by
  have hlt := h.lt
  obtain ⟨⟨es, clock, l0, hp, hb, he, hbo, hbp⟩, ho⟩ := h
  have hb' := ((MapKept.heap_alloc w (.mapIter (some b) clock #[] clock)).2 b hlt).trans hb
  refine ⟨_, run_range_map w M K V b es clock T.m hb, ⟨⟨⟨es, clock, l0, hp, hb', he, hbo, hbp⟩, ho⟩, es, clock, clock, #[], clock, l0, hb', hbo, (MapKept.heap_alloc w _).1, Nat.le_refl _, Nat.le_refl _, hp, ?_⟩, keeps_alloc _ _, by simp⟩
  have : (leftOf es #[]).toList = es.toList := by simp [leftOf]
  rw [this]
  exact he
theorem run_nextV (T : MapV P M K V kv ev) {w : World} {b r : Nat} {l lf : List (κ × ε)} (h : IterV kv ev w b r l lf) (ty : TypeId) :
    (lf = [] ∧ (Instr.next (.pointer (some ⟨r, 0, none⟩)) false ty).run P w = .ok (.tuple #[.bool false]) w) ∨
    ∃ e lf' w', lf.Perm (e :: lf') ∧ (Instr.next (.pointer (some ⟨r, 0, none⟩)) false ty).run P w = .ok (.tuple #[.bool true, kv e.1, ev e.2]) w' ∧ IterV kv ev w' b r l lf' ∧ Only w w' (fun c => c = r) ∧
      (Instr.entry (.pointer (some ⟨r, 0, none⟩))).run P w' = .ok (.tuple #[kv e.1, ev e.2]) w' := by
  have hne := h.ne
  obtain ⟨⟨es1, clock1, l0, hp0, hb1, he, hbo1, hbp⟩, ho⟩ := h.map
  obtain ⟨es, clock, since, seen, c0, lf0, hb, hbo, hr, hsc, hsk, hpl, hl⟩ := h.here
  rw [hb] at hb1
  injection hb1 with hb1
  injection hb1 with q1 q2
  subst q1
  subst q2
  rcases run_next_at (P := P) w ty r b since c0 seen es clock hr hb hbo hsc with ⟨h0, hrun⟩ | ⟨x, hx, w1, hal, hrun⟩
  · left
    refine ⟨?_, hrun⟩
    have : (leftOf es seen).toList = [] := List.eq_nil_of_length_eq_zero (by simpa using h0)
    rw [this] at hl
    have := ents_len hl
    rw [hpl.length_eq] at this
    exact List.eq_nil_of_length_eq_zero this.symm
  · right
    obtain ⟨hxm, hxs⟩ := mem_left hx
    obtain ⟨e, -, hk, hv⟩ := ents_memV hl hx
    have hp := left_stepV es seen x hx hbp
    obtain ⟨lf', hl'⟩ : ∃ lf', EntsV kv ev (leftOf es (seen.push x.born)).toList lf' := ents_of fun y hy => by
      obtain ⟨f, -, h1, h2⟩ := ents_memV he (mem_left hy).1
      exact ⟨f, h1, h2⟩
    have hpl' : lf.Perm (e :: lf') := by
      refine hpl.symm.trans (pairs_perm T ?_)
      have h1 := hp.map fun y : MapEntry => (y.key, y.val)
      unfold EntsV at hl hl'
      rw [hl, List.map_cons, hl', hk, hv] at h1
      exact h1
    have hr1 : w1.heap[r]? = some (.mapIter (some b) since seen c0) := by rcases hal with rfl | rfl <;> exact hr
    have hb1 : w1.heap[b]? = some (.map es clock) := by rcases hal with rfl | rfl <;> exact hb
    have hset := MapKept.heap_set (o' := .mapIter (some b) since (seen.push x.born) clock) hr1
    have hb' : (setBlock w1 r (.mapIter (some b) since (seen.push x.born) clock)).heap[b]? = some (.map es clock) := (hset.2 b (fun e1 => hne e1.symm)).trans hb1
    rw [hk, hv] at hrun
    refine ⟨e, lf', _, hpl', hrun, ⟨⟨⟨es, clock, l0, hp0, hb', he, hbo1, hbp⟩, ho⟩, es, clock, since, seen.push x.born, clock, lf', hb', hbo, hset.1, hsk, hsk, .refl _, hl'⟩, ?_, ?_⟩
    · rcases hal with rfl | rfl <;> exact ⟨rfl, rfl, rfl, by simp [setBlock], fun i _ hi => hset.2 i (fun e1 => hi e1)⟩
    · have hnd : (es.toList.map (·.born)).Nodup := by rw [List.nodup_iff_pairwise_ne, List.pairwise_map]; exact hbp
      have := run_entry_at (P := P) _ r b since seen es clock x hset.1 hb' hxm hnd
      rw [hk, hv] at this
      exact this
theorem run_delIter (T : MapV P M K V kv ev) {w : World} {b r : Nat} {l lf : List (κ × ε)} (h : IterV kv ev w b r l lf) (k : κ) (ty : TypeId) :
    ∃ w', (Builtin.delete_ #[M, K] ty #[.map (some b), kv k]).run P w = .ok (.tuple #[]) w' ∧ IterV kv ev w' b r (delM l k) (delM lf k) ∧ Only w w' (fun c => c = b) := by
  have hlt := h.map.lt
  have hne := h.ne
  obtain ⟨⟨es1, clock1, l0, hp0, hb1, he, hbo1, hbp⟩, ho⟩ := h.map
  obtain ⟨es, clock, since, seen, c0, lf0, hb, hbo, hr, hsc, hsk, hpl, hl⟩ := h.here
  rw [hb] at hb1
  injection hb1 with hb1
  injection hb1 with q1 q2
  subst q1
  subst q2
  obtain ⟨f, hf⟩ := T.inv
  obtain ⟨es', hrun, hes⟩ := run_delEs T hb he ((hp0.map Prod.fst).nodup_iff.2 ho) hf k ty
  refine ⟨_, hrun, ⟨⟨⟨es', clock, delM l0 k, delM_perm hp0 k, heap_setBlock hlt _, ?_, ?_, ?_⟩, delM_nodup ho k⟩, es', clock, since, seen, c0, delM lf0 k, heap_setBlock hlt _, ?_, (heap_setBlock_ne w hne _).trans hr, hsc, hsk, delM_perm hpl k, ?_⟩, only_setBlock _ _ _⟩
  · rw [hes]
    exact ents_filter hf k he
  · intro e he'
    rw [hes] at he'
    exact hbo1 e (List.mem_filter.1 he').1
  · rw [hes]
    exact hbp.filter _
  · intro e he'
    rw [hes] at he'
    exact hbo e (List.mem_filter.1 he').1
  · have e1 : (leftOf es' seen).toList = (leftOf es seen).toList.filter fun e => decide (f e.key ≠ k) := by
      unfold leftOf
      rw [Array.toList_filter, Array.toList_filter, hes, List.filter_filter, List.filter_filter]
      congr 1
      funext x
      exact Bool.and_comm _ _
    rw [e1]
    exact ents_filter hf k hl
/-- the iterator is let go -/
theorem IterV.drop {w : World} {b r : Nat} {l lf : List (κ × ε)} (h : IterV kv ev w b r l lf) : MapW kv ev w b l := h.map
end
section
variable {P : Program} {M K V : TypeId} {kv : κ → Value} {ev : ε → Value} (w : World) {ops : Array Oper} {rest : List Oper} {o : Oper} {a : Act} {Q : Exit → Act → World → Prop}
theorem wpList_lookV_some (hg : o.guard = none) (m x : Operand) (hop : o.op = Op.lookup M m x false) (T : MapV P M K V kv ev) {z : Value} (hz : ∀ w, (zeroValue V).run P w = .ok z w) (b : Nat) (l : List (κ × ε)) (hm : a.eval m = .map (some b)) (h : MapW kv ev w b l) (k : κ) (hx : a.eval x = kv k) (y : ε) (hf : lookM l k = some y) (yv : Value) (hyv : ev y = yv)
    (hK : wpList P ops Q rest (a.put o.dst yv) w) : wpList P ops Q (o :: rest) a w := by
  refine wpList_plain hg fun K' hK' => ?_
  have hrun := run_lookV T hz h k false
  rw [hf] at hrun
  unfold Oper.wp
  simp [execOp, hop, hm, hx, hrun, Result.andThen]
  exact hK' _ _ (by rw [hyv]; exact hK)
theorem wpList_lookV_none (hg : o.guard = none) (m x : Operand) (hop : o.op = Op.lookup M m x false) (T : MapV P M K V kv ev) {z : Value} (hz : ∀ w, (zeroValue V).run P w = .ok z w) (b : Nat) (l : List (κ × ε)) (hm : a.eval m = .map (some b)) (h : MapW kv ev w b l) (k : κ) (hx : a.eval x = kv k) (hf : lookM l k = none)
    (hK : wpList P ops Q rest (a.put o.dst z) w) : wpList P ops Q (o :: rest) a w := by
  refine wpList_plain hg fun K' hK' => ?_
  have hrun := run_lookV T hz h k false
  rw [hf] at hrun
  unfold Oper.wp
  simp [execOp, hop, hm, hx, hrun, Result.andThen]
  exact hK' _ _ hK
theorem wpList_putV (hg : o.guard = none) (m x v : Operand) (hop : o.op = Op.mapUpdate M m x v) (T : MapV P M K V kv ev) (b : Nat) (l : List (κ × ε)) (hm : a.eval m = .map (some b)) (h : MapW kv ev w b l) (k : κ) (hx : a.eval x = kv k) (y : ε) (hv : a.eval v = ev y)
    (hK : ∀ w', MapW kv ev w' b (putM l k y) → Only w w' (fun c => c = b) → wpList P ops Q rest (a.put o.dst undef) w') : wpList P ops Q (o :: rest) a w := by
  refine wpList_plain hg fun K' hK' => ?_
  obtain ⟨w', hrun, r1, r2⟩ := run_putV T h k y
  unfold Oper.wp
  simp [execOp, hop, hm, hx, hv, hrun, Result.andThen]
  exact hK' _ _ (hK w' r1 r2)
theorem wpList_delV (hg : o.guard = none) (m x : Operand) (hop : o.op = Op.call { callee := Callee.builtin Builtin.delete, args := #[m, x], argTypes := #[M, K] }) (T : MapV P M K V kv ev) (b : Nat) (l : List (κ × ε)) (hm : a.eval m = .map (some b)) (h : MapW kv ev w b l) (k : κ) (hx : a.eval x = kv k)
    (hK : ∀ w', MapW kv ev w' b (delM l k) → Only w w' (fun c => c = b) → wpList P ops Q rest (a.put o.dst (.tuple #[])) w') : wpList P ops Q (o :: rest) a w := by
  refine wpList_plain hg fun K' hK' => ?_
  obtain ⟨w', hrun, r1, r2⟩ := run_delV T h k o.type
  unfold Oper.wp
  simp [execOp, hop, resolve, invoke, builtin, hm, hx, hrun, Result.andThen]
  exact hK' _ _ (hK w' r1 r2)
theorem wpList_delIter (hg : o.guard = none) (m x : Operand) (hop : o.op = Op.call { callee := Callee.builtin Builtin.delete, args := #[m, x], argTypes := #[M, K] }) (T : MapV P M K V kv ev) (b r : Nat) (l lf : List (κ × ε)) (hm : a.eval m = .map (some b)) (h : IterV kv ev w b r l lf) (k : κ) (hx : a.eval x = kv k)
    (hK : ∀ w', IterV kv ev w' b r (delM l k) (delM lf k) → Only w w' (fun c => c = b) → wpList P ops Q rest (a.put o.dst (.tuple #[])) w') : wpList P ops Q (o :: rest) a w := by
  refine wpList_plain hg fun K' hK' => ?_
  obtain ⟨w', hrun, r1, r2⟩ := run_delIter T h k o.type
  unfold Oper.wp
  simp [execOp, hop, resolve, invoke, builtin, hm, hx, hrun, Result.andThen]
  exact hK' _ _ (hK w' r1 r2)
theorem wpList_clearV (hg : o.guard = none) (m : Operand) (hop : o.op = Op.call { callee := Callee.builtin Builtin.clear, args := #[m], argTypes := #[M] }) (T : MapV P M K V kv ev) (b : Nat) (l : List (κ × ε)) (hm : a.eval m = .map (some b)) (h : MapW kv ev w b l)
    (hK : ∀ w', MapW kv ev w' b [] → Only w w' (fun c => c = b) → wpList P ops Q rest (a.put o.dst (.tuple #[])) w') : wpList P ops Q (o :: rest) a w := by
  refine wpList_plain hg fun K' hK' => ?_
  obtain ⟨w', hrun, r1, r2⟩ := run_clearV T h o.type
  unfold Oper.wp
  simp [execOp, hop, resolve, invoke, builtin, hm, hrun, Result.andThen]
  exact hK' _ _ (hK w' r1 r2)
theorem wpList_rangeV (hg : o.guard = none) (m : Operand) (hop : o.op = Op.range M m) (T : MapV P M K V kv ev) (b : Nat) (l : List (κ × ε)) (hm : a.eval m = .map (some b)) (h : MapW kv ev w b l)
    (hK : ∀ w', IterV kv ev w' b w.heap.size l l → Keeps w w' → w'.heap.size = w.heap.size + 1 → wpList P ops Q rest (a.put o.dst (.pointer (some ⟨w.heap.size, 0, none⟩))) w') : wpList P ops Q (o :: rest) a w := by
  refine wpList_plain hg fun K' hK' => ?_
  obtain ⟨w', hrun, r1, r2, r3⟩ := run_rangeV T h
  unfold Oper.wp
  simp [execOp, hop, hm, hrun, Result.andThen]
  exact hK' _ _ (hK w' r1 r2 r3)
theorem wpList_nextV (hg : o.guard = none) (it : Operand) (hop : o.op = Op.next it false) (T : MapV P M K V kv ev) (b r : Nat) (l lf : List (κ × ε)) (hit : a.eval it = .pointer (some ⟨r, 0, none⟩)) (h : IterV kv ev w b r l lf)
    (fk : κ → Value) (hfk : kv = fk) (fe : ε → Value) (hfe : ev = fe)
    (hDone : lf = [] → wpList P ops Q rest (a.put o.dst (.tuple #[.bool false])) w)
    (hMore : ∀ (e : κ × ε) lf' w', lf.Perm (e :: lf') → IterV kv ev w' b r l lf' → Only w w' (fun c => c = r) →
      (Instr.entry (.pointer (some ⟨r, 0, none⟩))).run P w' = .ok (.tuple #[fk e.1, fe e.2]) w' → wpList P ops Q rest (a.put o.dst (.tuple #[.bool true, fk e.1, fe e.2])) w') :
    wpList P ops Q (o :: rest) a w := by
  subst hfk
  subst hfe
  refine wpList_plain hg fun K' hK' => ?_
  unfold Oper.wp
  rcases run_nextV (P := P) T h o.type with ⟨h0, hrun⟩ | ⟨e, lf', w', hp, hrun, hi, ho, hen⟩
  · simp [execOp, hop, hit, hrun, Result.andThen]
    exact hK' _ _ (hDone h0)
  · simp [execOp, hop, hit, hrun, Result.andThen]
    exact hK' _ _ (hMore e lf' w' hp hi ho hen)
end

/-! ### Keys that are strings; keys that are a string and a number -/
theorem findNow_str (k : List UInt8) : ∀ (es : List MapEntry) (ks : List (List UInt8)) (i : Nat), es.map (·.key) = ks.map (fun s => Value.string (str s)) →
    Instr.findNow .string (.string (str k)) es i = some ((ks.findIdx? fun x => decide (x = k)).bind fun j => (es[j]?).map fun e => (i + j, e.val)) := by
  intro es
  induction es with
  | nil =>
    intro ks i h
    cases ks with
    | nil => simp [Instr.findNow]
    | cons => simp at h
  | cons e es ih =>
    intro ks i h
    cases ks with
    | nil => simp at h
    | cons s ks =>
      simp only [List.map_cons, List.cons.injEq] at h
      obtain ⟨h1, h2⟩ := h
      simp only [Instr.findNow, h1, Instr.sameNow, List.findIdx?_cons]
      by_cases hs : s = k
      · have e1 : (str k == str s) = true := (MapKept.bytes_beq _ _).2 (by rw [hs])
        rw [e1]
        simp [hs]
      · have e1 : (str k == str s) = false := by
          cases hb : (str k == str s) with
          | false => rfl
          | true => exact absurd (str_inj ((MapKept.bytes_beq _ _).1 hb)).symm hs
        rw [e1, decide_eq_false hs]
        simp only [Bool.false_eq_true, if_false]
        rw [ih ks (i + 1) h2]
        congr 1
        cases hf : ks.findIdx? (fun x => decide (x = k)) with
        | none => simp
        | some j => simp [Nat.add_assoc, Nat.add_comm 1 j]
theorem mapV_str {P : Program} {M K V : TypeId} {ε : Type} {ev : ε → Value} (hM : P.underlying M = some (.map K V)) (hK : P.underlying K = some .string) (hev : ∃ f : Value → ε, ∀ x, f (ev x) = x) : MapV P M K V (fun s : List UInt8 => Value.string (str s)) ev where
  m := hM
  check em k w := MapKept.run_checkKey hK (by simp [MapKept.IsKey]) em 9999
  find w k es ks h := by
    simp only [Instr.findKey, Sem.run_bind, run_underlying hK, Result.andThen_ok]
    rw [findNow_str k es ks 0 h]
    simp
  bits k := MapKept.sameBits_self (d := .string) (by simp [MapKept.IsKey]) 10000
  inv := ⟨fun v => match v with
    | .string s => s.data.toList
    | _ => [], fun k => by simp [str_data]⟩
  einv := hev
theorem findAsk_of {P : Program} {K : TypeId} {κ : Type} [DecidableEq κ] {kv : κ → Value} (heq : ∀ a b w, (Op.equal K (kv a) (kv b)).run P w = .ok (decide (b = a)) w) (k : κ) (w : World) : ∀ (es : List MapEntry) (ks : List κ) (i : Nat), es.map (·.key) = ks.map kv →
    (Instr.findAsking K (kv k) es i).run P w = .ok ((ks.findIdx? fun x => decide (x = k)).bind fun j => (es[j]?).map fun e => (i + j, e.val)) w := by
  intro es
  induction es with
  | nil =>
    intro ks i h
    cases ks with
    | nil => simp [Instr.findAsking]
    | cons => simp at h
  | cons e es ih =>
    intro ks i h
    cases ks with
    | nil => simp at h
    | cons s ks =>
      simp only [List.map_cons, List.cons.injEq] at h
      obtain ⟨h1, h2⟩ := h
      simp only [Instr.findAsking, Sem.run_bind, h1, heq, Result.andThen_ok, List.findIdx?_cons]
      by_cases hs : s = k
      · simp [hs]
      · rw [decide_eq_false hs]
        simp only [Bool.false_eq_true, if_false]
        rw [ih ks (i + 1) h2]
        congr 1
        cases hf : ks.findIdx? (fun x => decide (x = k)) with
        | none => simp
        | some j => simp [Nat.add_assoc, Nat.add_comm 1 j]
end
end Go.Proofs.Ytdfaogagadoooaa
