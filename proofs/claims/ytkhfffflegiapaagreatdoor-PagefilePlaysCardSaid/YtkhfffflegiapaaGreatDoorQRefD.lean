/- The reference's disk as it lies in memory. -/
import Derived.Test.YtkhfffflegiapaaGreatDoorQRefDisk
import Derived.Test.YtkhfffflegiapaaGreatDoorQDkD
namespace Go.Proofs.YtkhfffflegiapaaGreatDoor
open Go.RowKit
set_option linter.unusedSimpArgs false
set_option linter.unusedVariables false
set_option maxRecDepth 100000

def bolC (l : List Bool) : List Value := l.map Value.bool
theorem bolC_length (l : List Bool) : (bolC l).length = l.length := by simp [bolC]
theorem bolC_one (l : List Bool) : ∀ u ∈ bolC l, u.oneCell' = true := by
  intro u hu
  obtain ⟨b, _, rfl⟩ := List.mem_map.1 hu
  rfl
/-- a file of the reference: what it is, its row of marks, and the three rows' values -/
structure Ent where
  f : Fl
  bs : List Bool
  nv : Value
  lv : Value
  ov : Value
def entC (e : Ent) : List Value := [strV e.f.name, e.nv, e.lv, e.ov]
def entR (es : List Ent) : List Value := es.flatMap entC
theorem entR_length (es : List Ent) : (entR es).length = es.length * 4 := flatMap_length entC 4 (fun _ => rfl) es
theorem entR_get {es : List Ent} {i : Nat} {e : Ent} (h : es[i]? = some e) (j : Nat) (hj : j < 4) : (entR es)[i * 4 + j]? = (entC e)[j]? := by
  unfold entR
  rw [flatMap_get entC 4 (fun _ => rfl) es hj, h]
  rfl
theorem entR_set : ∀ (es : List Ent) (k j : Nat) (e e' : Ent) (v : Value), es[k]? = some e → j < 4 → entC e' = (entC e).set j v → (entR es).set (k * 4 + j) v = entR (es.set k e')
  | [], k, j, e, e', v, h, _, _ => by simp at h
  | x :: es, 0, j, e, e', v, h, hj, he => by
    obtain rfl := Option.some.inj h
    show (entC x ++ entR es).set (0 * 4 + j) v = entC e' ++ entR es
    rw [he, List.set_append_left _ _ (by show 0 * 4 + j < 4; omega)]
    simp
  | x :: es, k + 1, j, e, e', v, h, hj, he => by
    have ih := entR_set es k j e e' v (by simpa using h) hj he
    show (entC x ++ entR es).set ((k + 1) * 4 + j) v = entC x ++ entR (es.set k e')
    rw [List.set_append_right _ _ (by show 4 ≤ _; omega), ← ih]
    congr 2
    show (k + 1) * 4 + j - 4 = k * 4 + j
    omega
structure EntOk (w : World) (F : Nat → Prop) (e : Ent) : Prop where
  now : Own w 0 5 1 e.nv e.f.now.length (cel e.f.now)
  lasts : Own w 0 5 1 e.lv e.f.lasts.length (cel e.f.lasts)
  loose : Own w 0 4 1 e.ov e.bs.length (bolC e.bs)
  flag : ∀ k, e.f.loose k = e.bs.getD k false
  few : e.bs.length ≤ sect e.f.now.length
  fn : ∀ g, e.nv.ownBlock = some g → F g
  fl : ∀ g, e.lv.ownBlock = some g → F g
  fo : ∀ g, e.ov.ownBlock = some g → F g
structure Rk (w : World) (b : Nat) (F : Nat → Prop) (s : Ds) (A : Option Addr) (c : Nat) (es : List Ent) : Prop where
  box : Box w b 144 (rdC A es.length c s.q s.armed s.off)
  row : Own w 0 155 4 (.slice A es.length c) es.length (entR es)
  l : s.l = es.map (·.f)
  ents : ∀ e ∈ es, EntOk w F e
  fb : F b
  fA : ∀ k, (Value.slice A es.length c).ownBlock = some k → F k
  lt : ∀ i, F i → i < w.heap.size
  lok : LOk s.l
  q : s.q ≤ 1048576
  armed : s.armed ≤ 9223372036854775807
def Rd (w : World) (b : Nat) (F : Nat → Prop) (s : Ds) : Prop := ∃ A c es, Rk w b F s A c es

theorem Own.ne_box {w : World} {base size : Nat} {e t : TypeId} {v : Value} {n : Nat} {xs : List Value} {b : Nat} {cs : Array Value} (h : Own w base e size v n xs) (hb : Box w b t cs) (hne : t ≠ e) : v.ownBlock ≠ some b := by
  intro hv
  rcases h.2 with ⟨rfl, _⟩ | ⟨g, cap, cur, fz, rfl, _, hg, _⟩
  · simp [Value.ownBlock] at hv
  · simp only [Value.ownBlock, Option.some.injEq] at hv
    subst hv
    exact row_ne hb hg hne rfl
theorem disk_u8 : 144 ≠ 5 := by decide
theorem disk_bool : 144 ≠ 4 := by decide
theorem disk_file : 144 ≠ 155 := by decide
theorem u8_file : 5 ≠ 155 := by decide
theorem bool_file : 4 ≠ 155 := by decide
section
variable {w w' : World} {b : Nat} {F F' : Nat → Prop} {s : Ds} {A : Option Addr} {c : Nat} {es : List Ent} {e : Ent}
theorem EntOk.sub (h : EntOk w F e) (hF : ∀ i, F i → F' i) : EntOk w F' e := ⟨h.now, h.lasts, h.loose, h.flag, h.few, fun g hg => hF g (h.fn g hg), fun g hg => hF g (h.fl g hg), fun g hg => hF g (h.fo g hg)⟩
theorem EntOk.sameF (h : EntOk w F e) (hs : ∀ i, F i → w'.heap[i]? = w.heap[i]?) : EntOk w' F e :=
  ⟨h.now.same fun k hk => hs k (h.fn k hk), h.lasts.same fun k hk => hs k (h.fl k hk), h.loose.same fun k hk => hs k (h.fo k hk), h.flag, h.few, h.fn, h.fl, h.fo⟩
theorem EntOk.keep (h : EntOk w F e) (k : Keeps w w') : EntOk w' F e :=
  ⟨h.now.keep k, h.lasts.keep k, h.loose.keep k, h.flag, h.few, h.fn, h.fl, h.fo⟩
theorem EntOk.one (h : EntOk w F e) : ∀ u ∈ entC e, u.oneCell' = true := by
  obtain ⟨A1, c1, h1, -⟩ := h.now.form
  obtain ⟨A2, c2, h2, -⟩ := h.lasts.form
  obtain ⟨A3, c3, h3, -⟩ := h.loose.form
  unfold entC strV
  rw [h1, h2, h3]
  intro u hu
  simp only [List.mem_cons, List.not_mem_nil, or_false] at hu
  rcases hu with rfl | rfl | rfl | rfl <;> rfl
theorem Rk.same (h : Rk w b F s A c es) (hs : ∀ i, F i → w'.heap[i]? = w.heap[i]?) (hsz : w.heap.size ≤ w'.heap.size) : Rk w' b F s A c es :=
  ⟨(hs b h.fb).trans h.box, h.row.same fun k hk => hs k (h.fA k hk), h.l, fun e he => (h.ents e he).sameF hs, h.fb, h.fA, fun i hi => Nat.lt_of_lt_of_le (h.lt i hi) hsz, h.lok, h.q, h.armed⟩
theorem Rk.keep (h : Rk w b F s A c es) (k : Keeps w w') : Rk w' b F s A c es := h.same (fun i hi => k.block i (h.lt i hi)) k.size
theorem Rd.same (h : Rd w b F s) (hs : ∀ i, F i → w'.heap[i]? = w.heap[i]?) (hsz : w.heap.size ≤ w'.heap.size) : Rd w' b F s := by
  obtain ⟨A, c, es, h⟩ := h
  exact ⟨A, c, es, h.same hs hsz⟩
theorem Rk.one (h : Rk w b F s A c es) : ∀ u ∈ entR es, u.oneCell' = true := by
  intro u hu
  obtain ⟨e, he, hu⟩ := List.mem_flatMap.1 hu
  exact (h.ents e he).one u hu
/-- the disk's own block, or its row of files -/
def Core (b : Nat) (v : Value) (i : Nat) : Prop := i = b ∨ v.ownBlock = some i
theorem Rk.core (h : Rk w b F s A c es) : ∀ i, Core b (.slice A es.length c) i → F i := fun i hi => by
  rcases hi with rfl | hi
  · exact h.fb
  · exact h.fA i hi
/-- what a file holds lies elsewhere than the disk's own block and its row -/
theorem Rk.ent_only (h : Rk w b F s A c es) (q : EntOk w F e) (ho : Only w w' (Core b (.slice A es.length c))) (hF : ∀ i, F i → F' i) : EntOk w' F' e := by
  have ne8 : ∀ {v : Value} {n : Nat} {xs : List Value}, Own w 0 5 1 v n xs → ∀ k, v.ownBlock = some k → w'.heap[k]? = w.heap[k]? := fun {v n xs} o k hk => ho.block k (o.lt k hk).2 (fun hc => by
    rcases hc with rfl | hc
    · exact o.ne_box h.box disk_u8 hk
    · rcases o.apart h.row u8_file with e1 | e1
      · rw [e1] at hk; cases hk
      · exact e1 (hk.trans hc.symm))
  have neb : ∀ {v : Value} {n : Nat} {xs : List Value}, Own w 0 4 1 v n xs → ∀ k, v.ownBlock = some k → w'.heap[k]? = w.heap[k]? := fun {v n xs} o k hk => ho.block k (o.lt k hk).2 (fun hc => by
    rcases hc with rfl | hc
    · exact o.ne_box h.box disk_bool hk
    · rcases o.apart h.row bool_file with e1 | e1
      · rw [e1] at hk; cases hk
      · exact e1 (hk.trans hc.symm))
  exact ⟨q.now.same (ne8 q.now), q.lasts.same (ne8 q.lasts), q.loose.same (neb q.loose), q.flag, q.few, fun g hg => hF g (q.fn g hg), fun g hg => hF g (q.fl g hg), fun g hg => hF g (q.fo g hg)⟩
theorem Rk.ents_only (h : Rk w b F s A c es) (ho : Only w w' (Core b (.slice A es.length c))) (hF : ∀ i, F i → F' i) : ∀ e ∈ es, EntOk w' F' e := fun e he => h.ent_only (h.ents e he) ho hF
/-- the disk's cells are other ones, but for its row -/
theorem Rk.cells (h : Rk w b F s A c es) {q armed : Nat} {off : Bool} (hb : Box w' b 144 (rdC A es.length c q armed off)) (ho : Only w w' (fun i => i = b)) (hq : q ≤ 1048576) (ha : armed ≤ 9223372036854775807) :
    Rk w' b F { s with q := q, armed := armed, off := off } A c es :=
  ⟨hb, h.row.same fun k hk => ho.block k (h.row.lt k hk).2 (fun e => h.row.ne_box h.box disk_file (by rw [hk, e])), h.l, h.ents_only (ho.weak fun i hi => .inl hi) (fun i hi => hi), h.fb, h.fA, fun i hi => Nat.lt_of_lt_of_le (h.lt i hi) ho.size, h.lok, hq, ha⟩
theorem Rk.turn_b (h : Rk w b F s A c es) (ho : Only w w' (fun i => i = b)) : Turns w w' F F := ⟨ho.weak fun i hi => by rw [hi]; exact h.fb, fun i hi => .inl hi⟩
/-- another row of files -/
theorem Rk.fresh (h : Rk w b F s A c es) {A' : Option Addr} {c' : Nat} {es' : List Ent} {l' : List Fl} (hb : Box w' b 144 (rdC A' es'.length c' s.q s.armed s.off)) (ho : Only w w' (Core b (.slice A es.length c)))
    (hr : Own w' 0 155 4 (.slice A' es'.length c') es'.length (entR es')) (hA : ∀ k, (Value.slice A' es'.length c').ownBlock = some k → F k ∨ w.heap.size ≤ k) (hl : l' = es'.map (·.f)) (he : ∀ e ∈ es', EntOk w' (more w w' F) e) (hk : LOk l') :
    Rk w' b (more w w' F) { s with l := l' } A' c' es' ∧ Turns w w' F (more w w' F) := by
  refine ⟨⟨hb, hr, hl, he, .inl h.fb, fun k hk => ?_, fun i hi => ?_, hk, h.q, h.armed⟩, turns_more ho h.core⟩
  · rcases hA k hk with e | e
    · exact .inl e
    · exact .inr ⟨e, (hr.lt k hk).2⟩
  · rcases hi with hi | hi
    · exact Nat.lt_of_lt_of_le (h.lt i hi) ho.size
    · exact hi.2
end

/-! ### Names, places -/
theorem pos_get (l : List Fl) (nm : List UInt8) (i : Nat) : (posN (l.map (·.name)) nm i = none ∧ getF l nm = none) ∨ ∃ k f, posN (l.map (·.name)) nm i = some (i + k) ∧ l[k]? = some f ∧ f.name = nm ∧ getF l nm = some f := by
  induction l generalizing i with
  | nil => exact .inl ⟨rfl, rfl⟩
  | cons g l ih =>
    rw [List.map_cons, getF_cons]
    unfold posN
    by_cases e : g.name = nm
    · rw [if_pos e, if_pos e]
      exact .inr ⟨0, g, rfl, rfl, e, rfl⟩
    · rw [if_neg e, if_neg e]
      rcases ih (i + 1) with h | ⟨k, f, h1, h2, h3, h4⟩
      · exact .inl h
      · exact .inr ⟨k + 1, f, by rw [h1]; congr 1; omega, by simpa using h2, h3, h4⟩
section
variable {w : World} {b : Nat} {F : Nat → Prop} {s : Ds} {A : Option Addr} {c : Nat} {es : List Ent}
theorem Rk.at_ (h : Rk w b F s A c es) (hm : es.length ≤ 70000) (nm : List UInt8) :
    Calls Tryz.prog 152 #[dpt b, strV nm] w fun e w' => e = .returned (.int .i64 (match posN (s.l.map (·.name)) nm 0 with | some k => (k : Int) | none => -1)) ∧ w = w' := by
  have hl : (es.map (·.f.name)).length = es.length := by rw [List.length_map]
  have R := refAt_any (es.map (·.f.name)) (entR es) (w := w) (b := b) (c := c) (q := s.q) (armed := s.armed) (base := 0) (A := A) (off := s.off) (by rw [hl]; exact h.box) (by rw [hl]; exact h.row) (by rw [hl]; exact entR_length es) (fun i x hx => by
    rw [List.getElem?_map] at hx
    obtain ⟨e, he, rfl⟩ := Option.map_eq_some_iff.1 hx
    exact entR_get he 0 (by decide)) (by rw [hl]; exact hm) nm
  have e1 : es.map (·.f.name) = s.l.map (·.name) := by rw [h.l, List.map_map]; rfl
  rw [e1] at R
  exact R
theorem Rk.at_none (h : Rk w b F s A c es) (hm : es.length ≤ 70000) {nm : List UInt8} (hg : getF s.l nm = none) :
    Calls Tryz.prog 152 #[dpt b, strV nm] w fun e w' => e = .returned (.int .i64 (-1)) ∧ w = w' := by
  have R := h.at_ hm nm
  rcases pos_get s.l nm 0 with ⟨h1, h2⟩ | ⟨k, f, h1, h2, h3, h4⟩
  · rw [h1] at R
    exact R
  · rw [hg] at h4; cases h4
theorem Rk.at_some (h : Rk w b F s A c es) (hm : es.length ≤ 70000) {nm : List UInt8} {f : Fl} (hg : getF s.l nm = some f) : ∃ (k : Nat) (x : Ent), es[k]? = some x ∧ x.f = f ∧ x.f.name = nm ∧
    Calls Tryz.prog 152 #[dpt b, strV nm] w fun e w' => e = .returned (.int .i64 (k : Int)) ∧ w = w' := by
  have R := h.at_ hm nm
  rcases pos_get s.l nm 0 with ⟨h1, h2⟩ | ⟨k, g, h1, h2, h3, h4⟩
  · rw [hg] at h2; cases h2
  · rw [h1, Nat.zero_add] at R
    rw [hg] at h4
    obtain rfl := Option.some.inj h4
    rw [h.l, List.getElem?_map] at h2
    obtain ⟨x, hx, hxf⟩ := Option.map_eq_some_iff.1 h2
    exact ⟨k, x, hx, hxf, by rw [hxf]; exact h3, R⟩
end
theorem setF_set {es : List Ent} {k : Nat} {e e' : Ent} (h : es[k]? = some e) (hn : (es.map (·.f.name)).Nodup) (hne : e'.f.name = e.f.name) : setF (es.map (·.f)) e'.f = (es.set k e').map (·.f) := by
  induction es generalizing k with
  | nil => simp at h
  | cons x es ih =>
    rw [List.map_cons, List.nodup_cons] at hn
    rcases k with _ | k
    · obtain rfl := Option.some.inj h
      unfold setF
      rw [List.set_cons_zero, List.map_cons, List.map_cons, List.map_cons, if_pos hne.symm]
      congr 1
      rw [List.map_map]
      apply List.map_congr_left
      intro g hg
      simp only [Function.comp]
      rw [if_neg (fun q => hn.1 (by rw [← hne, ← q]; exact List.mem_map.2 ⟨g, hg, rfl⟩))]
    · have h' : es[k]? = some e := by simpa using h
      have ih' := ih h' hn.2
      rw [List.set_cons_succ, List.map_cons, List.map_cons]
      unfold setF at ih' ⊢
      rw [List.map_cons, ih', if_neg (fun q => hn.1 (by rw [q, hne]; exact List.mem_map.2 ⟨e, List.mem_of_getElem? h', rfl⟩))]
theorem delF_erase {es : List Ent} {k : Nat} {e : Ent} (h : es[k]? = some e) (hn : (es.map (·.f.name)).Nodup) : delF (es.map (·.f)) e.f.name = (es.eraseIdx k).map (·.f) := by
  induction es generalizing k with
  | nil => simp at h
  | cons x es ih =>
    rw [List.map_cons, List.nodup_cons] at hn
    rcases k with _ | k
    · obtain rfl := Option.some.inj h
      unfold delF
      rw [List.eraseIdx_cons_zero, List.map_cons, List.filter_cons_of_neg (by simp), List.filter_eq_self]
      intro g hg
      obtain ⟨y, hy, rfl⟩ := List.mem_map.1 hg
      exact decide_eq_true (fun q => hn.1 (by rw [← q]; exact List.mem_map.2 ⟨y, hy, rfl⟩))
    · have h' : es[k]? = some e := by simpa using h
      have ih' := ih h' hn.2
      rw [List.eraseIdx_cons_succ, List.map_cons, List.map_cons, ← ih']
      have hne : ¬ x.f.name = e.f.name := fun q => hn.1 (by rw [q]; exact List.mem_map.2 ⟨e, List.mem_of_getElem? h', rfl⟩)
      unfold delF
      rw [List.filter_cons, if_pos (decide_eq_true hne)]
theorem putF_at : ∀ (l : List Fl) (f : Fl) (k : Nat), k ≤ l.length → (∀ j g, j < k → l[j]? = some g → g.name < f.name) → (∀ g, l[k]? = some g → ¬ g.name < f.name) → putF l f = l.take k ++ f :: l.drop k
  | [], f, k, hk, _, _ => by
    obtain rfl : k = 0 := by simpa using hk
    rfl
  | g :: l, f, 0, _, _, h2 => by
    unfold putF
    rw [if_neg (h2 g rfl)]
    rfl
  | g :: l, f, k + 1, hk, h1, h2 => by
    unfold putF
    rw [if_pos (h1 0 g (by omega) rfl), putF_at l f k (by simpa using hk) (fun j x hj hx => h1 (j + 1) x (by omega) (by simpa using hx)) (fun x hx => h2 x (by simpa using hx))]
    rfl
theorem Rk.nodup {w : World} {b : Nat} {F : Nat → Prop} {s : Ds} {A : Option Addr} {c : Nat} {es : List Ent} (h : Rk w b F s A c es) : (es.map (·.f.name)).Nodup := by
  have := names_nodup h.lok.rise
  rw [h.l, List.map_map] at this
  exact this
end Go.Proofs.YtkhfffflegiapaaGreatDoor
/- The reference's disk: New, Used, Names, Size, Quota, Arm, Dead; the power ahead of an operation. -/
namespace Go.Proofs.YtkhfffflegiapaaGreatDoor
open Go.RowKit
set_option linter.unusedSimpArgs false
set_option linter.unusedVariables false
set_option maxRecDepth 100000

section
variable {w w' : World} {b : Nat} {F : Nat → Prop} {s : Ds} {A : Option Addr} {c : Nat} {es : List Ent}
theorem gone_eq (s : Ds) : goneS s = { s with armed := s.armed - 1, off := s.off || decide (s.armed = 1) } := by
  unfold goneS
  by_cases h : 0 < s.armed
  · rw [if_pos h]
  · have h0 : s.armed = 0 := by omega
    rw [if_neg h]
    obtain ⟨l, q, a, o⟩ := s
    simp only at h0
    subst h0
    simp
theorem Rk.gone (h : Rk w b F s A c es) : Calls Tryz.prog 150 #[dpt b] w fun e w' => e = .returned (.bool (goneS s).off) ∧ Rk w' b F (goneS s) A c es ∧ Only w w' (fun i => i = b) := by
  refine (refGone_any h.box h.armed).mono fun e w' hh => ?_
  rw [gone_eq]
  exact ⟨hh.1, h.cells hh.2.1 hh.2.2 h.q (by have := h.armed; omega), hh.2.2⟩
theorem Rk.cell (h : Rk w b F s A c es) {k : Nat} {e : Ent} (hk : es[k]? = some e) (j : Nat) (hj : j < 4) : ∃ g, A = some ⟨g, 0, none⟩ ∧ w.cell? ⟨g, k * 4 + j, none⟩ = (entC e)[j]? ∧ w.frozen? ⟨g, k * 4 + j, none⟩ = false ∧ g < w.heap.size := by
  have hlt := (List.getElem?_eq_some_iff.1 hk).1
  obtain ⟨g, h1, h2, h3, -⟩ := h.row.cell (j := k * 4 + j) (by rw [entR_length]; omega)
  exact ⟨g, h1, h2.trans (entR_get hk j hj), h3, (h.row.lt g (by rw [h1]; rfl)).2⟩
theorem Rk.len (h : Rk w b F s A c es) : s.l.length = es.length := by rw [h.l, List.length_map]
theorem Rk.at_l (h : Rk w b F s A c es) {k : Nat} {e : Ent} (hk : es[k]? = some e) : s.l[k]? = some e.f := by rw [h.l, List.getElem?_map, hk]; rfl
theorem Rk.ok (h : Rk w b F s A c es) {k : Nat} {e : Ent} (hk : es[k]? = some e) : FlOk e.f ∧ EntOk w F e := ⟨h.lok.files _ (by rw [h.l]; exact List.mem_map.2 ⟨e, List.mem_of_getElem? hk, rfl⟩), h.ents e (List.mem_of_getElem? hk)⟩
theorem used_take {l : List Fl} {j : Nat} {f : Fl} (h : l[j]? = some f) : usedL (l.take (j + 1)) = usedL (l.take j) + sect f.now.length := by
  unfold usedL
  rw [List.take_add_one, h]
  simp
theorem used_le_take (l : List Fl) (j : Nat) : usedL (l.take j) ≤ usedL l := by
  have h := List.take_append_drop j l
  have e : usedL l = usedL (l.take j) + usedL (l.drop j) := by
    conv => lhs; rw [← h]
    unfold usedL
    rw [List.map_append, List.sum_append]
  omega

set_option maxHeartbeats 4000000 in
theorem Rk.used_any (h : Rk w b F s A c es) (hm : es.length ≤ 70000) : Calls Tryz.prog 158 #[dpt b] w fun e w' => e = .returned (.int .i64 (usedL s.l : Int)) ∧ w = w' := by
  have c0 : w.cell? ⟨b, 0, none⟩ = some (.slice A es.length c) := h.box.cell 0 rfl
  have H := Lib.hid h
  have HU := Lib.hid h.lok.used
  obtain ⟨n, hn⟩ : ∃ n, n = es.length := ⟨_, rfl⟩
  have HN := Lib.hid hn
  have ni : (n : Int) ≤ 70000 := by omega
  rw [← hn] at c0
  unfold dpt
  clear h hm hn
  go_enter Tryz.func158, Tryz.ntmps158
  go_wp2_with fail
  go_loopw [3, 4] (fun nv i wr => ∃ j : Nat, j ≤ n ∧ i = .int .i64 j ∧ nv = .int .i64 (usedL (s.l.take j) : Int) ∧ w = wr) (fun _ i _ => n - (intOf i).toNat)
  case atStart => exact ⟨0, Nat.zero_le _, rfl, by simp [usedL], rfl⟩
  case round =>
    obtain ⟨j, hj, rfl, rfl, rfl⟩ := hrel
    by_cases hlt : j < n
    · have hjn : (j : Int) < (n : Int) := by omega
      obtain ⟨x, hx⟩ : ∃ x, es[j]? = some x := ⟨_, List.getElem?_eq_getElem (by have := HN.out; omega)⟩
      obtain ⟨g, rfl, q1, -⟩ := H.out.cell hx 1 (by decide)
      obtain ⟨fo, eo⟩ := H.out.ok hx
      obtain ⟨A1, c1, e1, -⟩ := eo.now.form
      have q1' : w.cell? ⟨g, j * 4 + 1, none⟩ = some (.slice A1 x.f.now.length c1) := by rw [q1, ← e1]; rfl
      have SC := Lib.hid (refSectors_any x.f.now.length (by have := fo.size; omega) w)
      have UT := Lib.hid (used_take (H.out.at_l hx))
      have UB := Lib.hid (used_le_take s.l (j + 1))
      have hu : usedL (s.l.take j) + sect x.f.now.length ≤ 1048576 := by have := UT.out; have := UB.out; have := HU.out; omega
      clear q1 hx eo fo e1
      generalize usedL (s.l.take j) = u at *
      generalize sect x.f.now.length = v at *
      generalize x.f.now.length = m at *
      go_wp2_with fail
      refine SC.out.mono ?_
      rintro e w' ⟨rfl, rfl⟩
      go_wp2_with fail
      first
        | exact ⟨⟨j + 1, by omega, by go_num, by rw [UT.out]; go_num, rfl⟩, by simp [intOf]; omega⟩
        | exact ⟨⟨j + 1, by omega, by go_num, by rw [UT.out]; go_num, trivial⟩, by simp [intOf]; omega⟩
        | (refine ⟨?_, by simp [intOf]; omega⟩
           (repeat apply Exists.intro)
           refine ⟨?_, rfl⟩
           exact ⟨j + 1, by omega, by go_num, by rw [UT.out]; go_num, rfl⟩)
    · obtain rfl : j = n := by omega
      have hf : s.l.take j = s.l := List.take_of_length_le (by have := H.out.len; have := HN.out; omega)
      rw [hf]
      clear hlt hj
      go_wp2_with fail
      go_ret
      exact ⟨rfl, rfl⟩
theorem infoN : (Tryz.prog.info? 9).map (fun i => (i.zero, i.size, i.bytes)) = some (some (.string ⟨#[]⟩), 1, 16) := by kernel_rfl
end
end Go.Proofs.YtkhfffflegiapaaGreatDoor
/- The reference's disk: New, Dead, Quota, Arm, Size, Read. -/
namespace Go.Proofs.YtkhfffflegiapaaGreatDoor
open Go.RowKit
set_option linter.unusedSimpArgs false
set_option linter.unusedVariables false
set_option maxRecDepth 100000

section
variable {w w' : World} {b : Nat} {F : Nat → Prop} {s : Ds} {A : Option Addr} {c : Nat} {es : List Ent}
set_option maxHeartbeats 1600000 in
theorem refNew_any (q : Int) (w : World) (h1 : -9223372036854775808 ≤ q) (h2 : q ≤ 9223372036854775807) :
    Calls Tryz.prog 35 #[.int .i64 q] w fun e w' =>
      (0 ≤ q ∧ q ≤ 1048576 ∧ ∃ b F, e = .returned (.tuple #[dpt b, .int .i64 0]) ∧ Rd w' b F ⟨[], q.toNat, 0, false⟩ ∧ (∀ i, F i → w.heap.size ≤ i) ∧ Keeps w w') ∨
      ((q < 0 ∨ 1048576 < q) ∧ e = .returned (.tuple #[.pointer none, .int .i64 1]) ∧ Keeps w w') := by
  by_cases hq : 0 ≤ q ∧ q ≤ 1048576
  · obtain ⟨n, rfl⟩ : ∃ n : Nat, q = (n : Int) := ⟨q.toNat, by omega⟩
    have hn : n ≤ 1048576 := by omega
    have BX := Lib.hid (Box.new w 144 (rdC none 0 0 n 0 false))
    have KA := Lib.hid (keeps_alloc w (.cells (rdC none 0 0 n 0 false) 144))
    have q0 := hq.1
    have q1 := hq.2
    clear hq
    go_enter Tryz.func35, Tryz.ntmps35
    go_wp2_with fail
    go_ret2
    refine .inl ⟨q0, q1, w.heap.size, fun i => i = w.heap.size, rfl, ⟨none, 0, [], ⟨BX.out, Own.nil _ _ _ _, rfl, fun e he => by simp at he, rfl, fun k hk => by simp [Value.ownBlock] at hk, fun i hi => by rw [hi]; exact BX.out.lt, ⟨List.Pairwise.nil, fun f hf => by simp at hf, by simp [usedL]⟩, by simpa using hn, by simp⟩⟩, fun i hi => by rw [hi]; exact Nat.le_refl _, KA.out⟩
  · have hb : q < 0 ∨ 1048576 < q := by omega
    have HB := Lib.hid hb
    rcases hb with h3 | h3
    · clear hq
      go_enter Tryz.func35, Tryz.ntmps35
      go_wp2_with fail
      go_ret2
      exact .inr ⟨HB.out, rfl, keeps_refl _⟩
    · have h0 : 0 ≤ q := by omega
      clear hq
      go_enter Tryz.func35, Tryz.ntmps35
      go_wp2_with fail
      go_ret2
      exact .inr ⟨HB.out, rfl, keeps_refl _⟩
set_option maxHeartbeats 1600000 in
theorem Rk.quota_any (h : Rk w b F s A c es) (n : Int) (h1 : -9223372036854775808 ≤ n) (h2 : n ≤ 9223372036854775807) : Calls Tryz.prog 121 #[dpt b, .int .i64 n] w fun e w' => e = .returned (.int .i64 ((quotaS s n).2 : Int)) ∧ ∃ F', Rd w' b F' (quotaS s n).1 ∧ Turns w w' F F' := by
  have c1 : w.cell? ⟨b, 1, none⟩ = some (.int .i64 (s.q : Int)) := h.box.cell 1 rfl
  have f1 := h.box.frozen 1
  have hl := h.box.lt
  have H := Lib.hid h
  unfold dpt
  by_cases hq : n < 0 ∨ 1048576 < n
  · have e : quotaS s n = (s, 1) := by unfold quotaS; rw [if_pos hq]
    rw [e]
    clear h e
    rcases hq with hq | hq
    · go_enter Tryz.func121, Tryz.ntmps121
      go_wp2_with fail
      go_ret
      exact ⟨rfl, F, ⟨A, c, es, H.out⟩, Turns.refl _ _⟩
    · have h0 : 0 ≤ n := by omega
      go_enter Tryz.func121, Tryz.ntmps121
      go_wp2_with fail
      go_ret
      exact ⟨rfl, F, ⟨A, c, es, H.out⟩, Turns.refl _ _⟩
  · have e : quotaS s n = ({ s with q := n.toNat }, 0) := by unfold quotaS; rw [if_neg hq]
    rw [e]
    obtain ⟨k, rfl⟩ : ∃ k : Nat, n = (k : Int) := ⟨n.toNat, by omega⟩
    have hk : (k : Int) ≤ 1048576 := by omega
    have hB : Box (w.setCell ⟨b, 1, none⟩ (.int .i64 (k : Int))) b 144 (rdC A es.length c k s.armed s.off) := h.box.set 1 _
    have FIN := Lib.hid (show Rk (w.setCell ⟨b, 1, none⟩ (.int .i64 (k : Int))) b F { s with q := k } A c es from h.cells hB (rd_only _ _ _ _) (by omega) h.armed)
    have TU := Lib.hid (h.turn_b (rd_only w b 1 (.int .i64 (k : Int))))
    clear h e hq hB
    go_enter Tryz.func121, Tryz.ntmps121
    go_wp2_with fail
    go_ret
    exact ⟨rfl, F, ⟨A, c, es, by simpa using FIN.out⟩, TU.out⟩
set_option maxHeartbeats 1600000 in
theorem Rk.arm_any (h : Rk w b F s A c es) (n : Int) (h1 : -9223372036854775808 ≤ n) (h2 : n ≤ 9223372036854775807) : Calls Tryz.prog 122 #[dpt b, .int .i64 n] w fun e w' => e = .returned (.int .i64 ((armS s n).2 : Int)) ∧ ∃ F', Rd w' b F' (armS s n).1 ∧ Turns w w' F F' := by
  have c2 : w.cell? ⟨b, 2, none⟩ = some (.int .i64 (s.armed : Int)) := h.box.cell 2 rfl
  have c3 : w.cell? ⟨b, 3, none⟩ = some (.bool s.off) := h.box.cell 3 rfl
  have f2 := h.box.frozen 2
  have hl := h.box.lt
  have H := Lib.hid h
  unfold dpt
  by_cases hq : n < 0
  · have e : armS s n = (s, 1) := by unfold armS; rw [if_pos hq]
    rw [e]
    clear h e
    go_enter Tryz.func122, Tryz.ntmps122
    go_wp2_with fail
    go_ret
    exact ⟨rfl, F, ⟨A, c, es, H.out⟩, Turns.refl _ _⟩
  · obtain ⟨k, rfl⟩ : ∃ k : Nat, n = (k : Int) := ⟨n.toNat, by omega⟩
    cases ho : s.off with
    | true =>
      have e : armS s (k : Int) = (s, 6) := by unfold armS; rw [if_neg hq, ho]; rfl
      rw [e]
      rw [ho] at c3
      clear h e hq
      go_enter Tryz.func122, Tryz.ntmps122
      go_wp2_with fail
      go_ret
      exact ⟨rfl, F, ⟨A, c, es, H.out⟩, Turns.refl _ _⟩
    | false =>
      have e : armS s (k : Int) = ({ s with armed := k }, 0) := by unfold armS; rw [if_neg hq, ho]; simp
      rw [e]
      rw [ho] at c3
      have hB : Box (w.setCell ⟨b, 2, none⟩ (.int .i64 (k : Int))) b 144 (rdC A es.length c s.q k s.off) := h.box.set 2 _
      have FIN := Lib.hid (show Rk (w.setCell ⟨b, 2, none⟩ (.int .i64 (k : Int))) b F { s with armed := k } A c es from h.cells hB (rd_only _ _ _ _) h.q (by omega))
      have TU := Lib.hid (h.turn_b (rd_only w b 2 (.int .i64 (k : Int))))
      clear h e hq hB
      go_enter Tryz.func122, Tryz.ntmps122
      go_wp2_with fail
      go_ret
      exact ⟨rfl, F, ⟨A, c, es, FIN.out⟩, TU.out⟩
set_option maxHeartbeats 1600000 in
theorem Rk.size_any (h : Rk w b F s A c es) (hm : es.length ≤ 70000) (nm : List UInt8) (hnm : nm.length ≤ maxLen) : Calls Tryz.prog 112 #[dpt b, strV nm] w fun e w' => e = .returned (.tuple #[.int .i64 ((sizeS s nm).1 : Int), .int .i64 ((sizeS s nm).2 : Int)]) ∧ Keeps w w' := by
  have c0 : w.cell? ⟨b, 0, none⟩ = some (.slice A es.length c) := h.box.cell 0 rfl
  have c3 : w.cell? ⟨b, 3, none⟩ = some (.bool s.off) := h.box.cell 3 rfl
  have hl := h.box.lt
  have NM := Lib.hid (refName_any nm hnm w)
  cases ho : s.off with
  | true =>
    have e : sizeS s nm = (0, 6) := by unfold sizeS; rw [ho]; rfl
    rw [e]
    rw [ho] at c3
    unfold dpt strV
    clear h e
    go_enter Tryz.func112, Tryz.ntmps112
    go_wp2_with fail
    go_ret2
    exact ⟨rfl, keeps_refl _⟩
  | false =>
    rw [ho] at c3
    cases hn : nameOk nm with
    | false =>
      have e : sizeS s nm = (0, 1) := by unfold sizeS; rw [ho, hn]; rfl
      rw [e]
      rw [hn] at NM
      unfold dpt strV
      clear h e
      go_enter Tryz.func112, Tryz.ntmps112
      go_wp2_with fail
      refine NM.out.mono ?_
      rintro e w' ⟨rfl, rfl⟩
      go_wp2_with fail
      go_ret2
      exact ⟨rfl, keeps_refl _⟩
    | true =>
      rw [hn] at NM
      cases hg : getF s.l nm with
      | none =>
        have e : sizeS s nm = (0, 3) := by unfold sizeS; rw [ho, hn, hg]; rfl
        rw [e]
        have AT := Lib.hid (h.at_none hm hg)
        unfold dpt strV at *
        clear h e
        go_enter Tryz.func112, Tryz.ntmps112
        go_wp2_with fail
        refine NM.out.mono ?_
        rintro e w' ⟨rfl, rfl⟩
        go_wp2_with fail
        refine AT.out.mono ?_
        rintro e w' ⟨rfl, rfl⟩
        go_wp2_with fail
        go_ret2
        exact ⟨rfl, keeps_refl _⟩
      | some f =>
        have e : sizeS s nm = (f.now.length, 0) := by unfold sizeS; rw [ho, hn, hg]; rfl
        rw [e]
        obtain ⟨k, x, hx, rfl, -, at0⟩ := h.at_some hm hg
        have AT := Lib.hid at0
        obtain ⟨g, rfl, q1, -⟩ := h.cell hx 1 (by decide)
        obtain ⟨fo, eo⟩ := h.ok hx
        obtain ⟨A1, c1, e1, -⟩ := eo.now.form
        have q1' : w.cell? ⟨g, k * 4 + 1, none⟩ = some (.slice A1 x.f.now.length c1) := by rw [q1, ← e1]; rfl
        have hkl : (k : Int) < (es.length : Int) := by have := (List.getElem?_eq_some_iff.1 hx).1; omega
        have hkm : (es.length : Int) ≤ 70000 := by omega
        unfold dpt strV at *
        clear q1 hx eo fo e1 hg h e at0 hm
        generalize es.length = n at *
        simp only
        generalize x.f.now.length = m at *
        go_enter Tryz.func112, Tryz.ntmps112
        go_wp2_with fail
        refine NM.out.mono ?_
        rintro e w' ⟨rfl, rfl⟩
        go_wp2_with fail
        refine AT.out.mono ?_
        rintro e w' ⟨rfl, rfl⟩
        go_wp2_with fail
        go_ret2
        exact ⟨rfl, keeps_refl _⟩
end
end Go.Proofs.YtkhfffflegiapaaGreatDoor
/- The reference's disk: Read, Files. -/
namespace Go.Proofs.YtkhfffflegiapaaGreatDoor
open Go.RowKit
set_option linter.unusedSimpArgs false
set_option linter.unusedVariables false
set_option maxRecDepth 100000

theorem info_b8 : (Tryz.prog.info? 5).map (fun i => (i.zero, i.size, i.bytes)) = some (some (.int .u8 0), 1, 1) := by kernel_rfl
theorem sizeU8g : (Tryz.prog.info? 5).map (·.size) = some 1 := by kernel_rfl
theorem own_empty (w : World) (T : TypeId) (size : Nat) : Own (w.alloc (.cells #[] T)) w.heap.size T size (.slice (some ⟨w.heap.size, 0, none⟩) 0 0) 0 [] := ⟨by simp, .inr ⟨w.heap.size, 0, #[], (0, 0), rfl, Nat.le_refl _, heap_alloc_new w _, .inl rfl, Nat.le_refl _, by simp [maxLen], by simp, by simp⟩⟩
section
variable {w w' : World} {b : Nat} {F : Nat → Prop} {s : Ds} {A : Option Addr} {c : Nat} {es : List Ent}
theorem read_err {s : Ds} {nm : List UInt8} {off n : Int} (ho : s.off = false) (hn : nameOk nm = false ∨ off < 0 ∨ n < 0) : readS s nm off n = ([], 1) := by unfold readS; rw [ho]; simp [hn]
set_option maxHeartbeats 4000000 in
theorem Rk.read_any (h : Rk w b F s A c es) (hm : es.length ≤ 70000) (nm : List UInt8) (off n : Int) (hnm : nm.length ≤ maxLen) (h1 : -9223372036854775808 ≤ off) (h2 : off ≤ 9223372036854775807) (h3 : -9223372036854775808 ≤ n) (h4 : n ≤ 9223372036854775807) :
    Calls Tryz.prog 113 #[dpt b, strV nm, .int .i64 off, .int .i64 n] w fun e w' => ∃ v, e = .returned (.tuple #[v, .int .i64 ((readS s nm off n).2 : Int)]) ∧ Own w' w.heap.size 5 1 v (readS s nm off n).1.length (cel (readS s nm off n).1) ∧ Keeps w w' := by
  obtain ⟨i0, hi0, hz0, hz1, hz2⟩ := info_parts info_b8
  have c0 : w.cell? ⟨b, 0, none⟩ = some (.slice A es.length c) := h.box.cell 0 rfl
  have c3 : w.cell? ⟨b, 3, none⟩ = some (.bool s.off) := h.box.cell 3 rfl
  have hl := h.box.lt
  have NM := Lib.hid (refName_any nm hnm w)
  have NIL := Lib.hid (fun (V : World) => Own.nil V w.heap.size 5 1)
  cases ho : s.off with
  | true =>
    have e : readS s nm off n = ([], 6) := by unfold readS; rw [ho]; rfl
    rw [e]
    rw [ho] at c3
    unfold dpt strV
    clear h e
    go_enter Tryz.func113, Tryz.ntmps113
    go_wp2_with fail
    go_ret2
    exact ⟨_, rfl, NIL.out _, keeps_refl _⟩
  | false =>
    rw [ho] at c3
    cases hn : nameOk nm with
    | false =>
      rw [read_err ho (.inl hn)]
      rw [hn] at NM
      unfold dpt strV
      clear h
      go_enter Tryz.func113, Tryz.ntmps113
      go_wp2_with fail
      refine NM.out.mono ?_
      rintro e w' ⟨rfl, rfl⟩
      go_wp2_with fail
      go_ret2
      exact ⟨_, rfl, NIL.out _, keeps_refl _⟩
    | true =>
      rw [hn] at NM
      by_cases hneg : off < 0 ∨ n < 0
      · rw [read_err ho (.inr hneg)]
        unfold dpt strV
        rcases hneg with hneg | hneg
        · clear h
          go_enter Tryz.func113, Tryz.ntmps113
          go_wp2_with fail
          refine NM.out.mono ?_
          rintro e w' ⟨rfl, rfl⟩
          go_wp2_with fail
          go_ret2
          exact ⟨_, rfl, NIL.out _, keeps_refl _⟩
        · by_cases h0 : off < 0
          all_goals
            clear h
            go_enter Tryz.func113, Tryz.ntmps113
            go_wp2_with fail
            refine NM.out.mono ?_
            rintro e w' ⟨rfl, rfl⟩
            go_wp2_with fail
            go_ret2
            exact ⟨_, rfl, NIL.out _, keeps_refl _⟩
      · obtain ⟨o, rfl⟩ : ∃ o : Nat, off = (o : Int) := ⟨off.toNat, by omega⟩
        obtain ⟨m, rfl⟩ : ∃ m : Nat, n = (m : Int) := ⟨n.toNat, by omega⟩
        clear hneg h1 h3
        cases hg : getF s.l nm with
        | none =>
          have e : readS s nm o m = ([], 3) := by unfold readS; rw [ho, hn, hg]; simp
          rw [e]
          have AT := Lib.hid (h.at_none hm hg)
          unfold dpt strV at *
          clear h e
          go_enter Tryz.func113, Tryz.ntmps113
          go_wp2_with fail
          refine NM.out.mono ?_
          rintro e w' ⟨rfl, rfl⟩
          go_wp2_with fail
          refine AT.out.mono ?_
          rintro e w' ⟨rfl, rfl⟩
          go_wp2_with fail
          go_ret2
          exact ⟨_, rfl, NIL.out _, keeps_refl _⟩
        | some f =>
          have e : readS s nm o m = ((f.now.drop o).take m, 0) := by unfold readS; rw [ho, hn, hg]; simp
          rw [e]
          obtain ⟨k, x, hx, rfl, -, at0⟩ := h.at_some hm hg
          have AT := Lib.hid at0
          obtain ⟨g, rfl, q1, -⟩ := h.cell hx 1 (by decide)
          obtain ⟨fo, eo⟩ := h.ok hx
          obtain ⟨A1, c1, e1, hc1, hm1, -⟩ := eo.now.form
          have q1' : w.cell? ⟨g, k * 4 + 1, none⟩ = some (.slice A1 x.f.now.length c1) := by rw [q1, ← e1]; rfl
          have hBs : Bs w A1 x.f.now := by have := eo.now; rw [e1] at this; exact this.at_
          have hsz := fo.size
          have hkl : (k : Int) < (es.length : Int) := by have := (List.getElem?_eq_some_iff.1 hx).1; omega
          have hkm : (es.length : Int) ≤ 70000 := by omega
          unfold dpt strV at *
          clear q1 hx eo fo e1 hg h e at0 hm
          generalize es.length = N at *
          generalize x.f.now = now at *
          obtain ⟨L, hL⟩ : ∃ L, L = now.length := ⟨_, rfl⟩
          obtain ⟨p, hp⟩ : ∃ p, p = min o L := ⟨_, rfl⟩
          obtain ⟨re, hre⟩ : ∃ re, re = L - p := ⟨_, rfl⟩
          obtain ⟨r, hr⟩ : ∃ r, r = min m re := ⟨_, rfl⟩
          obtain ⟨hi, hhi⟩ : ∃ hi, hi = p + r := ⟨_, rfl⟩
          have hB2 : Bs w (dropA A1 c1 p) ((now.drop o).take m) := by
            have h1 := (hBs.dropA rfl hc1 (k := p)).take r
            have e1 : (now.drop p).take r = (now.drop o).take m := by
              by_cases ho2 : o ≤ now.length
              · have : p = o := by omega
                rw [this, hr, hre, this, hL]
                by_cases hm2 : m ≤ now.length - o
                · rw [Nat.min_eq_left hm2]
                · rw [Nat.min_eq_right (by omega), List.take_of_length_le (by rw [List.length_drop]; exact Nat.le_refl _), List.take_of_length_le (by rw [List.length_drop]; omega)]
              · rw [List.drop_eq_nil_of_le (show now.length ≤ o by omega), List.drop_eq_nil_of_le (show now.length ≤ p by omega)]
                simp
            rwa [e1] at h1
          have hlen : r = ((now.drop o).take m).length := by rw [List.length_take, List.length_drop]; omega
          have m1 : ∀ (ts : Array TypeId) (t : TypeId) (w : World), (Builtin.min_ ts t #[.int .i64 (o : Int), .int .i64 (L : Int)]).run Tryz.prog w = .ok (.int .i64 (p : Int)) w := by
            intro ts t w
            rw [run_min_int2]
            congr 2
            split <;> omega
          have m2 : (L : Int) - (p : Int) = (re : Int) := by omega
          have m3 : ∀ (ts : Array TypeId) (t : TypeId) (w : World), (Builtin.min_ ts t #[.int .i64 (m : Int), .int .i64 (re : Int)]).run Tryz.prog w = .ok (.int .i64 (r : Int)) w := by
            intro ts t w
            rw [run_min_int2]
            congr 2
            split <;> omega
          have m4 : (p : Int) + (r : Int) = (hi : Int) := by omega
          have rei : (re : Int) ≤ 16777216 := by omega
          have pi : (p : Int) ≤ 16777216 := by omega
          have ri : (r : Int) ≤ 16777216 := by omega
          have hii : (hi : Int) ≤ 16777216 := by omega
          have hsl := run_lohi (P := Tryz.prog) 22 5 Tryz.underlying22 sizeU8g A1 L c1 p hi (by omega) (by omega)
          have hd2 : hi - p = r := by omega
          rw [hd2] at hsl
          have LM := Lib.hid (show r ≤ 16777216 by omega)
          have HLN := Lib.hid hlen
          have k0 := keeps_alloc w (.cells #[] 5)
          have O0 := Lib.hid (own_empty w 5 1)
          have B2 := Lib.hid (hB2.keep k0)
          have lcel := Lib.hid (cel_length ((now.drop o).take m))
          rw [← hL] at q1'
          clear hp hr hre hhi hBs hB2 hlen hd2 hL hsz
          generalize (now.drop o).take m = out at *
          generalize dropA A1 c1 p = DA at *
          go_enter Tryz.func113, Tryz.ntmps113
          go_wp2_with fail
          refine NM.out.mono ?_
          rintro e w' ⟨rfl, rfl⟩
          go_wp2_with fail
          refine AT.out.mono ?_
          rintro e w' ⟨rfl, rfl⟩
          go_wp2_with (at_builtin; refine wpList_app _ rfl _ _ 22 rfl w.heap.size 5 i0 (.int .u8 0) 1 1 Tryz.underlying22 hi0 hz0 hz1 hz2 rfl (by decide) _ 0 [] rfl O0.out _ DA r (c1 - p) (cel out) rfl (by rw [lcel.out, HLN.out, Nat.mul_one]) B2.out (cel_one out) (by have := LM.out; unfold maxLen; omega) (by have := LM.out; omega) (by simp) ?_; intro v2 w2 hown2 hgrow2 hblk2; have k2 : Keeps w w2 := Below.grown k0 hgrow2 k0.size (fun g hg => (O0.out.lt g hg).1); have HO := Lib.hid (show Own w2 w.heap.size 5 1 v2 out.length (cel out) by have := hown2; rw [HLN.out] at this; simpa using this); clear hown2 hgrow2 hblk2)
          go_ret2
          exact ⟨_, rfl, HO.out, k2⟩
end
end Go.Proofs.YtkhfffflegiapaaGreatDoor
