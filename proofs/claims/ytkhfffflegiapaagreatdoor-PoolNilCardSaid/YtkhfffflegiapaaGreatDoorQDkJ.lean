/- Package disk: the closure that gathers what is moved. -/
import Derived.Test.YtkhfffflegiapaaGreatDoorQDkG
import Derived.Test.YtkhfffflegiapaaGreatDoorQDkI
namespace Go.Proofs.YtkhfffflegiapaaGreatDoor
open Go.RowKit Go.Shelf
set_option linter.unusedSimpArgs false
set_option linter.unusedVariables false
set_option maxRecDepth 100000

theorem info_place : (Tryz.prog.info? 121).map (fun i => (i.zero, i.size, i.bytes)) = some (some (.agg #[.string ⟨#[]⟩, .int .i64 0]), 2, 24) := by kernel_rfl
/-- what is moved of those met -/
def movL (a c : List UInt8) (pre : List Pl) : List Pl := (pre.filter fun p => decide (p.1 = a)).map fun p => (c, p.2)
theorem movL_yes {a c : List UInt8} {pre : List Pl} {x : Pl} (h : x.1 = a) : movL a c (pre ++ [x]) = movL a c pre ++ [(c, x.2)] := by
  unfold movL
  rw [List.filter_append, List.map_append]
  simp [h]
theorem movL_no {a c : List UInt8} {pre : List Pl} {x : Pl} (h : x.1 ≠ a) : movL a c (pre ++ [x]) = movL a c pre := by
  unfold movL
  rw [List.filter_append, List.map_append]
  simp [h]
theorem movL_len (a c : List UInt8) (pre : List Pl) : (movL a c pre).length ≤ pre.length := by
  unfold movL
  rw [List.length_map]
  exact List.length_filter_le _ _
theorem mem_movL (a c : List UInt8) (pre : List Pl) (p : Pl) : p ∈ movL a c pre ↔ p.1 = c ∧ (a, p.2) ∈ pre := by
  unfold movL
  rw [List.mem_map]
  constructor
  · rintro ⟨q, hq, rfl⟩
    obtain ⟨h1, h2⟩ := List.mem_filter.1 hq
    have h3 := of_decide_eq_true h2
    exact ⟨rfl, by rw [← h3]; exact h1⟩
  · rintro ⟨h1, h2⟩
    exact ⟨(a, p.2), List.mem_filter.2 ⟨h2, decide_eq_true rfl⟩, Prod.ext h1.symm rfl⟩
/-- the closure's own: two names, and the slice of what is moved -/
def MoveJ (B bf bm bt : Nat) (a c : List UInt8) (pre : List Pl) (T : Nat → Prop) (W : World) : Prop :=
  ∃ v, Box W bf 9 #[.string (str a)] ∧ Box W bt 9 #[.string (str c)] ∧ Box W bm 52 #[v] ∧ Own W B 121 2 v (movL a c pre).length ((movL a c pre).flatMap celP) ∧ T = fun x => x = bf ∨ x = bt ∨ x = bm ∨ v.ownBlock = some x
theorem Own.not_box2 {w : World} {base size : Nat} {e t : TypeId} {v : Value} {n : Nat} {xs : List Value} {b : Nat} {cs : Array Value} (h : Own w base e size v n xs) (hb : Box w b t cs) (hne : t ≠ e) : v.ownBlock ≠ some b := by
  intro hv
  rcases h.2 with ⟨rfl, _⟩ | ⟨g, cap, cur, fz, rfl, _, hg, _⟩
  · simp [Value.ownBlock] at hv
  · simp only [Value.ownBlock, Option.some.injEq] at hv
    subst hv
    exact row_ne hb hg hne rfl
theorem moveJ_same {B bf bm bt : Nat} {a c : List UInt8} : ∀ pre T W W', MoveJ B bf bm bt a c pre T W → (∀ i, T i → W'.heap[i]? = W.heap[i]?) → W.heap.size ≤ W'.heap.size → MoveJ B bf bm bt a c pre T W' := by
  rintro pre T W W' ⟨v, h1, h2, h3, h4, rfl⟩ hs hsz
  exact ⟨v, (hs bf (.inl rfl)).trans h1, (hs bt (.inr (.inl rfl))).trans h2, (hs bm (.inr (.inr (.inl rfl)))).trans h3, h4.same fun k hk => hs k (.inr (.inr (.inr hk))), rfl⟩
theorem moveJ_lt {B bf bm bt : Nat} {a c : List UInt8} : ∀ pre T W, MoveJ B bf bm bt a c pre T W → ∀ i, T i → i < W.heap.size := by
  rintro pre T W ⟨v, h1, h2, h3, h4, rfl⟩ i hi
  rcases hi with rfl | rfl | rfl | hi
  · exact h1.lt
  · exact h2.lt
  · exact h3.lt
  · exact (h4.lt i hi).2
theorem str_place : 9 ≠ 121 := by decide
theorem sl_place : 52 ≠ 121 := by decide
end Go.Proofs.YtkhfffflegiapaaGreatDoor
/- Package disk: Rename. -/
namespace Go.Proofs.YtkhfffflegiapaaGreatDoor
open Go.RowKit Go.Shelf
set_option linter.unusedSimpArgs false
set_option linter.unusedVariables false
set_option maxRecDepth 100000

section
variable {w w' : World} {b : Nat} {F : Nat → Prop} {s : Ds}
theorem DkX.rename {l : List Fl} {mf ml : Nat} {fb : List UInt8 → Nat} {col : Nat → Option (List UInt8)} (h : DkX w b F l mf ml fb col) {a c : List UInt8} {f : Fl} (hg : getF l a = some f) (hM : FilesM w' mf (putM (delM (l.map fun f => (f.name, fb f.name)) a) c (fb f.name)))
    (hL : ∃ l3, LooseM w' ml l3 ∧ ∀ p, p ∈ l3.map Prod.fst ↔ (p.1 ≠ a ∧ p.1 ≠ c ∧ LooseIn l p) ∨ (p.1 = c ∧ f.loose p.2 = true)) (hO : Only w w' (fun i => i = mf ∨ i = ml ∨ ¬ F i)) :
    DkX w' b F (putF (delF (delF l a) c) { f with name := c }) mf ml (fun n => if n = c then fb a else fb n) (fun i => if col i = some a then some c else if col i = some c then none else col i) := by
  have hfn := getF_name hg
  have hfm := getF_mem hg
  have hmem : ∀ {g : Fl}, g ∈ putF (delF (delF l a) c) { f with name := c } ↔ g = { f with name := c } ∨ (g ∈ l ∧ g.name ≠ a ∧ g.name ≠ c) := fun {g} => by
    rw [(putF_perm _ _).mem_iff, List.mem_cons]
    unfold delF
    rw [List.mem_filter, List.mem_filter]
    simp only [decide_eq_true_eq]
    constructor
    · rintro (h | ⟨⟨h1, h2⟩, h3⟩)
      · exact .inl h
      · exact .inr ⟨h1, h2, h3⟩
    · rintro (h | ⟨h1, h2, h3⟩)
      · exact .inl h
      · exact .inr ⟨⟨h1, h2⟩, h3⟩
  refine ⟨fun i hi => Nat.lt_of_lt_of_le (h.lt i hi) hO.size, ⟨h.nb.1, ?_⟩, ⟨h.nf.1, ?_⟩, ⟨h.nl.1, ?_⟩, h.ne, ?_, ?_, fun g hg' => ?_⟩
  · rw [h.nb.2]; rfl
  · rw [h.nf.2]; rfl
  · rw [h.nl.2]; rfl
  · refine hM.perm ?_
    refine List.Perm.trans ?_ ((putF_perm (delF (delF l a) c) { f with name := c }).map fun g => (g.name, if g.name = c then fb a else fb g.name)).symm
    rw [List.map_cons]
    unfold putM
    have e1 : delM (delM (l.map fun f => (f.name, fb f.name)) a) c = (delF (delF l a) c).map fun f => (f.name, fb f.name) := by
      unfold delM delF
      rw [List.filter_map, List.filter_map]
      rfl
    have e2 : ((delF (delF l a) c).map fun g => (g.name, if g.name = c then fb a else fb g.name)) = (delF (delF l a) c).map fun f => (f.name, fb f.name) := by
      apply List.map_congr_left
      intro g hg'
      have h1 := of_decide_eq_true (List.mem_filter.1 hg').2
      rw [if_neg h1]
    rw [e1, e2, hfn]
    simp
  · obtain ⟨l3, h1, h2⟩ := hL
    refine ⟨l3, h1, fun p => (h2 p).trans ?_⟩
    constructor
    · rintro (⟨q1, q2, g, hg', g1, g2⟩ | ⟨q1, q2⟩)
      · exact ⟨g, hmem.2 (.inr ⟨hg', by rw [g1]; exact q1, by rw [g1]; exact q2⟩), g1, g2⟩
      · exact ⟨{ f with name := c }, hmem.2 (.inl rfl), q1.symm, q2⟩
    · rintro ⟨g, hg', g1, g2⟩
      rcases hmem.1 hg' with rfl | ⟨h3, h4, h5⟩
      · exact .inr ⟨g1.symm, g2⟩
      · exact .inl ⟨by rw [← g1]; exact h4, by rw [← g1]; exact h5, g, h3, g1, g2⟩
  · have hs : ∀ {nm : List UInt8} {k : Nat} {v1 v2 : Value} {x y : List UInt8}, FileAt w (DkX.own F col nm) k v1 v2 x y → FileAt w' (DkX.own F col nm) k v1 v2 x y := fun {nm k v1 v2 x y} q => q.same fun i hi => hO.block i (h.lt i hi.1) (fun e => by
      rcases e with e | e | e
      · have := hi.2; rw [e, h.nf.2] at this; cases this
      · have := hi.2; rw [e, h.nl.2] at this; cases this
      · exact e hi.1)
    rcases hmem.1 hg' with rfl | ⟨h3, h4, h5⟩
    · obtain ⟨v1, v2, q⟩ := h.each f hfm
      refine ⟨v1, v2, ?_⟩
      simp only [if_true]
      rw [← hfn]
      exact (hs q).wide fun i hi => ⟨hi.1, by rw [hi.2, hfn]; simp⟩
    · obtain ⟨v1, v2, q⟩ := h.each g h3
      refine ⟨v1, v2, ?_⟩
      rw [if_neg h5]
      refine (hs q).wide fun i hi => ⟨hi.1, ?_⟩
      rw [hi.2, if_neg (fun e => h4 (Option.some.inj e)), if_neg (fun e => h5 (Option.some.inj e))]
theorem put_all (l : List (Pl × Unit)) (k : Pl) : ∀ p, p ∈ (putM l k ()).map Prod.fst ↔ p = k ∨ p ∈ l.map Prod.fst := putM_keys l k
end
end Go.Proofs.YtkhfffflegiapaaGreatDoor
