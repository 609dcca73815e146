/- Package disk: where a whole disk lies in memory. -/
import Derived.Test.YtpbkkbkpodcgnaaDkFile2
import Derived.Test.YtpbkkbkpodcgnaaDiskApart
import Derived.Test.YtpbkkbkpodcgnaaLawDisk2
namespace Go.Proofs.Ytpbkkbkpodcgnaa
open Go.RowKit
set_option linter.unusedSimpArgs false
set_option linter.unusedVariables false
set_option maxRecDepth 100000

/-! ### Files by their names -/
def LooseIn (l : List Fl) (p : List UInt8 × Nat) : Prop := ∃ f ∈ l, f.name = p.1 ∧ f.loose p.2 = true
theorem lt_irr (a : List UInt8) : ¬ a < a := List.lt_irrefl a
theorem names_nodup {l : List Fl} (h : l.Pairwise fun f g => f.name < g.name) : (l.map (·.name)).Nodup := by
  rw [List.nodup_iff_pairwise_ne, List.pairwise_map]
  exact h.imp (fun {a b} hab => fun (e : a.name = b.name) => lt_irr b.name (by rw [e] at hab; exact hab))
theorem getF_of_mem {l : List Fl} (hn : (l.map (·.name)).Nodup) {f : Fl} (hf : f ∈ l) : getF l f.name = some f := by
  induction l with
  | nil => simp at hf
  | cons g l ih =>
    rw [List.map_cons, List.nodup_cons] at hn
    rw [getF_cons]
    rcases List.mem_cons.1 hf with rfl | hf'
    · rw [if_pos rfl]
    · rw [if_neg (fun e => hn.1 (by rw [e]; exact List.mem_map_of_mem hf'))]
      exact ih hn.2 hf'
theorem look_files (l : List Fl) (fb : List UInt8 → Nat) (nm : List UInt8) : lookM (l.map fun f => (f.name, fb f.name)) nm = (getF l nm).map fun f => fb f.name := by
  unfold lookM getF
  rw [List.find?_map]
  cases h : l.find? ((fun p : List UInt8 × Nat => decide (p.1 = nm)) ∘ fun f => (f.name, fb f.name)) with
  | none =>
    have : l.find? (fun f => decide (f.name = nm)) = none := h
    rw [this]
    rfl
  | some f =>
    have : l.find? (fun f => decide (f.name = nm)) = some f := h
    rw [this]
    rfl
theorem mem_setF {l : List Fl} {f' g : Fl} (h : g ∈ setF l f') : (g = f' ∧ ∃ f ∈ l, f.name = f'.name) ∨ (g ∈ l ∧ g.name ≠ f'.name) := by
  obtain ⟨x, hx, he⟩ := List.mem_map.1 h
  by_cases hn : x.name = f'.name
  · rw [if_pos hn] at he
    exact .inl ⟨he.symm, x, hx, hn⟩
  · rw [if_neg hn] at he
    subst he
    exact .inr ⟨hx, hn⟩
theorem setF_self {l : List Fl} {f' f : Fl} (hf : f ∈ l) (hn : f.name = f'.name) : f' ∈ setF l f' := List.mem_map.2 ⟨f, hf, by rw [if_pos hn]⟩
theorem setF_other {l : List Fl} {f' g : Fl} (hg : g ∈ l) (hn : g.name ≠ f'.name) : g ∈ setF l f' := List.mem_map.2 ⟨g, hg, by rw [if_neg hn]⟩
theorem setF_names (l : List Fl) (f' : Fl) : (setF l f').map (·.name) = l.map (·.name) := by
  unfold setF
  rw [List.map_map]
  apply List.map_congr_left
  intro g hg
  simp only [Function.comp]
  split
  · rename_i h; exact h.symm
  · rfl
theorem names_map (l l' : List Fl) (fb : List UInt8 → Nat) (h : l'.map (·.name) = l.map (·.name)) : (l'.map fun f => (f.name, fb f.name)) = l.map fun f => (f.name, fb f.name) := by
  have := congrArg (List.map fun n => (n, fb n)) h
  simpa [List.map_map, Function.comp_def] using this
theorem looseIn_set {l : List Fl} {f f' : Fl} (hn : (l.map (·.name)).Nodup) (hf : f ∈ l) (he : f'.name = f.name) (hl : ∀ k, f'.loose k = f.loose k) (p : List UInt8 × Nat) : LooseIn (setF l f') p ↔ LooseIn l p := by
  constructor
  · rintro ⟨g, hg, h1, h2⟩
    rcases mem_setF hg with ⟨rfl, -⟩ | ⟨hg', -⟩
    · exact ⟨f, hf, by rw [← he]; exact h1, by rw [← hl]; exact h2⟩
    · exact ⟨g, hg', h1, h2⟩
  · rintro ⟨g, hg, h1, h2⟩
    by_cases hgn : g.name = f'.name
    · have : g = f := by
        have e1 := getF_of_mem hn hg
        have e2 := getF_of_mem hn hf
        rw [hgn, he, e2] at e1
        exact (Option.some.inj e1).symm
      subst this
      exact ⟨f', setF_self hg he.symm, by rw [he]; exact h1, by rw [hl]; exact h2⟩
    · exact ⟨g, setF_other hg hgn, h1, h2⟩

/-! ### In memory -/
/-- a disk's files and loose sectors: the maps' blocks, each file's block, and whose each block is -/
structure DkX (w : World) (b : Nat) (F : Nat → Prop) (l : List Fl) (mf ml : Nat) (fb : List UInt8 → Nat) (col : Nat → Option (List UInt8)) : Prop where
  lt : ∀ i, F i → i < w.heap.size
  nb : F b ∧ col b = none
  nf : F mf ∧ col mf = none
  nl : F ml ∧ col ml = none
  ne : mf ≠ ml
  files : FilesM w mf (l.map fun f => (f.name, fb f.name))
  loose : ∃ l2, LooseM w ml l2 ∧ ∀ p, p ∈ l2.map Prod.fst ↔ LooseIn l p
  each : ∀ f ∈ l, ∃ v1 v2, FileAt w (fun i => F i ∧ col i = some f.name) (fb f.name) v1 v2 f.now f.lasts
def paint (w : World) (col : Nat → Option (List UInt8)) (nm : List UInt8) (i : Nat) : Option (List UInt8) := if w.heap.size ≤ i then some nm else col i
theorem paint_old {w : World} {col : Nat → Option (List UInt8)} {nm : List UInt8} {i : Nat} (h : i < w.heap.size) : paint w col nm i = col i := by
  unfold paint
  rw [if_neg (by omega)]
theorem paint_new {w : World} {col : Nat → Option (List UInt8)} {nm : List UInt8} {i : Nat} (h : w.heap.size ≤ i) : paint w col nm i = some nm := by
  unfold paint
  rw [if_pos h]
theorem turns_more {w w' : World} {F S : Nat → Prop} (h : Only w w' S) (hS : ∀ i, S i → F i) : Turns w w' F (more w w' F) :=
  ⟨h.weak hS, fun i hi => by
    rcases hi with hi | ⟨h1, _⟩
    · exact .inl hi
    · exact .inr h1⟩
section
variable {w w' : World} {b : Nat} {F : Nat → Prop} {l : List Fl} {mf ml : Nat} {fb : List UInt8 → Nat} {col : Nat → Option (List UInt8)}
theorem DkX.nodup (h : DkX w b F l mf ml fb col) : (l.map (·.name)).Nodup := by
  have := h.files.once
  simpa [List.map_map, Function.comp_def] using this
theorem DkX.same (h : DkX w b F l mf ml fb col) (hs : ∀ i, F i → w'.heap[i]? = w.heap[i]?) (hsz : w.heap.size ≤ w'.heap.size) : DkX w' b F l mf ml fb col := by
  obtain ⟨l2, h2, h3⟩ := h.loose
  exact ⟨fun i hi => Nat.lt_of_lt_of_le (h.lt i hi) hsz, h.nb, h.nf, h.nl, h.ne, h.files.same (hs _ h.nf.1), ⟨l2, h2.same (hs _ h.nl.1), h3⟩, fun f hf => by
    obtain ⟨v1, v2, q⟩ := h.each f hf
    exact ⟨v1, v2, q.same fun i hi => hs i hi.1⟩⟩
theorem DkX.keep (h : DkX w b F l mf ml fb col) (k : Keeps w w') : DkX w' b F l mf ml fb col := h.same (fun i hi => k.block i (h.lt i hi)) k.size
/-- the blocks of one file -/
abbrev DkX.own (F : Nat → Prop) (col : Nat → Option (List UInt8)) (nm : List UInt8) (i : Nat) : Prop := F i ∧ col i = some nm
/-- one file is another one now -/
theorem DkX.turn (h : DkX w b F l mf ml fb col) {f f' : Fl} (hf : f ∈ l) (hn : f'.name = f.name) (hl : ∀ k, f'.loose k = f.loose k) {v1 v2 : Value} (hO : Only w w' (DkX.own F col f.name)) (hA : FileAt w' (more w w' (DkX.own F col f.name)) (fb f.name) v1 v2 f'.now f'.lasts) :
    DkX w' b (more w w' F) (setF l f') mf ml fb (paint w col f.name) := by
  have hne : ∀ i, F i → col i = none → w'.heap[i]? = w.heap[i]? := fun i hi hc => hO.block i (h.lt i hi) (fun e => by have e := e.2; rw [hc] at e; cases e)
  have hold : ∀ i, F i → paint w col f.name i = col i := fun i hi => paint_old (h.lt i hi)
  obtain ⟨l2, h2, h3⟩ := h.loose
  refine ⟨fun i hi => ?_, ⟨.inl h.nb.1, by rw [hold _ h.nb.1]; exact h.nb.2⟩, ⟨.inl h.nf.1, by rw [hold _ h.nf.1]; exact h.nf.2⟩, ⟨.inl h.nl.1, by rw [hold _ h.nl.1]; exact h.nl.2⟩, h.ne, ?_, ⟨l2, h2.same (hne _ h.nl.1 h.nl.2), fun p => ?_⟩, fun g hg => ?_⟩
  · rcases hi with hi | ⟨_, hi⟩
    · exact Nat.lt_of_lt_of_le (h.lt i hi) hO.size
    · exact hi
  · rw [names_map l _ fb (setF_names l f')]
    exact h.files.same (hne _ h.nf.1 h.nf.2)
  · rw [h3, looseIn_set h.nodup hf hn hl]
  · rcases mem_setF hg with ⟨rfl, -⟩ | ⟨hg', hgn⟩
    · rw [hn]
      exact ⟨v1, v2, hA.wide fun i hi => by
        rcases hi with ⟨hi, hc⟩ | ⟨h1, h2⟩
        · exact ⟨.inl hi, by rw [hold i hi]; exact hc⟩
        · exact ⟨.inr ⟨h1, h2⟩, paint_new h1⟩⟩
    · obtain ⟨u1, u2, q⟩ := h.each g hg'
      refine ⟨u1, u2, (q.same fun i hi => hO.block i (h.lt i hi.1) (fun e => hgn ?_)).wide fun i hi => ⟨.inl hi.1, by rw [hold i hi.1]; exact hi.2⟩⟩
      have := hi.2.symm.trans e.2
      rw [hn]
      exact Option.some.inj this
/-- the map of loose sectors is another one now -/
theorem DkX.mark (h : DkX w b F l mf ml fb col) {l' : List Fl} (hl : l'.map (fun f => (f.name, f.now, f.lasts)) = l.map fun f => (f.name, f.now, f.lasts)) {l2 : List ((List UInt8 × Nat) × Unit)} (hM : LooseM w' ml l2) (hO : Only w w' (fun c => c = ml)) (hm : ∀ p, p ∈ l2.map Prod.fst ↔ LooseIn l' p) :
    DkX w' b F l' mf ml fb col := by
  have hnm : l'.map (·.name) = l.map (·.name) := by
    have := congrArg (List.map Prod.fst) hl
    simpa [List.map_map, Function.comp_def] using this
  have hs : ∀ i, F i → i ≠ ml → w'.heap[i]? = w.heap[i]? := fun i hi hne => hO.block i (h.lt i hi) hne
  refine ⟨fun i hi => Nat.lt_of_lt_of_le (h.lt i hi) hO.size, h.nb, h.nf, h.nl, h.ne, ?_, ⟨l2, hM, hm⟩, fun g hg => ?_⟩
  · rw [names_map l _ fb hnm]
    exact h.files.same (hs _ h.nf.1 h.ne)
  · have h1 : (g.name, g.now, g.lasts) ∈ l.map fun f => (f.name, f.now, f.lasts) := by rw [← hl]; exact List.mem_map.2 ⟨g, hg, rfl⟩
    obtain ⟨f, hf, he⟩ := List.mem_map.1 h1
    simp only [Prod.mk.injEq] at he
    obtain ⟨v1, v2, q⟩ := h.each f hf
    rw [he.1, he.2.1, he.2.2] at q
    exact ⟨v1, v2, q.same fun i hi => hs i hi.1 (fun e => by have hi := hi.2; rw [e, h.nl.2] at hi; cases hi)⟩
theorem DkX.find (h : DkX w b F l mf ml fb col) (nm : List UInt8) : lookM (l.map fun f => (f.name, fb f.name)) nm = (getF l nm).map fun f => fb f.name := look_files l fb nm
theorem DkX.box (h : DkX w b F l mf ml fb col) {cs : Array Value} (hb : Box w b 83 cs) {nm : List UInt8} (hO : Only w w' (DkX.own F col nm)) : Box w' b 83 cs :=
  (hO.block b hb.lt (fun e => by have e := e.2; rw [h.nb.2] at e; cases e)).trans hb
theorem DkX.boxM (h : DkX w b F l mf ml fb col) {cs : Array Value} (hb : Box w b 83 cs) {l2 : List ((List UInt8 × Nat) × Unit)} (hM : LooseM w ml l2) (hO : Only w w' (fun c => c = ml)) : Box w' b 83 cs :=
  (hO.block b hb.lt (hM.ne hb)).trans hb
/-- the disk's own block is written -/
theorem DkX.setB (h : DkX w b F l mf ml fb col) {cs : Array Value} (hb : Box w b 83 cs) (hO : Only w w' (fun c => c = b)) : DkX w' b F l mf ml fb col := by
  have hs : ∀ i, F i → i ≠ b → w'.heap[i]? = w.heap[i]? := fun i hi hne => hO.block i (h.lt i hi) hne
  obtain ⟨l2, h2, h3⟩ := h.loose
  refine ⟨fun i hi => Nat.lt_of_lt_of_le (h.lt i hi) hO.size, h.nb, h.nf, h.nl, h.ne, h.files.same (hs _ h.nf.1 (fun e => h.files.ne hb e.symm)), ⟨l2, h2.same (hs _ h.nl.1 (fun e => h2.ne hb e.symm)), h3⟩, fun f hf => ?_⟩
  obtain ⟨v1, v2, q⟩ := h.each f hf
  exact ⟨v1, v2, q.same fun i hi => hs i hi.1 (fun e => by have hi := hi.2; rw [e, h.nb.2] at hi; cases hi)⟩
end
/-- a whole disk -/
structure Dk (w : World) (b : Nat) (F : Nat → Prop) (s : Ds) : Prop where
  ok : DsOk s
  dead : s.off = true → s.armed = 0
  armed : s.armed ≤ 9223372036854775807
  used : usedL s.l ≤ 1048576
  at_ : ∃ mf ml fb col, Box w b 83 (dkC mf ml s.q s.armed s.off) ∧ DkX w b F s.l mf ml fb col
section
variable {w w' : World} {b : Nat} {F : Nat → Prop} {s : Ds}
theorem Dk.lt (h : Dk w b F s) : ∀ i, F i → i < w.heap.size := by
  obtain ⟨mf, ml, fb, col, hb, hx⟩ := h.at_
  exact hx.lt
theorem Dk.same (h : Dk w b F s) (hs : ∀ i, F i → w'.heap[i]? = w.heap[i]?) (hsz : w.heap.size ≤ w'.heap.size) : Dk w' b F s := by
  obtain ⟨mf, ml, fb, col, hb, hx⟩ := h.at_
  exact ⟨h.ok, h.dead, h.armed, h.used, mf, ml, fb, col, (hs b hx.nb.1).trans hb, hx.same hs hsz⟩
end
end Go.Proofs.Ytpbkkbkpodcgnaa
