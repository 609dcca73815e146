/- Package disk: the loose sectors, sorted. -/
import Derived.Test.YtpbkkbkpodcgnaaDkLess
import Derived.Test.YtpbkkbkpodcgnaaFlat
import Derived.Test.YtpbkkbkpodcgnaaIterP
import Derived.Test.YtpbkkbkpodcgnaaLayPl
namespace Go.Proofs.Ytpbkkbkpodcgnaa
open Go.RowKit Go.Sort Go.Shelf
set_option linter.unusedSimpArgs false
set_option linter.unusedVariables false
set_option maxRecDepth 100000

theorem lt_plE (a b : List UInt8 × Nat) : ltOf plE a b = plLt a b := by
  unfold ltOf
  exact plE_lt a b
theorem swoP : SWO (ltOf plE) where
  irrefl x := by rw [lt_plE]; exact plLt_irr x
  trans x y z h1 h2 := by rw [lt_plE] at *; exact plLt_trans h1 h2
  ntrans x y z h1 h2 := by
    rw [lt_plE] at *
    cases h3 : plLt x z with
    | false => rfl
    | true =>
      rcases plLt_tri x y with h | h | h
      · rw [h] at h1; cases h1
      · subst h; rw [h3] at h2; cases h2
      · rw [plLt_trans h h3] at h2; cases h2
theorem celP_length (p : List UInt8 × Nat) : (celP p).length = 2 := rfl
theorem placesC_length (l : List (List UInt8 × Nat)) : (l.flatMap celP).length = l.length * 2 := by
  induction l with
  | nil => rfl
  | cons a l ih => rw [List.flatMap_cons, List.length_append, ih, celP_length, List.length_cons]; omega
instance : Inhabited (List UInt8 × Nat) := ⟨([], 0)⟩
theorem flatK_placesC (l : List (List UInt8 × Nat)) : (flatK celP 2 l.toArray).toList = l.flatMap celP := by
  apply List.ext_getElem
  · rw [Array.length_toList, size_flatK, placesC_length]; simp
  · intro t h1 h2
    have h3 : t < l.length * 2 := by rw [placesC_length] at h2; exact h2
    have hq : t / 2 < l.length := by omega
    have hm : t % 2 < 2 := Nat.mod_lt _ (by decide)
    have e1 := get_flatK celP 2 l.toArray t (by simpa using h3)
    have e2 : (flatK celP 2 l.toArray)[t]! = (flatK celP 2 l.toArray)[t]'(by simpa using h1) := getElem!_pos _ t (by simpa using h1)
    have e3 : l.toArray[t / 2]! = l[t / 2] := by rw [getElem!_pos l.toArray (t / 2) (by simpa using hq)]; simp
    have e4 : (l.flatMap celP)[t / 2 * 2 + t % 2]? = (celP l[t / 2])[t % 2]? := by
      rw [flatMap_get celP 2 celP_length l hm, List.getElem?_eq_getElem hq]
      rfl
    have e5 : t / 2 * 2 + t % 2 = t := by omega
    rw [e5, List.getElem?_eq_getElem h2, List.getElem?_eq_getElem (by rw [celP_length]; exact hm)] at e4
    have e6 : (celP l[t / 2])[t % 2]! = (celP l[t / 2])[t % 2]'(by rw [celP_length]; exact hm) := getElem!_pos _ _ (by rw [celP_length]; exact hm)
    rw [Array.getElem_toList, ← e2, e1, e3, e6]
    exact (Option.some.inj e4).symm
theorem cmpLaysP (blk off size : Nat) (w : World) : CmpLays Try.prog 43 #[] celP 2 plE blk off size w :=
  fun _ _ _ _ x y => byPlace_any x y _
theorem isAggPl : ∀ w, (isAgg 63).run Try.prog w = .ok true w := Try.isAgg63
theorem sizePl : ∀ w, (Go.sizeOf 63).run Try.prog w = .ok 2 w := Try.sizeOf63
theorem celP_one (p : List UInt8 × Nat) : ∀ v ∈ celP p, v.oneCell' = true := by
  intro v hv
  simp only [celP, List.mem_cons, List.not_mem_nil, or_false] at hv
  rcases hv with rfl | rfl <;> rfl
theorem Own.holdsP {w : World} {base g cap : Nat} {e : TypeId} {l : List (List UInt8 × Nat)} (h : Own w base e 2 (.slice (some ⟨g, 0, none⟩) l.length cap) l.length (l.flatMap celP)) : HoldsK celP 2 w g 0 l.toArray := by
  rcases h.2 with ⟨h0, _⟩ | ⟨g', cap', cur, fz, hv, hb, hg, hz, h1, h2, h3, h4⟩
  · cases h0
  · injection hv with hv1 hv2 hv3
    injection hv1 with hv1
    injection hv1 with hv1
    subst hv1
    subst hv3
    intro j hj
    rw [size_flatK] at hj
    have hj' : j < l.length * 2 := by simpa using hj
    refine ⟨?_, ?_⟩
    · rw [Nat.zero_add, cell_of_row w g j cur e fz hg]
      have e1 : (cur.toList.take (l.length * 2))[j]? = (l.flatMap celP)[j]? := by rw [h4]
      rw [List.getElem?_take_of_lt hj', ← flatK_placesC] at e1
      rw [← Array.getElem?_toList, e1, Array.getElem?_toList]
      have : (flatK celP 2 l.toArray)[j]? = some ((flatK celP 2 l.toArray)[j]'(by rw [size_flatK]; exact hj)) := Array.getElem?_eq_getElem _
      rw [this, getElem!_pos (flatK celP 2 l.toArray) j (by rw [size_flatK]; exact hj)]
      rfl
    · obtain ⟨lo, hi'⟩ := fz
      simp only [World.frozen?, hg, Bool.and_eq_false_iff, decide_eq_false_iff_not]
      rcases hz with hz | hz
      · right; simp only at hz; omega
      · left; simp only at hz; omega
theorem take_putCellsP (cur xs : Array Value) (h : xs.size ≤ cur.size) : (putCells id 0 xs cur).toList.take xs.size = xs.toList := by
  apply List.ext_getElem?
  intro j
  by_cases hj : j < xs.size
  · rw [List.getElem?_take_of_lt hj, Array.getElem?_toList]
    simp [putCells, hj, show j < cur.size by omega]
  · rw [List.getElem?_take_eq_none (by omega), List.getElem?_eq_none (by simp; omega)]
theorem heap_putP {w : World} {g n : Nat} {os : Array Obj} {cur : Array Value} {e : TypeId} {fr : Nat × Nat} (d : Array (List UInt8 × Nat)) (hb : w.heap[g]? = some (.cells cur e fr)) :
    (sortWorldK celP 2 w g 0 n d os).heap[g]? = some (.cells (putCells id 0 (flatK celP 2 d) cur) e fr) := by
  have hg : g < w.heap.size := (Array.getElem?_eq_some_iff.1 hb).1
  unfold sortWorldK putRowK
  rw [heap_grow_old _ _ (by simpa using hg)]
  simp [putRow, mapBlock, Sort.ahead, Array.getElem?_modify, hb, onCells]
theorem only_putP {w : World} {g n : Nat} {os : Array Obj} (d : Array (List UInt8 × Nat)) : Only w (sortWorldK celP 2 w g 0 n d os) (fun c => c = g) := by
  refine ⟨rfl, rfl, rfl, by simp [sortWorldK, putRowK], fun k hk hne => ?_⟩
  unfold sortWorldK putRowK
  rw [heap_grow_old _ _ (by simpa using hk)]
  simp [putRow, mapBlock, Sort.ahead, Array.getElem?_modify, Ne.symm hne]
theorem Own.sortedP {w : World} {base g cap n : Nat} {e : TypeId} {os : Array Obj} {l l' : List (List UInt8 × Nat)} (h : Own w base e 2 (.slice (some ⟨g, 0, none⟩) l.length cap) l.length (l.flatMap celP)) (hl : l'.length = l.length) :
    Own (sortWorldK celP 2 w g 0 n l'.toArray os) base e 2 (.slice (some ⟨g, 0, none⟩) l.length cap) l.length (l'.flatMap celP) := by
  refine ⟨by rw [placesC_length, hl], ?_⟩
  rcases h.2 with ⟨h0, _⟩ | ⟨g', cap', cur, fz, hv, hb, hg, hz, h1, h2, h3, h4⟩
  · cases h0
  · injection hv with hv1 hv2 hv3
    injection hv1 with hv1
    injection hv1 with hv1
    subst hv1
    subst hv3
    have hs : (flatK celP 2 l'.toArray).size = l.length * 2 := by rw [size_flatK]; simp [hl]
    have hle : l.length * 2 ≤ cap * 2 := Nat.mul_le_mul_right 2 h1
    refine .inr ⟨g, cap, _, fz, rfl, hb, heap_putP _ hg, ?_, h1, h2, by simp [putCells, h3], ?_⟩
    · rcases hz with hz | hz
      · exact .inl hz
      · right; simpa [putCells] using hz
    · rw [← hs, take_putCellsP cur _ (by rw [hs, h3]; exact hle), flatK_placesC]
/-! ### Two lists of places -/
def RiseP (l : List (List UInt8 × Nat)) : Prop := l.Pairwise fun a b => plLt a b = true
theorem rise_eq {l m : List (List UInt8 × Nat)} (hl : RiseP l) (hm : RiseP m) (hp : l.Perm m) : l = m :=
  List.Perm.eq_of_pairwise (le := fun a b => plLt a b = true) (fun a b _ _ h1 h2 => by have h3 := plLt_trans h1 h2; rw [plLt_irr] at h3; cases h3) hl hm hp
theorem rise_places {l : List Fl} (h : l.Pairwise fun f g => f.name < g.name) : RiseP (placesL l) := by
  unfold RiseP placesL
  induction l with
  | nil => simp
  | cons f l ih =>
    rw [List.pairwise_cons] at h
    rw [List.flatMap_cons, List.pairwise_append]
    refine ⟨?_, ih h.2, ?_⟩
    · rw [List.pairwise_map]
      unfold looseF
      refine List.Pairwise.filter _ ?_
      exact List.pairwise_lt_range.imp fun {a b} hab => by
        unfold plLt
        exact decide_eq_true (.inr ⟨rfl, hab⟩)
    · intro p hp q hq
      obtain ⟨i, -, rfl⟩ := List.mem_map.1 hp
      obtain ⟨g, hg, hq⟩ := List.mem_flatMap.1 hq
      obtain ⟨j, -, rfl⟩ := List.mem_map.1 hq
      unfold plLt
      exact decide_eq_true (.inl (h.1 g hg))
theorem mem_places {l : List Fl} (h : ∀ f ∈ l, FlOk f) (p : List UInt8 × Nat) : p ∈ placesL l ↔ LooseIn l p := by
  unfold placesL LooseIn looseF
  simp only [List.mem_flatMap, List.mem_map, List.mem_filter, List.mem_range]
  constructor
  · rintro ⟨f, hf, k, ⟨h1, h2⟩, rfl⟩
    exact ⟨f, hf, rfl, h2⟩
  · rintro ⟨f, hf, h1, h2⟩
    exact ⟨f, hf, p.2, ⟨(h f hf).loose _ h2, h2⟩, Prod.ext h1 rfl⟩
theorem nodup_rise {l : List (List UInt8 × Nat)} (h : RiseP l) : l.Nodup := by
  rw [List.nodup_iff_pairwise_ne]
  exact h.imp fun {a b} hab e => by rw [e, plLt_irr] at hab; cases hab
set_option maxHeartbeats 4000000 in
theorem sortP_any (g cap base : Nat) (l : List (List UInt8 × Nat)) (w : World) (ho : l.Nodup) (hown : Own w base 63 2 (.slice (some ⟨g, 0, none⟩) l.length cap) l.length (l.flatMap celP)) (hl : l.length < 4611686018427387904) :
    Calls Try.prog 65 #[.slice (some ⟨g, 0, none⟩) l.length cap, .func (.func 43) #[] #[]] w fun e w' => e = .returned (.tuple #[]) ∧ ∃ l' : List (List UInt8 × Nat), l.Perm l' ∧ RiseP l' ∧ Own w' base 63 2 (.slice (some ⟨g, 0, none⟩) l.length cap) l.length (l'.flatMap celP) ∧ Only w w' (fun c => c = g) := by
  have eg : ∀ args w, (callFunc 43 args).run Try.prog w = .ok (.enter 43 args) w := enters_of Try.func43 (by kernel_rfl) rfl
  have hg := (hown.lt g rfl).2
  have hcon := AnyQ.slices_SortFunc sortPl 2 isAggPl sizePl celP celP_length celP_one plE swoP 43 #[] g 0 cap l.toArray w eg (cmpLaysP g 0 l.toArray.size w) hown.holdsP hg (by simpa using hl)
  have e1 : l.toArray.size = l.length := by simp
  rw [e1] at hcon
  refine Calls.mono hcon ?_
  rintro e w' ⟨rfl, d', n, os, hp, hs, rfl⟩
  obtain ⟨p1, -, p3⟩ := hp
  have hsz : d'.size = l.length := by rw [p1, e1]
  have p4 : d'.toList.Perm l := by
    have x1 : (d'.extract 0 l.length).toList = d'.toList := by rw [← hsz]; simp
    have x2 : (l.toArray.extract 0 l.length).toList = l := by simp
    rw [x1, x2] at p3
    exact p3
  have hd : d' = d'.toList.toArray := by simp
  have hno : d'.toList.Nodup := p4.nodup_iff.2 ho
  refine ⟨rfl, d'.toList, p4.symm, ?_, ?_, only_putP _⟩
  · unfold RiseP
    rw [List.nodup_iff_pairwise_ne, List.pairwise_iff_getElem] at hno
    rw [List.pairwise_iff_getElem]
    intro i j hi hj hij
    have h1 := hs i j (Nat.zero_le _) hij (by rw [← hsz]; simpa using hj)
    rw [lt_plE] at h1
    have e3 : d'[i]! = d'.toList[i] := by rw [getElem!_pos d' i (by simpa using hi)]; simp
    have e4 : d'[j]! = d'.toList[j] := by rw [getElem!_pos d' j (by simpa using hj)]; simp
    rw [e3, e4] at h1
    rcases plLt_tri d'.toList[i] d'.toList[j] with h | h | h
    · exact h
    · exact absurd h (hno i j hi hj hij)
    · rw [h] at h1; cases h1
  · have := hown.sortedP (n := n) (os := os) (l' := d'.toList) (by simpa using hsz)
    rw [← hd] at this
    exact this
end Go.Proofs.Ytpbkkbkpodcgnaa
