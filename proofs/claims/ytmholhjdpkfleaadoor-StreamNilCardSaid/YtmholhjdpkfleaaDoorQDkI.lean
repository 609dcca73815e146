/- maps.Keys and slices.Collect at a map whose keys are places: what comes is each key once, in some order. -/
import Derived.Test.YtmholhjdpkfleaaDoorQIter
import Derived.Test.YtmholhjdpkfleaaDoorQDkA
import Derived.Shelf.Abstract
import Derived.Test.YtmholhjdpkfleaaDoorQDkC
import Derived.Lib.Bytealg
import Derived.Laws.Externs
import Derived.Sort.Grow
import Derived.Deep.RegionHeld3
import Derived.Test.YtmholhjdpkfleaaDoorQBase
import Derived.Test.YtmholhjdpkfleaaDoorQLaySt
import Derived.Shelf.SlSortCmp.NoneTotal
import Derived.Test.YtmholhjdpkfleaaDoorQDkG
namespace Go.Proofs.YtmholhjdpkfleaaDoor
open Go.RowKit Go.Shelf
set_option linter.unusedSimpArgs false
set_option linter.unusedVariables false
set_option maxRecDepth 100000

def encP (x : List UInt8 × Nat) : Value := (.agg #[.string (str x.1), .int .i64 (x.2 : Int)])
def celP (x : List UInt8 × Nat) : List Value := [.string (str x.1), .int .i64 (x.2 : Int)]
theorem infoP : (Tryd.prog.info? 79).map (fun i => (i.zero, i.size, i.bytes)) = some (some (.agg #[.string ⟨#[]⟩, .int .i64 0]), 2, 24) := by kernel_rfl
theorem own_mapP {W W' : World} {b : Nat} {es : List ((List UInt8 × Nat) × Unit)} (h : MapW plV unV W b es) (k : Below W.heap.size W W') : MapW plV unV W' b es := h.keep k

/-! ### slices.AppendSeq(nil, seq) -/
def apAP : Code := Code.region 2 #[{ dst := some 5, op := Op.alloc 79, type := 0, pos := "iter.go:51", after := #[], guard := none }, { dst := none, op := Op.store 79 (Operand.tmp 5) (Operand.tmp 7), type := 0, pos := "iter.go:51", after := #[{ on := 0, ground := Ground.data }, { on := 0, ground := Ground.phase }], guard := none }] false
end Go.Proofs.YtmholhjdpkfleaaDoor
/- Package disk: the order of loose sectors, as the library's sort asks for it. -/
namespace Go.Proofs.YtmholhjdpkfleaaDoor
open Go.RowKit Go.Sort
set_option linter.unusedSimpArgs false
set_option linter.unusedVariables false
set_option maxRecDepth 100000

/-- how two numbers lie -/
def numC (a b : Nat) : Int := if a < b then -1 else if b < a then 1 else 0
theorem isNaNi_any (x : Nat) (w : World) : Calls Tryd.prog 79 #[.int .i64 x] w fun e w' => e = .returned (.bool false) ∧ w = w' := by
  go_enter Tryd.func79, Tryd.ntmps79
  go_wp2_with fail
  go_ret
  exact ⟨by simp, rfl⟩
set_option maxHeartbeats 4000000 in
theorem compareI_any (a b : Nat) (w : World) : Calls Tryd.prog 68 #[.int .i64 a, .int .i64 b] w fun e w' => e = .returned (.int .i64 (numC a b)) ∧ w = w' := by
  have N := Lib.hid isNaNi_any
  by_cases h1 : a < b
  · have e : numC a b = -1 := by unfold numC; rw [if_pos h1]
    rw [e]
    have h1' : (a : Int) < (b : Int) := by omega
    clear e h1
    go_enter Tryd.func68, Tryd.ntmps68
    go_wp2_with (go_at_call 79; refine (N.out _ _).mono ?_; rintro e w' ⟨rfl, rfl⟩)
    go_ret
    exact ⟨rfl, rfl⟩
  · by_cases h2 : b < a
    · have e : numC a b = 1 := by unfold numC; rw [if_neg h1, if_pos h2]
      rw [e]
      have h1' : ¬ (a : Int) < (b : Int) := by omega
      have h2' : (b : Int) < (a : Int) := by omega
      clear e h1 h2
      go_enter Tryd.func68, Tryd.ntmps68
      go_wp2_with (go_at_call 79; refine (N.out _ _).mono ?_; rintro e w' ⟨rfl, rfl⟩)
      go_ret
      exact ⟨rfl, rfl⟩
    · have e : numC a b = 0 := by unfold numC; rw [if_neg h1, if_neg h2]
      rw [e]
      have h1' : ¬ (a : Int) < (b : Int) := by omega
      have h2' : ¬ (b : Int) < (a : Int) := by omega
      clear e h1 h2
      go_enter Tryd.func68, Tryd.ntmps68
      go_wp2_with (go_at_call 79; refine (N.out _ _).mono ?_; rintro e w' ⟨rfl, rfl⟩)
      go_ret
      exact ⟨rfl, rfl⟩
/-- the first one that is not 0 -/
def firstI (x y : Int) : Int := if x = 0 then y else x
/-- how two sectors lie -/
def plE (a b : List UInt8 × Nat) : Int := firstI (Lib.compareBytes a.1 b.1) (numC a.2 b.2)
/-! ### The order itself -/
theorem cmpB_spec : ∀ a b : List UInt8, (Lib.compareBytes a b < 0 ↔ a < b) ∧ (Lib.compareBytes a b = 0 ↔ a = b)
  | [], [] => by simp [Lib.compareBytes]
  | [], b :: ys => by simp [Lib.compareBytes]
  | a :: xs, [] => by simp [Lib.compareBytes]
  | a :: xs, b :: ys => by
    have ih := cmpB_spec xs ys
    unfold Lib.compareBytes
    rw [List.cons_lt_cons_iff]
    by_cases h1 : a < b
    · have hne : a ≠ b := fun e => by rw [e] at h1; exact UInt8.lt_irrefl b h1
      simp [h1, hne]
    · by_cases h2 : b < a
      · have hne : a ≠ b := fun e => by rw [e] at h2; exact UInt8.lt_irrefl b h2
        simp [h1, h2, hne]
      · have he : a = b := UInt8.le_antisymm (UInt8.not_lt.1 h2) (UInt8.not_lt.1 h1)
        subst he
        simp only [h1, if_false, false_or, true_and, List.cons.injEq]
        exact ih
def plLt (a b : List UInt8 × Nat) : Bool := decide (a.1 < b.1 ∨ (a.1 = b.1 ∧ a.2 < b.2))
theorem plE_lt (a b : List UInt8 × Nat) : decide (plE a b < 0) = plLt a b := by
  obtain ⟨h1, h2⟩ := cmpB_spec a.1 b.1
  unfold plLt plE firstI numC
  by_cases e : a.1 = b.1
  · have e0 := h2.2 e
    have hn : ¬ a.1 < b.1 := by rw [e]; exact lt_irr b.1
    rw [if_pos e0]
    simp only [e, true_and]
    rw [Bool.eq_iff_iff, decide_eq_true_iff, decide_eq_true_iff]
    have := lt_irr b.1
    split
    · simp [*]
    · split <;> simp [*]
  · have e0 : ¬ Lib.compareBytes a.1 b.1 = 0 := fun q => e (h2.1 q)
    rw [if_neg e0]
    simp only [e, false_and, or_false]
    rw [Bool.eq_iff_iff, decide_eq_true_iff, decide_eq_true_iff]
    exact h1
theorem plLt_irr (a : List UInt8 × Nat) : plLt a a = false := by
  unfold plLt
  have := lt_irr a.1
  simp [this]
theorem str_tri (a b : List UInt8) : a < b ∨ a = b ∨ b < a := by
  by_cases h1 : a < b
  · exact .inl h1
  · by_cases h2 : b < a
    · exact .inr (.inr h2)
    · exact .inr (.inl (List.le_antisymm (List.not_lt.1 h2) (List.not_lt.1 h1)))
theorem plLt_trans {a b c : List UInt8 × Nat} (h1 : plLt a b = true) (h2 : plLt b c = true) : plLt a c = true := by
  unfold plLt at *
  rw [decide_eq_true_iff] at *
  rcases h1 with h1 | ⟨e1, h1⟩ <;> rcases h2 with h2 | ⟨e2, h2⟩
  · exact .inl (List.lt_trans h1 h2)
  · rw [e2] at h1; exact .inl h1
  · rw [← e1] at h2; exact .inl h2
  · exact .inr ⟨e1.trans e2, by omega⟩
theorem plLt_tri (a b : List UInt8 × Nat) : plLt a b = true ∨ a = b ∨ plLt b a = true := by
  unfold plLt
  rw [decide_eq_true_iff, decide_eq_true_iff]
  rcases str_tri a.1 b.1 with h | h | h
  · exact .inl (.inl h)
  · rcases Nat.lt_trichotomy a.2 b.2 with h3 | h3 | h3
    · exact .inl (.inr ⟨h, h3⟩)
    · exact .inr (.inl (Prod.ext h h3))
    · exact .inr (.inr (.inr ⟨h.symm, h3⟩))
  · exact .inr (.inr (.inl h))
end Go.Proofs.YtmholhjdpkfleaaDoor
/- Package disk: the loose sectors, sorted. -/
namespace Go.Proofs.YtmholhjdpkfleaaDoor
open Go.RowKit Go.Sort Go.Shelf
set_option linter.unusedSimpArgs false
set_option linter.unusedVariables false
set_option maxRecDepth 100000

theorem lt_plE (a b : List UInt8 × Nat) : ltOf plE a b = plLt a b := by
  unfold ltOf
  exact plE_lt a b
theorem swoP : SWO (ltOf plE) where
  irrefl x := by rw [lt_plE]; exact plLt_irr x
  trans x y z h1 h2 := by rw [lt_plE] at *; exact plLt_trans h1 h2
  ntrans x y z h1 h2 := by
    rw [lt_plE] at *
    cases h3 : plLt x z with
    | false => rfl
    | true =>
      rcases plLt_tri x y with h | h | h
      · rw [h] at h1; cases h1
      · subst h; rw [h3] at h2; cases h2
      · rw [plLt_trans h h3] at h2; cases h2
theorem celP_length (p : List UInt8 × Nat) : (celP p).length = 2 := rfl
theorem placesC_length (l : List (List UInt8 × Nat)) : (l.flatMap celP).length = l.length * 2 := by
  induction l with
  | nil => rfl
  | cons a l ih => rw [List.flatMap_cons, List.length_append, ih, celP_length, List.length_cons]; omega
instance : Inhabited (List UInt8 × Nat) := ⟨([], 0)⟩
theorem flatK_placesC (l : List (List UInt8 × Nat)) : (flatK celP 2 l.toArray).toList = l.flatMap celP := by
  apply List.ext_getElem
  · rw [Array.length_toList, size_flatK, placesC_length]; simp
  · intro t h1 h2
    have h3 : t < l.length * 2 := by rw [placesC_length] at h2; exact h2
    have hq : t / 2 < l.length := by omega
    have hm : t % 2 < 2 := Nat.mod_lt _ (by decide)
    have e1 := get_flatK celP 2 l.toArray t (by simpa using h3)
    have e2 : (flatK celP 2 l.toArray)[t]! = (flatK celP 2 l.toArray)[t]'(by simpa using h1) := getElem!_pos _ t (by simpa using h1)
    have e3 : l.toArray[t / 2]! = l[t / 2] := by rw [getElem!_pos l.toArray (t / 2) (by simpa using hq)]; simp
    have e4 : (l.flatMap celP)[t / 2 * 2 + t % 2]? = (celP l[t / 2])[t % 2]? := by
      rw [flatMap_get celP 2 celP_length l hm, List.getElem?_eq_getElem hq]
      rfl
    have e5 : t / 2 * 2 + t % 2 = t := by omega
    rw [e5, List.getElem?_eq_getElem h2, List.getElem?_eq_getElem (by rw [celP_length]; exact hm)] at e4
    have e6 : (celP l[t / 2])[t % 2]! = (celP l[t / 2])[t % 2]'(by rw [celP_length]; exact hm) := getElem!_pos _ _ (by rw [celP_length]; exact hm)
    rw [Array.getElem_toList, ← e2, e1, e3, e6]
    exact (Option.some.inj e4).symm
theorem isAggPl : ∀ w, (isAgg 79).run Tryd.prog w = .ok true w := Tryd.isAgg79
theorem sizePl : ∀ w, (Go.sizeOf 79).run Tryd.prog w = .ok 2 w := Tryd.sizeOf79
theorem celP_one (p : List UInt8 × Nat) : ∀ v ∈ celP p, v.oneCell' = true := by
  intro v hv
  simp only [celP, List.mem_cons, List.not_mem_nil, or_false] at hv
  rcases hv with rfl | rfl <;> rfl
theorem Own.holdsP {w : World} {base g cap : Nat} {e : TypeId} {l : List (List UInt8 × Nat)} (h : Own w base e 2 (.slice (some ⟨g, 0, none⟩) l.length cap) l.length (l.flatMap celP)) : HoldsK celP 2 w g 0 l.toArray := by
  rcases h.2 with ⟨h0, _⟩ | ⟨g', cap', cur, fz, hv, hb, hg, hz, h1, h2, h3, h4⟩
  · cases h0
  · injection hv with hv1 hv2 hv3
    injection hv1 with hv1
    injection hv1 with hv1
    subst hv1
    subst hv3
    intro j hj
    rw [size_flatK] at hj
    have hj' : j < l.length * 2 := by simpa using hj
    refine ⟨?_, ?_⟩
    · rw [Nat.zero_add, cell_of_row w g j cur e fz hg]
      have e1 : (cur.toList.take (l.length * 2))[j]? = (l.flatMap celP)[j]? := by rw [h4]
      rw [List.getElem?_take_of_lt hj', ← flatK_placesC] at e1
      rw [← Array.getElem?_toList, e1, Array.getElem?_toList]
      have : (flatK celP 2 l.toArray)[j]? = some ((flatK celP 2 l.toArray)[j]'(by rw [size_flatK]; exact hj)) := Array.getElem?_eq_getElem _
      rw [this, getElem!_pos (flatK celP 2 l.toArray) j (by rw [size_flatK]; exact hj)]
      rfl
    · obtain ⟨lo, hi'⟩ := fz
      simp only [World.frozen?, hg, Bool.and_eq_false_iff, decide_eq_false_iff_not]
      rcases hz with hz | hz
      · right; simp only at hz; omega
      · left; simp only at hz; omega
theorem take_putCellsP (cur xs : Array Value) (h : xs.size ≤ cur.size) : (putCells id 0 xs cur).toList.take xs.size = xs.toList := by
  apply List.ext_getElem?
  intro j
  by_cases hj : j < xs.size
  · rw [List.getElem?_take_of_lt hj, Array.getElem?_toList]
    simp [putCells, hj, show j < cur.size by omega]
  · rw [List.getElem?_take_eq_none (by omega), List.getElem?_eq_none (by simp; omega)]
theorem heap_putP {w : World} {g n : Nat} {os : Array Obj} {cur : Array Value} {e : TypeId} {fr : Nat × Nat} (d : Array (List UInt8 × Nat)) (hb : w.heap[g]? = some (.cells cur e fr)) :
    (sortWorldK celP 2 w g 0 n d os).heap[g]? = some (.cells (putCells id 0 (flatK celP 2 d) cur) e fr) := by
  have hg : g < w.heap.size := (Array.getElem?_eq_some_iff.1 hb).1
  unfold sortWorldK putRowK
  rw [heap_grow_old _ _ (by simpa using hg)]
  simp [putRow, mapBlock, Sort.ahead, Array.getElem?_modify, hb, onCells]
theorem only_putP {w : World} {g n : Nat} {os : Array Obj} (d : Array (List UInt8 × Nat)) : Only w (sortWorldK celP 2 w g 0 n d os) (fun c => c = g) := by
  refine ⟨rfl, rfl, rfl, by simp [sortWorldK, putRowK], fun k hk hne => ?_⟩
  unfold sortWorldK putRowK
  rw [heap_grow_old _ _ (by simpa using hk)]
  simp [putRow, mapBlock, Sort.ahead, Array.getElem?_modify, Ne.symm hne]
theorem Own.sortedP {w : World} {base g cap n : Nat} {e : TypeId} {os : Array Obj} {l l' : List (List UInt8 × Nat)} (h : Own w base e 2 (.slice (some ⟨g, 0, none⟩) l.length cap) l.length (l.flatMap celP)) (hl : l'.length = l.length) :
    Own (sortWorldK celP 2 w g 0 n l'.toArray os) base e 2 (.slice (some ⟨g, 0, none⟩) l.length cap) l.length (l'.flatMap celP) := by
  refine ⟨by rw [placesC_length, hl], ?_⟩
  rcases h.2 with ⟨h0, _⟩ | ⟨g', cap', cur, fz, hv, hb, hg, hz, h1, h2, h3, h4⟩
  · cases h0
  · injection hv with hv1 hv2 hv3
    injection hv1 with hv1
    injection hv1 with hv1
    subst hv1
    subst hv3
    have hs : (flatK celP 2 l'.toArray).size = l.length * 2 := by rw [size_flatK]; simp [hl]
    have hle : l.length * 2 ≤ cap * 2 := Nat.mul_le_mul_right 2 h1
    refine .inr ⟨g, cap, _, fz, rfl, hb, heap_putP _ hg, ?_, h1, h2, by simp [putCells, h3], ?_⟩
    · rcases hz with hz | hz
      · exact .inl hz
      · right; simpa [putCells] using hz
    · rw [← hs, take_putCellsP cur _ (by rw [hs, h3]; exact hle), flatK_placesC]
/-! ### Two lists of places -/
def RiseP (l : List (List UInt8 × Nat)) : Prop := l.Pairwise fun a b => plLt a b = true
theorem rise_eq {l m : List (List UInt8 × Nat)} (hl : RiseP l) (hm : RiseP m) (hp : l.Perm m) : l = m :=
  List.Perm.eq_of_pairwise (le := fun a b => plLt a b = true) (fun a b _ _ h1 h2 => by have h3 := plLt_trans h1 h2; rw [plLt_irr] at h3; cases h3) hl hm hp
theorem rise_places {l : List Fl} (h : l.Pairwise fun f g => f.name < g.name) : RiseP (placesL l) := by
  unfold RiseP placesL
  induction l with
  | nil => simp
  | cons f l ih =>
    rw [List.pairwise_cons] at h
    rw [List.flatMap_cons, List.pairwise_append]
    refine ⟨?_, ih h.2, ?_⟩
    · rw [List.pairwise_map]
      unfold looseF
      refine List.Pairwise.filter _ ?_
      exact List.pairwise_lt_range.imp fun {a b} hab => by
        unfold plLt
        exact decide_eq_true (.inr ⟨rfl, hab⟩)
    · intro p hp q hq
      obtain ⟨i, -, rfl⟩ := List.mem_map.1 hp
      obtain ⟨g, hg, hq⟩ := List.mem_flatMap.1 hq
      obtain ⟨j, -, rfl⟩ := List.mem_map.1 hq
      unfold plLt
      exact decide_eq_true (.inl (h.1 g hg))
theorem mem_places {l : List Fl} (h : ∀ f ∈ l, FlOk f) (p : List UInt8 × Nat) : p ∈ placesL l ↔ LooseIn l p := by
  unfold placesL LooseIn looseF
  simp only [List.mem_flatMap, List.mem_map, List.mem_filter, List.mem_range]
  constructor
  · rintro ⟨f, hf, k, ⟨h1, h2⟩, rfl⟩
    exact ⟨f, hf, rfl, h2⟩
  · rintro ⟨f, hf, h1, h2⟩
    exact ⟨f, hf, p.2, ⟨(h f hf).loose _ h2, h2⟩, Prod.ext h1 rfl⟩
theorem nodup_rise {l : List (List UInt8 × Nat)} (h : RiseP l) : l.Nodup := by
  rw [List.nodup_iff_pairwise_ne]
  exact h.imp fun {a b} hab e => by rw [e, plLt_irr] at hab; cases hab
end Go.Proofs.YtmholhjdpkfleaaDoor
/- Package disk: Loose. -/
namespace Go.Proofs.YtmholhjdpkfleaaDoor
open Go.RowKit Go.Sort
set_option linter.unusedSimpArgs false
set_option linter.unusedVariables false
set_option maxRecDepth 100000

theorem places_length_le (l : List Fl) : (placesL l).length ≤ usedL l := by
  unfold placesL usedL
  induction l with
  | nil => simp
  | cons f l ih =>
    rw [List.flatMap_cons, List.length_append, List.length_map, List.map_cons, List.sum_cons]
    have : (looseF f).length ≤ sect f.now.length := by
      unfold looseF
      exact Nat.le_trans (List.length_filter_le _ _) (by rw [List.length_range]; exact Nat.le_refl _)
    omega
theorem placeC_cel (l : List (List UInt8 × Nat)) : l.flatMap placeC = l.flatMap celP := rfl
/-- the map's keys are the loose sectors -/
theorem keys_places {s : Ds} (h : DsOk s) {K : List (List UInt8 × Nat)} (hn : K.Nodup) (hm : ∀ p, p ∈ K ↔ LooseIn s.l p) : K.Perm (placesL s.l) :=
  (List.perm_ext_iff_of_nodup hn (nodup_rise (rise_places h.rise))).2 fun p => (hm p).trans (mem_places h.files p).symm
end Go.Proofs.YtmholhjdpkfleaaDoor
/- Package disk: the closure that gathers what is moved. -/
namespace Go.Proofs.YtmholhjdpkfleaaDoor
open Go.RowKit Go.Shelf
set_option linter.unusedSimpArgs false
set_option linter.unusedVariables false
set_option maxRecDepth 100000

theorem info_place : (Tryd.prog.info? 79).map (fun i => (i.zero, i.size, i.bytes)) = some (some (.agg #[.string ⟨#[]⟩, .int .i64 0]), 2, 24) := by kernel_rfl
/-- what is moved of those met -/
def movL (a c : List UInt8) (pre : List Pl) : List Pl := (pre.filter fun p => decide (p.1 = a)).map fun p => (c, p.2)
theorem movL_yes {a c : List UInt8} {pre : List Pl} {x : Pl} (h : x.1 = a) : movL a c (pre ++ [x]) = movL a c pre ++ [(c, x.2)] := by
  unfold movL
  rw [List.filter_append, List.map_append]
  simp [h]
theorem movL_no {a c : List UInt8} {pre : List Pl} {x : Pl} (h : x.1 ≠ a) : movL a c (pre ++ [x]) = movL a c pre := by
  unfold movL
  rw [List.filter_append, List.map_append]
  simp [h]
theorem movL_len (a c : List UInt8) (pre : List Pl) : (movL a c pre).length ≤ pre.length := by
  unfold movL
  rw [List.length_map]
  exact List.length_filter_le _ _
theorem mem_movL (a c : List UInt8) (pre : List Pl) (p : Pl) : p ∈ movL a c pre ↔ p.1 = c ∧ (a, p.2) ∈ pre := by
  unfold movL
  rw [List.mem_map]
  constructor
  · rintro ⟨q, hq, rfl⟩
    obtain ⟨h1, h2⟩ := List.mem_filter.1 hq
    have h3 := of_decide_eq_true h2
    exact ⟨rfl, by rw [← h3]; exact h1⟩
  · rintro ⟨h1, h2⟩
    exact ⟨(a, p.2), List.mem_filter.2 ⟨h2, decide_eq_true rfl⟩, Prod.ext h1.symm rfl⟩
theorem Own.not_box2 {w : World} {base size : Nat} {e t : TypeId} {v : Value} {n : Nat} {xs : List Value} {b : Nat} {cs : Array Value} (h : Own w base e size v n xs) (hb : Box w b t cs) (hne : t ≠ e) : v.ownBlock ≠ some b := by
  intro hv
  rcases h.2 with ⟨rfl, _⟩ | ⟨g, cap, cur, fz, rfl, _, hg, _⟩
  · simp [Value.ownBlock] at hv
  · simp only [Value.ownBlock, Option.some.injEq] at hv
    subst hv
    exact row_ne hb hg hne rfl
theorem str_place : 9 ≠ 79 := by decide
end Go.Proofs.YtmholhjdpkfleaaDoor
/- Package disk: Rename. -/
namespace Go.Proofs.YtmholhjdpkfleaaDoor
open Go.RowKit Go.Shelf
set_option linter.unusedSimpArgs false
set_option linter.unusedVariables false
set_option maxRecDepth 100000

section
variable {w w' : World} {b : Nat} {F : Nat → Prop} {s : Ds}
theorem DkX.rename {l : List Fl} {mf ml : Nat} {fb : List UInt8 → Nat} {col : Nat → Option (List UInt8)} (h : DkX w b F l mf ml fb col) {a c : List UInt8} {f : Fl} (hg : getF l a = some f) (hM : FilesM w' mf (putM (delM (l.map fun f => (f.name, fb f.name)) a) c (fb f.name)))
    (hL : ∃ l3, LooseM w' ml l3 ∧ ∀ p, p ∈ l3.map Prod.fst ↔ (p.1 ≠ a ∧ p.1 ≠ c ∧ LooseIn l p) ∨ (p.1 = c ∧ f.loose p.2 = true)) (hO : Only w w' (fun i => i = mf ∨ i = ml ∨ ¬ F i)) :
    DkX w' b F (putF (delF (delF l a) c) { f with name := c }) mf ml (fun n => if n = c then fb a else fb n) (fun i => if col i = some a then some c else if col i = some c then none else col i) := by
  have hfn := getF_name hg
  have hfm := getF_mem hg
  have hmem : ∀ {g : Fl}, g ∈ putF (delF (delF l a) c) { f with name := c } ↔ g = { f with name := c } ∨ (g ∈ l ∧ g.name ≠ a ∧ g.name ≠ c) := fun {g} => by
    rw [(putF_perm _ _).mem_iff, List.mem_cons]
    unfold delF
    rw [List.mem_filter, List.mem_filter]
    simp only [decide_eq_true_eq]
    constructor
    · rintro (h | ⟨⟨h1, h2⟩, h3⟩)
      · exact .inl h
      · exact .inr ⟨h1, h2, h3⟩
    · rintro (h | ⟨h1, h2, h3⟩)
      · exact .inl h
      · exact .inr ⟨⟨h1, h2⟩, h3⟩
  refine ⟨fun i hi => Nat.lt_of_lt_of_le (h.lt i hi) hO.size, ⟨h.nb.1, ?_⟩, ⟨h.nf.1, ?_⟩, ⟨h.nl.1, ?_⟩, h.ne, ?_, ?_, fun g hg' => ?_⟩
  · rw [h.nb.2]; rfl
  · rw [h.nf.2]; rfl
  · rw [h.nl.2]; rfl
  · refine hM.perm ?_
    refine List.Perm.trans ?_ ((putF_perm (delF (delF l a) c) { f with name := c }).map fun g => (g.name, if g.name = c then fb a else fb g.name)).symm
    rw [List.map_cons]
    unfold putM
    have e1 : delM (delM (l.map fun f => (f.name, fb f.name)) a) c = (delF (delF l a) c).map fun f => (f.name, fb f.name) := by
      unfold delM delF
      rw [List.filter_map, List.filter_map]
      rfl
    have e2 : ((delF (delF l a) c).map fun g => (g.name, if g.name = c then fb a else fb g.name)) = (delF (delF l a) c).map fun f => (f.name, fb f.name) := by
      apply List.map_congr_left
      intro g hg'
      have h1 := of_decide_eq_true (List.mem_filter.1 hg').2
      rw [if_neg h1]
    rw [e1, e2, hfn]
    simp
  · obtain ⟨l3, h1, h2⟩ := hL
    refine ⟨l3, h1, fun p => (h2 p).trans ?_⟩
    constructor
    · rintro (⟨q1, q2, g, hg', g1, g2⟩ | ⟨q1, q2⟩)
      · exact ⟨g, hmem.2 (.inr ⟨hg', by rw [g1]; exact q1, by rw [g1]; exact q2⟩), g1, g2⟩
      · exact ⟨{ f with name := c }, hmem.2 (.inl rfl), q1.symm, q2⟩
    · rintro ⟨g, hg', g1, g2⟩
      rcases hmem.1 hg' with rfl | ⟨h3, h4, h5⟩
      · exact .inr ⟨g1.symm, g2⟩
      · exact .inl ⟨by rw [← g1]; exact h4, by rw [← g1]; exact h5, g, h3, g1, g2⟩
  · have hs : ∀ {nm : List UInt8} {k : Nat} {v1 v2 : Value} {x y : List UInt8}, FileAt w (DkX.own F col nm) k v1 v2 x y → FileAt w' (DkX.own F col nm) k v1 v2 x y := fun {nm k v1 v2 x y} q => q.same fun i hi => hO.block i (h.lt i hi.1) (fun e => by
      rcases e with e | e | e
      · have := hi.2; rw [e, h.nf.2] at this; cases this
      · have := hi.2; rw [e, h.nl.2] at this; cases this
      · exact e hi.1)
    rcases hmem.1 hg' with rfl | ⟨h3, h4, h5⟩
    · obtain ⟨v1, v2, q⟩ := h.each f hfm
      refine ⟨v1, v2, ?_⟩
      simp only [if_true]
      rw [← hfn]
      exact (hs q).wide fun i hi => ⟨hi.1, by rw [hi.2, hfn]; simp⟩
    · obtain ⟨v1, v2, q⟩ := h.each g h3
      refine ⟨v1, v2, ?_⟩
      rw [if_neg h5]
      refine (hs q).wide fun i hi => ⟨hi.1, ?_⟩
      rw [hi.2, if_neg (fun e => h4 (Option.some.inj e)), if_neg (fun e => h5 (Option.some.inj e))]
theorem put_all (l : List (Pl × Unit)) (k : Pl) : ∀ p, p ∈ (putM l k ()).map Prod.fst ↔ p = k ∨ p ∈ l.map Prod.fst := putM_keys l k
end
end Go.Proofs.YtmholhjdpkfleaaDoor
