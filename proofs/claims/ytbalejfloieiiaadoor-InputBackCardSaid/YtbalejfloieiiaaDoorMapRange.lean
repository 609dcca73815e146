/- A map of edges by pairs that a call made, looked up, stored into, counted and ranged over: the laws at the operations, of no program. -/
import Derived.Test.YtbalejfloieiiaaDoorMapE
import Derived.Maps.RangeRun
import Derived.Maps.RangeWalk
import Derived.Maps.OwnSet
namespace Go.Proofs.YtbalejfloieiiaaDoor
open Go.RowKit
open Go.ChangeMaps (setBlock)
set_option linter.unusedSimpArgs false
set_option linter.unusedVariables false
set_option maxRecDepth 100000

theorem MapAt.lt {w : World} {b : Nat} {l : List Ed} (h : MapAt w b l) : b < w.heap.size := by
  obtain ⟨⟨es, clock, hb, -⟩, -⟩ := h
  exact (Array.getElem?_eq_some_iff.1 hb).1
theorem MapAt.same {w w' : World} {b : Nat} {l : List Ed} (h : MapAt w b l) (hk : w'.heap[b]? = w.heap[b]?) : MapAt w' b l := by
  obtain ⟨⟨es, clock, hb, r⟩, o⟩ := h
  exact ⟨⟨es, clock, hk.trans hb, r⟩, o⟩
theorem MapAt.keep {w w' : World} {b : Nat} {l : List Ed} (h : MapAt w b l) (k : Keeps w w') : MapAt w' b l := h.same (k.block b h.lt)
theorem MapAt.new (w : World) : MapAt (w.alloc (.map #[] 0)) w.heap.size [] :=
  ⟨⟨#[], 0, heap_alloc_new w _, rfl, by simp, by simp⟩, List.Pairwise.nil⟩
theorem find_mem {l : List Ed} {x y : Ed} (h : l.find? (prB x) = some y) : y ∈ l ∧ Pair x y := ⟨List.mem_of_find?_eq_some h, (prB_true _ _).1 (List.find?_some h)⟩
theorem find_not {l : List Ed} {x : Ed} (h : l.find? (prB x) = none) : ∀ y ∈ l, ¬ Pair x y := fun y hy hp => by
  have := List.find?_eq_none.1 h y hy
  rw [(prB_true _ _).2 hp] at this
  exact absurd rfl this

/-- a range over the map in block b goes on: block r is its iterator, these edges are still to come -/
structure Iter (w : World) (b r : Nat) (l lf : List Ed) : Prop where
  here : ∃ es clock since seen c0, w.heap[b]? = some (.map es clock) ∧ Ents es.toList l ∧ (∀ e ∈ es.toList, e.born < since) ∧ es.toList.Pairwise (fun x y => x.born ≠ y.born) ∧ w.heap[r]? = some (.mapIter (some b) since seen c0) ∧ since ≤ c0 ∧ since ≤ clock ∧ Ents (leftOf es seen).toList lf
theorem Iter.left_eq {w : World} {b r : Nat} {l lf : List Ed} (h : Iter w b r l lf) : w.rangeLeft b r = lf.length := by
  obtain ⟨es, clock, since, seen, c0, hb, -, -, -, hr, -, -, hl⟩ := h.here
  simp only [World.rangeLeft, hb, hr]
  have := congrArg List.length hl
  simpa using this
theorem Iter.same {w w' : World} {b r : Nat} {l lf : List Ed} (h : Iter w b r l lf) (hb : w'.heap[b]? = w.heap[b]?) (hr : w'.heap[r]? = w.heap[r]?) : Iter w' b r l lf := by
  obtain ⟨es, clock, since, seen, c0, h1, h2, h3, h4, h5, h6⟩ := h.here
  exact ⟨es, clock, since, seen, c0, hb.trans h1, h2, h3, h4, hr.trans h5, h6⟩
theorem Iter.lt {w : World} {b r : Nat} {l lf : List Ed} (h : Iter w b r l lf) : b < w.heap.size ∧ r < w.heap.size := by
  obtain ⟨es, clock, since, seen, c0, h1, h2, h3, h4, h5, h6⟩ := h.here
  exact ⟨(Array.getElem?_eq_some_iff.1 h1).1, (Array.getElem?_eq_some_iff.1 h5).1⟩
theorem Iter.keep {w w' : World} {b r : Nat} {l lf : List Ed} (h : Iter w b r l lf) (k : Keeps w w') : Iter w' b r l lf := h.same (k.block b h.lt.1) (k.block r h.lt.2)
/-- a row of one's own lies elsewhere -/
theorem Iter.apart {w : World} {b r : Nat} {l lf : List Ed} (h : Iter w b r l lf) {g : Nat} {cs : Array Value} {t : TypeId} {fz : Nat × Nat} (hg : w.heap[g]? = some (.cells cs t fz)) : g ≠ b ∧ g ≠ r := by
  obtain ⟨es, clock, since, seen, c0, h1, h2, h3, h4, h5, h6⟩ := h.here
  exact ⟨fun e => (by rw [e, h1] at hg; cases hg), fun e => (by rw [e, h5] at hg; cases hg)⟩
theorem edV_inj {a b : Ed} (h : edV a = edV b) : a = b := by
  cases a; cases b
  simp only [edV, edA, Value.agg.injEq, Array.mk.injEq, List.cons.injEq, Value.int.injEq, true_and, and_true] at h
  obtain ⟨h1, h2, h3, h4⟩ := h
  congr <;> omega
theorem ents_mem {es : List MapEntry} {l : List Ed} (h : Ents es l) {x : MapEntry} (hx : x ∈ es) : ∃ e ∈ l, x.key = prK e ∧ x.val = edV e := by
  have : (x.key, x.val) ∈ l.map fun e => (prK e, edV e) := by rw [← h]; exact List.mem_map.2 ⟨x, hx, rfl⟩
  obtain ⟨e, he, heq⟩ := List.mem_map.1 this
  injection heq with h1 h2
  exact ⟨e, he, h1.symm, h2.symm⟩
theorem ents_perm {es : List MapEntry} {l : List Ed} (h : Ents es l) {x : MapEntry} {e : Ed} {r : List MapEntry} (hp : es.Perm (x :: r)) (hk : x.key = prK e) (hv : x.val = edV e) (hall : ∀ y ∈ r, ∃ f, y.key = prK f ∧ y.val = edV f) : ∃ l', l.Perm (e :: l') ∧ Ents r l' := by
  -- the rest's edges
  have hr : ∃ l', Ents r l' := by
    clear hp
    induction r with
    | nil => exact ⟨[], rfl⟩
    | cons y r ih =>
      obtain ⟨l', hl'⟩ := ih (fun z hz => hall z (by simp [hz]))
      obtain ⟨f, h1, h2⟩ := hall y (by simp)
      exact ⟨f :: l', by unfold Ents at *; simp [hl', h1, h2]⟩
  obtain ⟨l', hl'⟩ := hr
  refine ⟨l', ?_, hl'⟩
  have h1 : (es.map fun y => (y.key, y.val)).Perm ((x :: r).map fun y => (y.key, y.val)) := hp.map _
  unfold Ents at h hl'
  rw [h, List.map_cons, hl', hk, hv] at h1
  -- the pairs tell the edges
  have h2 := (h1.map Prod.snd)
  simp only [List.map_map, List.map_cons] at h2
  have h3 : (l.map edV).Perm ((e :: l').map edV) := by simpa [Function.comp_def] using h2
  have inj : ∀ (a : List Ed) (b : List Ed), (a.map edV).Perm (b.map edV) → a.Perm b := fun a b hab => by
    let num : Option Value → Nat := fun v => match v with
      | some (.int _ t) => t.toNat
      | _ => 0
    let inv : Value → Ed := fun v => match v with
      | .agg cs => ⟨num cs[0]?, num cs[1]?, num cs[2]?, num cs[3]?⟩
      | _ => ⟨0, 0, 0, 0⟩
    have hi : ∀ z : Ed, inv (edV z) = z := fun z => by simp [inv, num, edV, edA]
    have := hab.map inv
    simp only [List.map_map] at this
    have e1 : ∀ c : List Ed, c.map (inv ∘ edV) = c := fun c => by
      rw [show (inv ∘ edV) = id from funext hi]; simp
    rwa [e1, e1] at this
  exact inj _ _ h3
theorem left_step (es : Array MapEntry) (seen : Array Nat) (e : MapEntry) (he : e ∈ (leftOf es seen).toList) (hn : es.toList.Pairwise (fun x y => x.born ≠ y.born)) : (leftOf es seen).toList.Perm (e :: (leftOf es (seen.push e.born)).toList) := by
  have e1 : (leftOf es (seen.push e.born)).toList = (leftOf es seen).toList.filter fun x => !(x.born == e.born) := by
    unfold leftOf
    rw [Array.toList_filter, Array.toList_filter, List.filter_filter]
    congr 1
    funext x
    simp only [Array.contains_push, Bool.not_or, Bool.and_comm]
  rw [e1]
  have hn' : (leftOf es seen).toList.Pairwise (fun x y => x.born ≠ y.born) := by
    unfold leftOf
    rw [Array.toList_filter]
    exact hn.filter _
  generalize (leftOf es seen).toList = L at he hn'
  clear e1 hn
  induction L with
  | nil => simp at he
  | cons x L ih =>
    obtain ⟨p1, p2⟩ := List.pairwise_cons.1 hn'
    rcases List.mem_cons.1 he with rfl | he'
    · have : L.filter (fun x => !(x.born == e.born)) = L := List.filter_eq_self.2 fun y hy => by
        have := p1 y hy
        simp [Ne.symm this]
      simp [this]
    · have hx : x.born ≠ e.born := p1 e he'
      rw [List.filter_cons_of_pos (by simp [hx])]
      exact ((ih he' p2).cons x).trans (List.Perm.swap e x _)

section
variable {P : Program} {M K E V : TypeId}
theorem run_rangeE (T : MapT P M K E V) {w : World} {b : Nat} {l : List Ed} (h : MapAt w b l) :
    ∃ w', (Instr.range M (.map (some b))).run P w = .ok (.pointer (some ⟨w.heap.size, 0, none⟩)) w' ∧ Iter w' b w.heap.size l l ∧ Keeps w w' ∧ w'.heap.size = w.heap.size + 1 := by
  have hlt := h.lt
  obtain ⟨⟨es, clock, hb, he, hbo, hbp⟩, ho⟩ := h
  refine ⟨_, run_range_map w M K V b es clock T.m hb, ⟨es, clock, clock, #[], clock, ((MapKept.heap_alloc w _).2 b hlt).trans hb, he, hbo, hbp, (MapKept.heap_alloc w _).1, Nat.le_refl _, Nat.le_refl _, ?_⟩, keeps_alloc _ _, by simp⟩
  have : (leftOf es #[]).toList = es.toList := by simp [leftOf]
  rw [this]
  exact he
theorem run_nextE {w : World} {b r : Nat} {l lf : List Ed} (h : Iter w b r l lf) (ty : TypeId) :
    (lf = [] ∧ (Instr.next (.pointer (some ⟨r, 0, none⟩)) false ty).run P w = .ok (.tuple #[.bool false]) w) ∨
    ∃ e lf' w', lf.Perm (e :: lf') ∧ (Instr.next (.pointer (some ⟨r, 0, none⟩)) false ty).run P w = .ok (.tuple #[.bool true, prK e, edV e]) w' ∧ Iter w' b r l lf' ∧ Only w w' (fun c => c = r) ∧
      (Instr.entry (.pointer (some ⟨r, 0, none⟩))).run P w' = .ok (.tuple #[prK e, edV e]) w' := by
  obtain ⟨es, clock, since, seen, c0, hb, he, hbo, hbp, hr, hsc, hsk, hl⟩ := h.here
  have hne : r ≠ b := fun e => by rw [e, hb] at hr; cases hr
  rcases run_next_at (P := P) w ty r b since c0 seen es clock hr hb hbo hsc with ⟨h0, hrun⟩ | ⟨x, hx, w1, hal, hrun⟩
  · left
    refine ⟨?_, hrun⟩
    have : (leftOf es seen).toList = [] := List.eq_nil_of_length_eq_zero (by simpa using h0)
    rw [this] at hl
    cases lf with
    | nil => rfl
    | cons => simp [Ents] at hl
  · right
    obtain ⟨hxm, hxs⟩ := mem_left hx
    obtain ⟨e, -, hk, hv⟩ := ents_mem hl hx
    have hp := left_step es seen x hx hbp
    obtain ⟨lf', hpl, hl'⟩ := ents_perm hl hp hk hv (fun y hy => by
      obtain ⟨f, -, h1, h2⟩ := ents_mem he (mem_left hy).1
      exact ⟨f, h1, h2⟩)
    have hr1 : w1.heap[r]? = some (.mapIter (some b) since seen c0) := by rcases hal with rfl | rfl <;> exact hr
    have hb1 : w1.heap[b]? = some (.map es clock) := by rcases hal with rfl | rfl <;> exact hb
    have hset := MapKept.heap_set (o' := .mapIter (some b) since (seen.push x.born) clock) hr1
    have hb' : (setBlock w1 r (.mapIter (some b) since (seen.push x.born) clock)).heap[b]? = some (.map es clock) := (hset.2 b (fun e1 => hne e1.symm)).trans hb1
    rw [hk, hv] at hrun
    refine ⟨e, lf', _, hpl, hrun, ⟨es, clock, since, seen.push x.born, clock, hb', he, hbo, hbp, hset.1, hsk, hsk, hl'⟩, ?_, ?_⟩
    · rcases hal with rfl | rfl <;> exact ⟨rfl, rfl, rfl, by simp [setBlock], fun i _ hi => hset.2 i (fun e1 => hi e1)⟩
    · have hnd : (es.toList.map (·.born)).Nodup := by rw [List.nodup_iff_pairwise_ne, List.pairwise_map]; exact hbp
      have := run_entry_at (P := P) _ r b since seen es clock x hset.1 hb' hxm hnd
      rw [hk, hv] at this
      exact this
end
section
variable {P : Program} {M K E V : TypeId} (w : World) {ops : Array Oper} {rest : List Oper} {o : Oper} {a : Act} {Q : Exit → Act → World → Prop}
theorem wpList_look_none (hg : o.guard = none) (m x : Operand) (hop : o.op = Op.lookup M m x true) (T : MapT P M K E V) (b : Nat) (l : List Ed) (hm : a.eval m = .map (some b)) (h : MapAt w b l) (e : Ed) (hx : a.eval x = prK e) (hf : l.find? (prB e) = none)
    (hK : wpList P ops Q rest (a.put o.dst (.tuple #[.agg #[.int .u32 0, .int .u32 0, .int .u64 0, .int .u32 0], .bool false])) w) : wpList P ops Q (o :: rest) a w := by
  refine wpList_plain hg fun K' hK' => ?_
  have hrun := run_lookE T h e
  rw [hf] at hrun
  unfold Oper.wp
  simp [execOp, hop, hm, hx, hrun, Result.andThen]
  exact hK' _ _ hK
theorem wpList_look_some (hg : o.guard = none) (m x : Operand) (hop : o.op = Op.lookup M m x true) (T : MapT P M K E V) (b : Nat) (l : List Ed) (hm : a.eval m = .map (some b)) (h : MapAt w b l) (e y : Ed) (hx : a.eval x = prK e) (hf : l.find? (prB e) = some y)
    (hK : wpList P ops Q rest (a.put o.dst (.tuple #[.agg #[.int .u32 (y.t : Int), .int .u32 (y.h : Int), .int .u64 (y.x : Int), .int .u32 (y.m : Int)], .bool true])) w) : wpList P ops Q (o :: rest) a w := by
  refine wpList_plain hg fun K' hK' => ?_
  have hrun := run_lookE T h e
  rw [hf] at hrun
  unfold Oper.wp
  simp [execOp, hop, hm, hx, hrun, Result.andThen]
  exact hK' _ _ hK
theorem wpList_put_E (hg : o.guard = none) (m x v : Operand) (hop : o.op = Op.mapUpdate M m x v) (T : MapT P M K E V) (b : Nat) (l : List Ed) (hm : a.eval m = .map (some b)) (h : MapAt w b l) (e : Ed) (hx : a.eval x = prK e) (hv : a.eval v = edV e)
    (hK : ∀ w', MapAt w' b (putL l e) → Only w w' (fun c => c = b) → wpList P ops Q rest (a.put o.dst undef) w') : wpList P ops Q (o :: rest) a w := by
  refine wpList_plain hg fun K' hK' => ?_
  obtain ⟨w', hrun, r1, r2⟩ := run_updE T h e
  unfold Oper.wp
  simp [execOp, hop, hm, hx, hv, hrun, Result.andThen]
  exact hK' _ _ (hK w' r1 r2)
theorem wpList_len_E (hg : o.guard = none) (m : Operand) (hop : o.op = Op.call { callee := Callee.builtin Builtin.len, args := #[m], argTypes := #[M] }) (T : MapT P M K E V) (b : Nat) (l : List Ed) (hm : a.eval m = .map (some b)) (h : MapAt w b l)
    (hK : wpList P ops Q rest (a.put o.dst (.int .i64 (l.length : Nat))) w) : wpList P ops Q (o :: rest) a w := by
  refine wpList_plain hg fun K' hK' => ?_
  obtain ⟨⟨es, clock, hb, he, -⟩, -⟩ := h
  have e1 : es.size = l.length := by
    have := congrArg List.length he
    simpa using this
  have hrun : (Builtin.len_ #[M] o.type #[.map (some b)]).run P w = .ok (.int .i64 (l.length : Nat)) w := by
    rw [← e1]
    simp [Builtin.len_, run_underlying T.m, MapKept.run_getObj_map hb, goInt, Result.andThen]
  unfold Oper.wp
  simp [execOp, hop, resolve, invoke, builtin, hm, hrun, Result.andThen]
  exact hK' _ _ hK
theorem wpList_range_E (hg : o.guard = none) (m : Operand) (hop : o.op = Op.range M m) (T : MapT P M K E V) (b : Nat) (l : List Ed) (hm : a.eval m = .map (some b)) (h : MapAt w b l)
    (hK : ∀ w', Iter w' b w.heap.size l l → Keeps w w' → w'.heap.size = w.heap.size + 1 → wpList P ops Q rest (a.put o.dst (.pointer (some ⟨w.heap.size, 0, none⟩))) w') : wpList P ops Q (o :: rest) a w := by
  refine wpList_plain hg fun K' hK' => ?_
  obtain ⟨w', hrun, r1, r2, r3⟩ := run_rangeE T h
  unfold Oper.wp
  simp [execOp, hop, hm, hrun, Result.andThen]
  exact hK' _ _ (hK w' r1 r2 r3)
theorem wpList_next_E (hg : o.guard = none) (it : Operand) (hop : o.op = Op.next it false) (b r : Nat) (l lf : List Ed) (hit : a.eval it = .pointer (some ⟨r, 0, none⟩)) (h : Iter w b r l lf)
    (hDone : lf = [] → wpList P ops Q rest (a.put o.dst (.tuple #[.bool false])) w)
    (hMore : ∀ e lf' w', lf.Perm (e :: lf') → Iter w' b r l lf' → Only w w' (fun c => c = r) →
      (Instr.entry (.pointer (some ⟨r, 0, none⟩))).run P w' = .ok (.tuple #[.agg #[.int .u32 (e.t : Int), .int .u32 (e.h : Int)], .agg #[.int .u32 (e.t : Int), .int .u32 (e.h : Int), .int .u64 (e.x : Int), .int .u32 (e.m : Int)]]) w' → wpList P ops Q rest (a.put o.dst (.tuple #[.bool true, .agg #[.int .u32 (e.t : Int), .int .u32 (e.h : Int)], .agg #[.int .u32 (e.t : Int), .int .u32 (e.h : Int), .int .u64 (e.x : Int), .int .u32 (e.m : Int)]])) w') :
    wpList P ops Q (o :: rest) a w := by
  refine wpList_plain hg fun K' hK' => ?_
  unfold Oper.wp
  rcases run_nextE (P := P) h o.type with ⟨h0, hrun⟩ | ⟨e, lf', w', hp, hrun, hi, ho, hen⟩
  · simp [execOp, hop, hit, hrun, Result.andThen]
    exact hK' _ _ (hDone h0)
  · simp [execOp, hop, hit, hrun, Result.andThen]
    exact hK' _ _ (hMore e lf' w' hp hi ho hen)
end
end Go.Proofs.YtbalejfloieiiaaDoor
