/- A map whose keys are pairs of vertices and whose elements are edges: the model's operations on it, of no program. -/
import Derived.Test.YtbalejfloieiiaaDoorEdges
import Derived.Test.YtbalejfloieiiaaDoorReduceMath
import Derived.Test.YtbalejfloieiiaaDoorOnly
import Derived.ChangeKeysEq
import Derived.DeepKeys3
import Derived.MapKept
namespace Go.Proofs.YtbalejfloieiiaaDoor
open Go.RowKit
set_option linter.unusedSimpArgs false
set_option linter.unusedVariables false
set_option maxRecDepth 100000

def prK (e : Ed) : Value := .agg #[.int .u32 (e.t : Int), .int .u32 (e.h : Int)]
def edV (e : Ed) : Value := .agg (edA e)
def prB (a b : Ed) : Bool := decide (a.t = b.t) && decide (a.h = b.h)
theorem prB_true (a b : Ed) : prB a b = true ↔ Pair a b := by simp [prB, Pair]
/-- what the types are -/
structure MapT (P : Program) (M K E V : TypeId) : Prop where
  m : P.underlying M = some (.map K V)
  k : P.underlying K = some (.array 2 E)
  e : P.underlying E = some (.int .u32)
  s : ∃ i, P.info? E = some i ∧ i.size = 1
  c : P.cellsOf E = 1
  z : ∀ w, (zeroValue V).run P w = .ok (.agg #[.int .u32 0, .int .u32 0, .int .u64 0, .int .u32 0]) w
section
variable {P : Program} {M K E V : TypeId}
theorem run_eqInt (T : MapT P M K E V) (d : Nat) (x y : Int) (w : World) : (Op.equalIn (d + 1) E (.int .u32 x) (.int .u32 y)).run P w = .ok (x == y) w := by
  simp [Op.equalIn, underlying, T.e]
theorem run_part0 (T : MapT P M K E V) (x y : Int) (w : World) : (part E #[.int .u32 x, .int .u32 y] 0).run P w = .ok (.int .u32 x) w := by
  simp [part, T.e, underlying, isAgg]
theorem run_part1 (T : MapT P M K E V) (x y : Int) (w : World) : (part E #[.int .u32 x, .int .u32 y] 1).run P w = .ok (.int .u32 y) w := by
  simp [part, T.e, underlying, isAgg]
theorem run_sizeE (T : MapT P M K E V) (w : World) : (sizeOf E).run P w = .ok 1 w := by
  obtain ⟨i, hi, hs⟩ := T.s
  simp [sizeOf, typeInfo, hi, hs]
theorem run_eqPair (T : MapT P M K E V) (a b : Ed) (w : World) : (Op.equal K (prK a) (prK b)).run P w = .ok (prB a b) w := by
  obtain ⟨i, hi, hs⟩ := T.s
  show (Op.equalIn (9999 + 1) K _ _).run P w = _
  unfold prK
  rw [run_equalIn_array w 9999 _ _ T.k hi, T.c, show List.range 2 = [0, 1] from rfl]
  have he : ∀ (x y : Int) (w : World), (Op.equalIn 9999 E (.int .u32 x) (.int .u32 y)).run P w = .ok (x == y) w := fun x y w => run_eqInt T 9998 x y w
  simp only [Op.eqItems, Sem.run_bind, Nat.zero_mul, Nat.one_mul, run_part0 T, run_part1 T, he, Result.andThen_ok]
  unfold prB
  by_cases h1 : a.t = b.t
  · by_cases h2 : a.h = b.h
    · simp [h1, h2, run_part1 T, he]
    · have : ¬ (a.h : Int) = (b.h : Int) := by omega
      simp [h1, h2, this, run_part1 T, he]
  · have : ¬ (a.t : Int) = (b.t : Int) := by omega
    simp [h1, this]
theorem run_checkInt (T : MapT P M K E V) (em : Bool) (d : Nat) (x : Int) (w : World) : (Instr.checkKey em (d + 1) E (.int .u32 x)).run P w = .ok () w := by
  simp [Instr.checkKey, underlying, T.e]
theorem run_checkPairIn (T : MapT P M K E V) (em : Bool) (d : Nat) (a : Ed) (w : World) : (Instr.checkKey em (d + 1 + 1) K (prK a)).run P w = .ok () w := by
  obtain ⟨i, hi, hs⟩ := T.s
  unfold prK
  have hc : ∀ x w, (Instr.checkKey em (d + 1) E (.int .u32 x)).run P w = .ok () w := fun x w => run_checkInt T em d x w
  generalize d + 1 = d1 at *
  have hr : List.range' 0 2 = [0, 1] := rfl
  simp [Instr.checkKey, underlying, T.k, hr, run_sizeE T, run_part0 T, run_part1 T, hc]
theorem run_checkPair (T : MapT P M K E V) (em : Bool) (a : Ed) (w : World) : (Instr.checkKey em 10000 K (prK a)).run P w = .ok () w := run_checkPairIn T em 9998 a w
/-- the entries of these edges, one for each -/
def Ents (es : List MapEntry) (l : List Ed) : Prop := es.map (fun e => (e.key, e.val)) = l.map fun e => (prK e, edV e)
theorem run_findAsk (T : MapT P M K E V) (x : Ed) (w : World) : ∀ (es : List MapEntry) (l : List Ed) (i : Nat), Ents es l →
    (Instr.findAsking K (prK x) es i).run P w = .ok ((l.findIdx? (prB x)).bind fun j => (l[j]?).map fun e => (i + j, edV e)) w := by
  intro es
  induction es with
  | nil =>
    intro l i h
    cases l with
    | nil => simp [Instr.findAsking]
    | cons => simp [Ents] at h
  | cons e es ih =>
    intro l i h
    cases l with
    | nil => simp [Ents] at h
    | cons y l =>
      simp only [Ents, List.map_cons, List.cons.injEq, Prod.mk.injEq] at h
      obtain ⟨⟨hk, hv⟩, h2⟩ := h
      simp only [Instr.findAsking, Sem.run_bind, hk, run_eqPair T, Result.andThen_ok, List.findIdx?_cons]
      cases hb : prB x y
      · simp only [Bool.false_eq_true, if_false]
        rw [ih l (i + 1) h2]
        congr 1
        cases hf : l.findIdx? (prB x) with
        | none => simp
        | some j => simp [Nat.add_assoc, Nat.add_comm 1 j]
      · simp [hv]
/-- block b is a map of these edges, by their pairs, no pair twice -/
structure MapAt (w : World) (b : Nat) (l : List Ed) : Prop where
  here : ∃ es clock, w.heap[b]? = some (.map es clock) ∧ Ents es.toList l ∧ (∀ e ∈ es.toList, e.born < clock) ∧ es.toList.Pairwise (fun x y => x.born ≠ y.born)
  once : l.Pairwise fun x y => prB x y = false
theorem findNow_none (T : MapT P M K E V) (k : Value) (e : MapEntry) (es : List MapEntry) (i : Nat) : Instr.findNow (.array 2 E) k (e :: es) i = none := rfl
theorem run_findKey (T : MapT P M K E V) (x : Ed) (w : World) (es : List MapEntry) (l : List Ed) (h : Ents es l) :
    (Instr.findKey K (prK x) es).run P w = .ok ((l.findIdx? (prB x)).bind fun j => (l[j]?).map fun e => (j, edV e)) w := by
  cases es with
  | nil =>
    cases l with
    | nil => simp [Instr.findKey, underlying, T.k, Instr.findNow]
    | cons => simp [Ents] at h
  | cons e es =>
    have := run_findAsk T x w (e :: es) l 0 h
    simp only [Nat.zero_add] at this
    simp [Instr.findKey, underlying, T.k, findNow_none T, this]
/-- v, ok := m[pair of x] -/
theorem run_lookE (T : MapT P M K E V) {w : World} {b : Nat} {l : List Ed} (h : MapAt w b l) (x : Ed) :
    (Instr.lookup M (.map (some b)) (prK x) true).run P w = .ok (.tuple #[((l.find? (prB x)).map edV).getD (.agg #[.int .u32 0, .int .u32 0, .int .u64 0, .int .u32 0]), .bool (l.find? (prB x)).isSome]) w := by
  obtain ⟨⟨es, clock, hb, he, -⟩, -⟩ := h
  have hf := run_findKey T x w es.toList l he
  have hi : (l.findIdx? (prB x)).bind (fun j => (l[j]?).map fun e => (j, edV e)) = (l.findIdx? (prB x)).bind fun j => (l.find? (prB x)).map fun e => (j, edV e) := by
    cases hx : l.findIdx? (prB x) with
    | none => rfl
    | some j =>
      obtain ⟨hj, hp, hq⟩ := List.findIdx?_eq_some_iff_getElem.1 hx
      have : l.find? (prB x) = some l[j] := by
        rw [List.find?_eq_some_iff_getElem]
        exact ⟨hp, j, hj, rfl, fun i hi => by simpa using hq i hi⟩
      simp [this, hj]
  rw [hi] at hf
  have hs : (l.findIdx? (prB x)).isSome = (l.find? (prB x)).isSome := by
    rw [List.findIdx?_isSome, Bool.eq_iff_iff, List.any_eq_true, List.find?_isSome]
  have hg : (getObj b).run P w = .ok (.map es clock) w := MapKept.run_getObj_map hb
  simp only [Instr.lookup, Sem.run_bind]
  simp [underlying, T.m, hg, run_checkPair T, hf]
  cases hx : l.find? (prB x) with
  | none =>
    have : l.findIdx? (prB x) = none := by
      rw [hx] at hs
      cases h2 : l.findIdx? (prB x) with
      | none => rfl
      | some j => rw [h2] at hs; simp at hs
    simp [this, T.z]
  | some e =>
    rw [hx] at hs
    obtain ⟨j, hj⟩ := Option.isSome_iff_exists.1 (hs.trans rfl)
    simp [hj]
/-- what the list becomes when the pair of x gets x -/
def putL (l : List Ed) (x : Ed) : List Ed := match l.findIdx? (prB x) with
  | some j => l.set j x
  | none => l ++ [x]
theorem same_pair (x y : Ed) (h : prB x y = true) : prK y = prK x := by
  have := (prB_true x y).1 h
  unfold prK
  rw [this.1, this.2]
theorem run_updE (T : MapT P M K E V) {w : World} {b : Nat} {l : List Ed} (h : MapAt w b l) (x : Ed) :
    ∃ w', (Instr.mapUpdate M (.map (some b)) (prK x) (edV x)).run P w = .ok () w' ∧ MapAt w' b (putL l x) ∧ Only w w' (fun c => c = b) := by
  obtain ⟨⟨es, clock, hb, he, hbo, hbp⟩, ho⟩ := h
  have hf := run_findKey T x w es.toList l he
  have hg : (getObj b).run P w = .ok (.map es clock) w := MapKept.run_getObj_map hb
  unfold putL
  cases hx : l.findIdx? (prB x) with
  | none =>
    rw [hx] at hf
    have hs := MapKept.run_setObj_map (P := P) (.map (es.push { key := prK x, val := edV x, born := clock }) (clock + 1)) hb
    refine ⟨_, by
      simp only [Instr.mapUpdate, Sem.run_bind]
      simp [underlying, T.m, hg, run_checkPair T, hf]
      exact hs, ?_, ?_⟩
    · have hbl := (Array.getElem?_eq_some_iff.1 hb).1
      have hnone : ∀ y ∈ l, prB x y = false := fun y hy => by
        have := List.findIdx?_eq_none_iff.1 hx y hy
        simpa using this
      refine ⟨⟨es.push { key := prK x, val := edV x, born := clock }, clock + 1, by simp [Array.getElem?_setIfInBounds, hbl], ?_, ?_, ?_⟩, ?_⟩
      · unfold Ents at he ⊢
        rw [Array.toList_push, List.map_append, he]
        simp
      · intro e he'
        rw [Array.toList_push] at he'
        rcases List.mem_append.1 he' with h | h
        · have := hbo e h; omega
        · simp at h; subst h; simp
      · rw [Array.toList_push, List.pairwise_append]
        refine ⟨hbp, by simp, fun a ha c hc => ?_⟩
        simp at hc
        subst hc
        have := hbo a ha
        simp only
        omega
      · rw [List.pairwise_append]
        refine ⟨ho, by simp, fun a ha c hc => ?_⟩
        simp at hc
        subst hc
        have := hnone a ha
        unfold prB at *
        simp only [Bool.and_eq_false_iff, decide_eq_false_iff_not] at *
        rcases this with h | h
        · left; exact fun e => h e.symm
        · right; exact fun e => h e.symm
    · exact ⟨rfl, rfl, rfl, by simp, fun i hi hn => by simp [Array.getElem?_setIfInBounds, Ne.symm hn]⟩
  | some j =>
    obtain ⟨hj, hp, hq⟩ := List.findIdx?_eq_some_iff_getElem.1 hx
    rw [hx] at hf
    have hbl := (Array.getElem?_eq_some_iff.1 hb).1
    have hlen : es.size = l.length := by
      have := congrArg List.length he
      simpa using this
    have hjs : j < es.size := by omega
    have hkey : es[j].key = prK x := by
      have := congrArg (fun L => L[j]?) he
      simp [hjs, hj] at this
      rw [this.1]
      exact same_pair x _ hp
    have hsb : Instr.sameBits 10000 (prK x) (prK x) = true := by simp [Instr.sameBits, prK]
    have hs := MapKept.run_setObj_map (P := P) (.map (es.modify j fun e => { e with key := prK x, val := edV x }) clock) hb
    have hk : (Instr.keyThatStays (prK x) (prK x)).run P w = .ok (prK x) w := by simp [Instr.keyThatStays, hsb]
    refine ⟨_, by
      simp only [Instr.mapUpdate, Sem.run_bind]
      simp [underlying, T.m, hg, run_checkPair T, hf, hj, hjs, hkey, hk]
      exact hs, ?_, ?_⟩
    · have hpx : x.t = l[j].t ∧ x.h = l[j].h := by simpa [prB] using hp
      have hmod : ∀ i : Nat, (es.modify j fun e => { e with key := prK x, val := edV x }).toList[i]? = if i = j then (es.toList[i]?).map (fun e => { e with key := prK x, val := edV x }) else es.toList[i]? := fun i => by
        rw [Array.getElem?_toList, Array.getElem?_toList, Array.getElem?_modify]
        by_cases h : j = i
        · subst h; simp
        · rw [if_neg h, if_neg (fun e => h e.symm)]
      have hborn : (es.modify j fun e => { e with key := prK x, val := edV x }).toList.map (·.born) = es.toList.map (·.born) := by
        apply List.ext_getElem?
        intro i
        rw [List.getElem?_map, List.getElem?_map, hmod i]
        split
        · rw [Option.map_map]; rfl
        · rfl
      refine ⟨⟨_, clock, by simp [Array.getElem?_setIfInBounds, hbl]; rfl, ?_, ?_, ?_⟩, ?_⟩
      · unfold Ents at he ⊢
        apply List.ext_getElem?
        intro i
        have h0 := congrArg (fun L => L[i]?) he
        simp only [List.getElem?_map] at h0
        rw [List.getElem?_map, List.getElem?_map, hmod i, List.getElem?_set]
        by_cases h : i = j
        · subst h
          rw [if_pos rfl, if_pos rfl, if_pos hj, List.getElem?_eq_getElem (by simpa using hjs)]
          rfl
        · rw [if_neg h, if_neg (fun e => h e.symm)]
          exact h0
      · intro e hE
        have h1 : e.born ∈ es.toList.map (·.born) := by rw [← hborn]; exact List.mem_map_of_mem hE
        obtain ⟨e', h2, h3⟩ := List.mem_map.1 h1
        rw [← h3]
        exact hbo e' h2
      · have h1 := List.pairwise_map.2 hbp
        have h2 : ((es.modify j fun e => { e with key := prK x, val := edV x }).toList.map (·.born)).Pairwise (· ≠ ·) := by rw [hborn]; exact List.pairwise_map.2 hbp
        exact List.pairwise_map.1 h2
      · have hg2 : ∀ i (h : i < (l.set j x).length) (h' : i < l.length), (l.set j x)[i].t = l[i].t ∧ (l.set j x)[i].h = l[i].h := fun i h h' => by
          rw [List.getElem_set]
          split
          · rename_i e; subst e; exact hpx
          · exact ⟨rfl, rfl⟩
        rw [List.pairwise_iff_getElem] at ho ⊢
        intro i k h1 h2 h3
        have h1' : i < l.length := by simpa using h1
        have h2' : k < l.length := by simpa using h2
        have := ho i k h1' h2' h3
        obtain ⟨e1, e2⟩ := hg2 i h1 h1'
        obtain ⟨e3, e4⟩ := hg2 k h2 h2'
        unfold prB at *
        rw [e1, e2, e3, e4]
        exact this
    · exact ⟨rfl, rfl, rfl, by simp, fun i hi hn => by simp [Array.getElem?_setIfInBounds, Ne.symm hn]⟩
end
end Go.Proofs.YtbalejfloieiiaaDoor
