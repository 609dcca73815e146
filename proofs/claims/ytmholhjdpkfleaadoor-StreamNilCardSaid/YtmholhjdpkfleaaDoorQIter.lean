/- A range over a map inside a fence; how a map lies behind a round of somebody's; of no program. -/
import Derived.Test.YtmholhjdpkfleaaDoorQMapV
import Derived.RangeFuncGives
import Derived.RangeFuncIn
import Derived.RangeFuncLeaves
import Derived.Sort.MapsRangeIn
import Derived.OwnWalkIn
import Derived.TacticsInMore
import Derived.RegionIn
import Derived.LoopNIn
import Derived.LoopIn
namespace Go.Proofs.YtmholhjdpkfleaaDoor
open Go.RowKit
set_option linter.unusedSimpArgs false
set_option linter.unusedVariables false
set_option linter.unusedSectionVars false
set_option maxRecDepth 100000

section
variable {κ ε : Type} [DecidableEq κ] {F : Fence} {n : Nat} {P : Program} {M K V : TypeId} {kv : κ → Value} {ev : ε → Value} (w : World) {ops : Array Oper} {rest : List Oper} {o : Oper} {a : Act} {Q : Exit → Act → World → Prop}
theorem wpListIn_rangeV (hg : o.guard = none) (m : Operand) (hop : o.op = Op.range M m) (T : MapV P M K V kv ev) (b : Nat) (l : List (κ × ε)) (hm : a.eval m = .map (some b)) (h : MapW kv ev w b l)
    (hK : ∀ w', IterV kv ev w' b w.heap.size l l → Keeps w w' → w'.heap.size = w.heap.size + 1 → wpListIn F n P ops Q rest (a.put o.dst (.pointer (some ⟨w.heap.size, 0, none⟩))) w') : wpListIn F n P ops Q (o :: rest) a w := by
  refine wpListIn_plain hg fun K' hK' => ?_
  obtain ⟨w', hrun, r1, r2, r3⟩ := run_rangeV T h
  unfold Oper.wpIn
  refine ⟨by simp [Oper.about, hop], ?_⟩
  rw [Oper.semAt_plain F _ _ (by rw [hop]; intro c hc'; cases hc')]
  simp [execOp, hop, hm, hrun, Result.andThen]
  exact hK' _ _ (hK w' r1 r2 r3)
theorem wpListIn_nextV (hg : o.guard = none) (it : Operand) (hop : o.op = Op.next it false) (T : MapV P M K V kv ev) (b r : Nat) (l lf : List (κ × ε)) (hit : a.eval it = .pointer (some ⟨r, 0, none⟩)) (h : IterV kv ev w b r l lf)
    (fk : κ → Value) (hfk : kv = fk) (fe : ε → Value) (hfe : ev = fe)
    (hDone : lf = [] → wpListIn F n P ops Q rest (a.put o.dst (.tuple #[.bool false])) w)
    (hMore : ∀ (e : κ × ε) lf' w', lf.Perm (e :: lf') → IterV kv ev w' b r l lf' → Only w w' (fun c => c = r) →
      (Instr.entry (.pointer (some ⟨r, 0, none⟩))).run P w' = .ok (.tuple #[fk e.1, fe e.2]) w' → wpListIn F n P ops Q rest (a.put o.dst (.tuple #[.bool true, fk e.1, fe e.2])) w') :
    wpListIn F n P ops Q (o :: rest) a w := by
  subst hfk
  subst hfe
  refine wpListIn_plain hg fun K' hK' => ?_
  unfold Oper.wpIn
  refine ⟨by simp [Oper.about, hop], ?_⟩
  rw [Oper.semAt_plain F _ _ (by rw [hop]; intro c hc'; cases hc')]
  rcases run_nextV (P := P) T h o.type with ⟨h0, hrun⟩ | ⟨e, lf', w', hp, hrun, hi, ho, hen⟩
  · simp [execOp, hop, hit, hrun, Result.andThen]
    exact hK' _ _ (hDone h0)
  · simp [execOp, hop, hit, hrun, Result.andThen]
    exact hK' _ _ (hMore e lf' w' hp hi ho hen)
theorem IterV.walks {w w' : World} {b r : Nat} {l lf : List (κ × ε)} (h : IterV kv ev w b r l lf) (k : KeepsWalks w w') : IterV kv ev w' b r l lf := by
  obtain ⟨es, clock, since, seen, c0, lf0, h1, h2, h3, h4⟩ := h.here
  exact h.same ((k.same b _ h1 rfl).trans h1.symm) ((k.same r _ h3 rfl).trans h3.symm)
theorem IterV.walk {w : World} {b r : Nat} {l lf : List (κ × ε)} (h : IterV kv ev w b r l lf) : ∃ o : Obj, w.heap[r]? = some o ∧ o.isWalk = true := by
  obtain ⟨es, clock, since, seen, c0, lf0, h1, h2, h3, h4⟩ := h.here
  exact ⟨_, h3, rfl⟩
theorem Only.grownBy {w w' : World} {r : Nat} (h : Only w w' (fun c => c = r)) : w.grownBy w' (some r) := ⟨h.os, h.tape, h.output, h.size, fun k hk hn => h.block k hk (fun e => hn (by rw [e]))⟩
end
theorem wide_round : Fence.wide.round = none := rfl
theorem grownBy_obj (W : World) (l : Nat) (o : Obj) : W.grownBy (W.putObj l o) (some l) :=
  ⟨rfl, rfl, rfl, by simp, fun k _ hk => World.putObj_heap_other (fun e => hk (by rw [e]))⟩
theorem grownBy_cell0 (W : World) (b : Nat) (v : Value) : W.grownBy (W.setCell ⟨b, 0, none⟩ v) (some b) :=
  ⟨rfl, rfl, rfl, (KeepsWalks.setCell W _ v).size, fun k _ hk => Below.heap_setCell _ _ _ k (fun e => hk (by rw [e]))⟩
/-- a row of its own, of cells of another type than what lies there -/
theorem ownsRow_apart {W : World} {base size : Nat} {e : TypeId} {v : Value} {k : Nat} {xs : List Value} (h : W.ownsRow base e size v k xs) {j : Nat} {o : Obj} (hj : W.heap[j]? = some o) (hno : ∀ cur, o ≠ .cells cur e (0, 0)) :
    v.ownBlock = none ∨ v.ownBlock ≠ some j := by
  rcases h.2 with ⟨rfl, _⟩ | ⟨g, cap, cur, rfl, _, hgb, _⟩
  · exact .inl rfl
  · refine .inr fun e' => ?_
    have : g = j := by simpa [Value.ownBlock] using e'
    subst this
    rw [hgb] at hj
    cases hj
    exact hno cur rfl
theorem ownsRow_walked {W W' : World} {row : Option Nat} {base size : Nat} {e : TypeId} {v : Value} {k : Nat} {xs : List Value} (h : W.ownsRow base e size v k xs) (hg : W.grownBy W' row)
    (hrow : ∀ r, row = some r → ∃ o : Obj, W.heap[r]? = some o ∧ o.isWalk = true) : W'.ownsRow base e size v k xs := by
  refine h.kept hg ?_
  rcases h.2 with ⟨rfl, _⟩ | ⟨g, cap, cur, rfl, _, hgb, _⟩
  · exact .inl rfl
  · refine .inr fun e' => ?_
    obtain ⟨o, ho, hw⟩ := hrow g (by simpa [Value.ownBlock] using e'.symm)
    rw [hgb] at ho
    cases ho
    cases hw
theorem ownsRow_no_walk {W : World} {base size : Nat} {e : TypeId} {v : Value} {k : Nat} {xs : List Value} (h : W.ownsRow base e size v k xs) : ∀ (j : Nat) (o : Obj), v.ownBlock = some j → W.heap[j]? = some o → o.isWalk = false := by
  intro j o hj ho
  rcases h.2 with ⟨rfl, _⟩ | ⟨g, cap, cur, rfl, _, hgb, _⟩
  · simp [Value.ownBlock] at hj
  · have : g = j := by simpa [Value.ownBlock] using hj
    subst this
    rw [hgb] at ho
    cases ho
    rfl
theorem box_cell {W : World} {B : Nat} {v : Value} {t : TypeId} (h : W.heap[B]? = some (.cells #[v] t (0, 0))) : W.cell? ⟨B, 0, none⟩ = some v ∧ W.frozen? ⟨B, 0, none⟩ = false := by
  constructor <;> simp [World.cell?, World.frozen?, h]
theorem box_setCell {W : World} {B : Nat} {v : Value} {t : TypeId} (v' : Value) (h : W.heap[B]? = some (.cells #[v] t (0, 0))) : (W.setCell ⟨B, 0, none⟩ v').heap[B]? = some (.cells #[v'] t (0, 0)) := by
  obtain ⟨hlt, hk⟩ := Array.getElem?_eq_some_iff.1 h
  show (W.heap.modify B _)[B]? = _
  rw [Array.getElem?_eq_getElem (by rw [Array.size_modify]; exact hlt), Array.getElem_modify_self, hk]
  rfl
end Go.Proofs.YtmholhjdpkfleaaDoor
