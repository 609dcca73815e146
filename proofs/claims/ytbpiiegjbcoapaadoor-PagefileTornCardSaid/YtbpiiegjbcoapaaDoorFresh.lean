/- Lists in new memory: what EqBytes and Roomy answer, and three rows side by side, as Apart asks for. -/
import Derived.Test.YtbpiiegjbcoapaaDoorRefA
import Derived.Test.YtbpiiegjbcoapaaDoorApart
import Derived.Deep.RegionHeld3
namespace Go.Proofs.YtbpiiegjbcoapaaDoor
open Go.RowKit
set_option linter.unusedSimpArgs false
set_option linter.unusedVariables false
set_option maxRecDepth 100000

theorem Own.front {w : World} {base : Nat} {e : TypeId} {ad : Addr} {n m cap : Nat} {xs ys : List Value} (h : Own w base e 1 (.slice (some ad) n cap) n (xs ++ ys)) (hm : m = xs.length) : Own w base e 1 (.slice (some ad) m cap) m xs := by
  subst hm
  have hl := h.1
  rw [List.length_append, Nat.mul_one] at hl
  refine ⟨by rw [Nat.mul_one], ?_⟩
  rcases h.2 with ⟨hv, _⟩ | ⟨g, cap', cur, fz, hv, hb, hg, hz, h1, h2, h3, h4⟩
  · cases hv
  · injection hv with hA hn hc
    injection hA with hA
    subst hA; subst hc
    refine .inr ⟨g, cap, cur, fz, rfl, hb, hg, hz, by omega, h2, h3, ?_⟩
    have e1 := congrArg (List.take xs.length) h4
    rw [List.take_take, Nat.mul_one, Nat.min_eq_left (by omega), List.take_left] at e1
    rw [Nat.mul_one]
    exact e1

theorem eqBytes_one (A : Option Addr) (n c : Nat) (l : List UInt8) (B : Option Addr) (m d : Nat) (w : World) (hA : Bs w A l) (hn : n = l.length) (hB : Bs w B l) (hm : m = l.length) :
    Calls Tryd.prog 20 #[.slice A n c, .slice B m d] w fun e w' => e = .returned (.bool true) ∧ w = w' := by
  have h := eqBytes_any A n c l B m d l w hA hn hB hm
  rw [decide_eq_true rfl] at h
  exact h

/-- What Roomy leaves, and that the list is the call's own. -/
def RoomedOwn (w : World) (l : List UInt8) (e : Ending) (w' : World) : Prop := ∃ ad cap, e = .returned (.slice (some ad) l.length cap) ∧ Room w w' l ad cap ∧ Own w' w.heap.size 5 1 (.slice (some ad) l.length cap) l.length (cel l)

theorem ne_ranges {v v' : Value} {a b c d : Nat} (h : ∀ g, v.ownBlock = some g → a ≤ g ∧ g < b) (h' : ∀ g, v'.ownBlock = some g → c ≤ g ∧ g < d) (hd : b ≤ c ∨ d ≤ a) : v.ownBlock = none ∨ v.ownBlock ≠ v'.ownBlock := by
  cases hv : v.ownBlock with
  | none => exact .inl rfl
  | some g =>
    right
    intro e
    have h1 := h g hv
    have h2 := h' g e.symm
    omega

/-- three rows that lie in three ranges, and the list of them in new memory -/
theorem ahead3 {w : World} {base a1 b1 a2 b2 a3 b3 : Nat} {v1 v2 v3 : Value} {l1 l2 l3 : List UInt8}
    (o1 : Own w base 5 1 v1 l1.length (cel l1)) (o2 : Own w base 5 1 v2 l2.length (cel l2)) (o3 : Own w base 5 1 v3 l3.length (cel l3)) (hb : base ≤ w.heap.size)
    (h1 : ∀ g, v1.ownBlock = some g → a1 ≤ g ∧ g < b1) (h2 : ∀ g, v2.ownBlock = some g → a2 ≤ g ∧ g < b2) (h3 : ∀ g, v3.ownBlock = some g → a3 ≤ g ∧ g < b3)
    (h12 : b1 ≤ a2 ∨ b2 ≤ a1) (h13 : b1 ≤ a3 ∨ b3 ≤ a1) (h23 : b2 ≤ a3 ∨ b3 ≤ a2)
    (s1 : l1.length ≤ 1073741824) (s2 : l2.length ≤ 1073741824) (s3 : l3.length ≤ 1073741824) :
    Ahead (w.alloc (.cells #[v1, v2, v3] 22)) base [(v1, l1), (v2, l2), (v3, l3)] (.slice (some ⟨w.heap.size, 0, none⟩) 3 3) := by
  have k := keeps_alloc w (.cells #[v1, v2, v3] 22)
  have three : ∀ {Q : Nat → Value × List UInt8 → Prop}, Q 0 (v1, l1) → Q 1 (v2, l2) → Q 2 (v3, l3) → ∀ (j : Nat) (p : Value × List UInt8), [(v1, l1), (v2, l2), (v3, l3)][j]? = some p → Q j p := by
    intro Q q0 q1 q2 j p hp
    rcases j with _ | _ | _ | j
    · cases hp; exact q0
    · cases hp; exact q1
    · cases hp; exact q2
    · cases hp
  refine ⟨three (Q := fun _ p => Own _ base 5 1 p.1 p.2.length (cel p.2)) (o1.keep k) (o2.keep k) (o3.keep k), ?_, ?_, Nat.le_trans hb k.size, by simp, three (Q := fun _ p => p.2.length ≤ 1073741824) s1 s2 s3⟩
  · intro i j p q hij hp hq
    have P : ∀ (j : Nat) (q : Value × List UInt8), [(v1, l1), (v2, l2), (v3, l3)][j]? = some q → ∀ (i : Nat) (p : Value × List UInt8), [(v1, l1), (v2, l2), (v3, l3)][i]? = some p → i ≠ j → p.1.ownBlock = none ∨ p.1.ownBlock ≠ q.1.ownBlock := by
      refine three (Q := fun j q => ∀ (i : Nat) (p : Value × List UInt8), [(v1, l1), (v2, l2), (v3, l3)][i]? = some p → i ≠ j → p.1.ownBlock = none ∨ p.1.ownBlock ≠ q.1.ownBlock) ?_ ?_ ?_
      · exact three (Q := fun i p => i ≠ 0 → p.1.ownBlock = none ∨ p.1.ownBlock ≠ v1.ownBlock) (fun e => absurd rfl e) (fun _ => ne_ranges h2 h1 (by omega)) (fun _ => ne_ranges h3 h1 (by omega))
      · exact three (Q := fun i p => i ≠ 1 → p.1.ownBlock = none ∨ p.1.ownBlock ≠ v2.ownBlock) (fun _ => ne_ranges h1 h2 (by omega)) (fun e => absurd rfl e) (fun _ => ne_ranges h3 h2 (by omega))
      · exact three (Q := fun i p => i ≠ 2 → p.1.ownBlock = none ∨ p.1.ownBlock ≠ v3.ownBlock) (fun _ => ne_ranges h1 h3 (by omega)) (fun _ => ne_ranges h2 h3 (by omega)) (fun e => absurd rfl e)
    exact P j q hq i p hp hij
  · exact ⟨rfl, .inr ⟨w.heap.size, 3, #[v1, v2, v3], (0, 0), rfl, hb, heap_alloc_new w _, .inl rfl, Nat.le_refl _, by simp [maxLen], rfl, rfl⟩⟩
end Go.Proofs.YtbpiiegjbcoapaaDoor
