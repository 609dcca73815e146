/- The contracts of package heap: a tree in a list, and the heap on it. -/
import Derived.Test.YtkijfbnibfbldaaLawHeap
import Derived.Test.YtkijfbnibfbldaaHeapTree
import Derived.Test.YtkijfbnibfbldaaRefHeap3
import Derived.BigRegion
import Derived.Handy
namespace Go.Proofs.Ytkijfbnibfbldaa
open Go.RowKit
set_option linter.unusedSimpArgs false
set_option linter.unusedVariables false
set_option maxRecDepth 100000

theorem isLess_any (a b : It) (w : World) :
    Calls Try.prog 41 #[.agg #[.int .u64 (a.k : Int), .int .u32 (a.i : Int)], .agg #[.int .u64 (b.k : Int), .int .u32 (b.i : Int)]] w fun e w' => e = .returned (.bool (lessB a b)) ∧ Keeps w w' := by
  have k0 := fun a b => keeps_trans (keeps_alloc w a) (keeps_alloc (w.alloc a) b)
  by_cases h1 : a.k = b.k
  · have e1 : lessB a b = decide (a.i < b.i) := by
      unfold lessB
      rw [h1]
      simp
    have e2 : ((a.k : Int) == (b.k : Int)) = true := by simp; omega
    rw [e1]
    clear e1 h1
    go_enter Try.func41, Try.ntmps41
    go_wp2
    go_ret
    exact ⟨rfl, k0 _ _⟩
  · have e1 : lessB a b = decide (a.k < b.k) := by
      unfold lessB
      simp [h1]
    have e2 : ((a.k : Int) == (b.k : Int)) = false := by simp; omega
    rw [e1]
    clear e1 h1
    go_enter Try.func41, Try.ntmps41
    go_wp2
    go_ret
    exact ⟨rfl, k0 _ _⟩

/-- a heap of the program: its block, and the row of its items -/
structure TreeAt (w : World) (b : Nat) (v : Value) (l : List It) : Prop where
  box : Box w b 94 #[v, .func (.func 41) #[] #[]]
  own : Own w 0 71 2 v l.length (l.flatMap itC)
  ne : v.ownBlock ≠ some b
theorem TreeAt.lt {w : World} {b : Nat} {v : Value} {l : List It} (h : TreeAt w b v l) : ∀ c, RS b v c → c < w.heap.size := fun c hc => by
  rcases hc with rfl | hc
  · exact h.box.lt
  · exact (h.own.lt c hc).2
theorem TreeAt.same {w w' : World} {b : Nat} {v : Value} {l : List It} (h : TreeAt w b v l) (k : ∀ c, RS b v c → w'.heap[c]? = w.heap[c]?) : TreeAt w' b v l :=
  ⟨(k b (.inl rfl)).trans h.box, h.own.same fun c hc => k c (.inr hc), h.ne⟩
theorem TreeAt.keep {w w' : World} {b : Nat} {v : Value} {l : List It} (h : TreeAt w b v l) (k : Keeps w w') : TreeAt w' b v l := h.same fun c hc => k.block c (h.lt c hc)

/-- what stands at a place of the row is another item now -/
theorem TreeAt.put {w : World} {b g n cap : Nat} {l : List It} (h : TreeAt w b (.slice (some ⟨g, 0, none⟩) n cap) l) {j : Nat} (hj : j < l.length) (x : It) :
    TreeAt ((w.setCell ⟨g, j * 2, none⟩ (.int .u64 (x.k : Int))).setCell ⟨g, j * 2 + 1, none⟩ (.int .u32 (x.i : Int))) b (.slice (some ⟨g, 0, none⟩) n cap) (l.set j x) := by
  have hn : n = l.length := by
    rcases h.own.2 with ⟨e, _⟩ | ⟨g', cap', cur, fz, e, _⟩
    · cases e
    · injection e
  subst hn
  have hne : g ≠ b := fun e => h.ne (by simp [Value.ownBlock, e])
  have o2 := h.own.store (j := j * 2) (by rw [flat_len]; omega) (.int .u64 (x.k : Int))
  have o3 := o2.store (j := j * 2 + 1) (by rw [List.length_set, flat_len]; omega) (.int .u32 (x.i : Int))
  rw [flat_set] at o3
  refine ⟨(h.box.far (p := ⟨g, j * 2, none⟩) (fun e => hne e.symm) _).far (p := ⟨g, j * 2 + 1, none⟩) (fun e => hne e.symm) _, ?_, h.ne⟩
  rw [List.length_set]
  exact o3
theorem Only.put (w : World) (g j k : Nat) (x y : Value) : Only w ((w.setCell ⟨g, j, none⟩ x).setCell ⟨g, k, none⟩ y) (fun c => c = g) :=
  ⟨rfl, rfl, rfl, by simp, fun i hi hn => by rw [Below.heap_setCell _ ⟨g, k, none⟩ _ i hn, Below.heap_setCell _ ⟨g, j, none⟩ _ i hn]⟩

theorem TreeAt.swapped {w : World} {b g n cap : Nat} {l : List It} {i j : Nat} (h : TreeAt w b (.slice (some ⟨g, 0, none⟩) n cap) l) (hi : i < l.length) (hj : j < l.length) :
    TreeAt ((((w.setCell ⟨g, i * 2, none⟩ (.int .u64 ((it l j).k : Int))).setCell ⟨g, i * 2 + 1, none⟩ (.int .u32 ((it l j).i : Int))).setCell ⟨g, j * 2, none⟩ (.int .u64 ((it l i).k : Int))).setCell ⟨g, j * 2 + 1, none⟩ (.int .u32 ((it l i).i : Int))) b (.slice (some ⟨g, 0, none⟩) n cap) (sw l i j) ∧
    Only w ((((w.setCell ⟨g, i * 2, none⟩ (.int .u64 ((it l j).k : Int))).setCell ⟨g, i * 2 + 1, none⟩ (.int .u32 ((it l j).i : Int))).setCell ⟨g, j * 2, none⟩ (.int .u64 ((it l i).k : Int))).setCell ⟨g, j * 2 + 1, none⟩ (.int .u32 ((it l i).i : Int))) (fun c => c = g) :=
  ⟨(h.put hi (it l j)).put (j := j) (by rw [List.length_set]; exact hj) (it l i), (Only.put w g (i * 2) (i * 2 + 1) _ _).trans (Only.put _ g (j * 2) (j * 2 + 1) _ _) (fun _ e => .inl e)⟩

set_option maxHeartbeats 4000000 in
theorem swap_any {w : World} {b g n cap : Nat} {l : List It} {i j : Nat} (h : TreeAt w b (.slice (some ⟨g, 0, none⟩) n cap) l) (hi : i < l.length) (hj : j < l.length) :
    Calls Try.prog 49 #[.pointer (some ⟨b, 0, none⟩), .int .i64 (i : Int), .int .i64 (j : Int)] w fun e w' => e = .returned (.tuple #[]) ∧ TreeAt w' b (.slice (some ⟨g, 0, none⟩) n cap) (sw l i j) ∧ Only w w' (fun c => c = g) := by
  have hn : n = l.length := by
    rcases h.own.2 with ⟨e, _⟩ | ⟨g', cap', cur, fz, e, _⟩
    · cases e
    · injection e
  subst hn
  have c0 := h.box.cell 0 rfl
  obtain ⟨⟨a0, a1⟩, fa0, fa1⟩ := own_item h.own (it_get hi)
  obtain ⟨⟨b0, b1⟩, fb0, fb1⟩ := own_item h.own (it_get hj)
  have FIN := Lib.hid (h.swapped hi hj)
  have lb := h.box.lt
  have lg := (h.own.lt g rfl).2
  have i0 : (0 : Int) ≤ (i : Int) := by omega
  have i1 : (i : Int) < (l.length : Int) := by omega
  have j0 : (0 : Int) ≤ (j : Int) := by omega
  have j1 : (j : Int) < (l.length : Int) := by omega
  clear h hi hj
  by_cases hij : i = j
  · subst hij
    generalize it l i = x at *
    go_enter Try.func49, Try.ntmps49
    go_wp2_with fail
    go_region
    all_goals
      go_wp2_with fail
      go_returns
      exact ⟨rfl, FIN.out.1.keep (keeps_drew _), FIN.out.2.keep (keeps_drew _)⟩
  · generalize it l i = x at *
    generalize it l j = y at *
    go_enter Try.func49, Try.ntmps49
    have n1 : i * 2 ≠ j * 2 := by omega
    have n2 : i * 2 ≠ j * 2 + 1 := by omega
    have n3 : i * 2 + 1 ≠ j * 2 := by omega
    have n4 : i * 2 + 1 ≠ j * 2 + 1 := by omega
    have n5 : j * 2 ≠ i * 2 := by omega
    have n6 : j * 2 ≠ i * 2 + 1 := by omega
    have n7 : j * 2 + 1 ≠ i * 2 := by omega
    have n8 : j * 2 + 1 ≠ i * 2 + 1 := by omega
    go_wp2_with fail
    go_region
    all_goals
      go_wp2_with fail
      go_returns
      exact ⟨rfl, FIN.out.1.keep (keeps_drew _), FIN.out.2.keep (keeps_drew _)⟩
end Go.Proofs.Ytkijfbnibfbldaa
