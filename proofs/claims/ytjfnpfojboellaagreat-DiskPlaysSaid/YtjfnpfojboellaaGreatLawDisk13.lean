/- DiskApart. -/
import Derived.Test.YtjfnpfojboellaaGreatLawDisk12
namespace Go.Proofs.YtjfnpfojboellaaGreat
open Go.RowKit
set_option linter.unusedSimpArgs false
set_option linter.unusedVariables false
set_option maxRecDepth 100000

theorem at_row6 (w : World) (t : TypeId) (cs : Array Value) : At (w.alloc (.cells cs t)) (w.alloc (.cells cs t)).heap.size (some ⟨w.heap.size, 0, none⟩) cs.toList := by
  refine .inr ⟨_, rfl, by simp, fun j u hu => ?_⟩
  rw [Addr.add_lit]
  have := (Box.new w t cs).cell j (v := u) (by simpa using hu)
  simpa using this
/-- one of them, laid by the call itself -/
theorem opsAt_one {w : World} {o : OpS} (h : OpOk w o) : OpsAt (w.alloc (.cells (opA o) 39)) (some ⟨w.heap.size, 0, none⟩) [o] := by
  refine ⟨?_, fun x hx => ?_⟩
  · have := at_row6 w 39 (opA o)
    simpa [opA, opC] using this
  · obtain rfl := List.mem_singleton.1 hx
    exact h.keep_ (keeps_alloc _ _)
/-- what fileOf tells, in one form -/
theorem LookV.uni {w w' : World} {base : Nat} {r : Option (List UInt8)} {e : Ending} (h : LookV w base r e w') : Keeps w w' ∧ ∃ A c, e = .returned (.tuple #[.slice A (r.getD []).length c, .bool r.isSome]) ∧ Own w' base 5 1 (.slice A (r.getD []).length c) (r.getD []).length (cel (r.getD [])) := by
  obtain ⟨k, h⟩ := h
  cases r with
  | none => exact ⟨k, none, 0, h, Own.nil _ _ _ _⟩
  | some b => exact ⟨k, h⟩
theorem lookF_fls (s : Ds) (nm : List UInt8) : lookF (flsOf s) nm = (getF s.l nm).map (·.now) := by
  unfold lookF flsOf getF
  rw [List.find?_map]
  show Option.map Prod.snd (Option.map _ (s.l.find? fun f => decide (f.name = nm))) = _
  cases s.l.find? fun f => decide (f.name = nm) <;> rfl
/-- the loose sectors of one file -/
theorem cnt_file {l : List Fl} (h : l.Pairwise fun f g => f.name < g.name) (nm : List UInt8) : cntN (placesL l) nm = ((getF l nm).map fun f => (looseF f).length).getD 0 := by
  induction l with
  | nil => rfl
  | cons f l ih =>
    rw [List.pairwise_cons] at h
    have e1 : placesL (f :: l) = (looseF f).map (fun k => (f.name, k)) ++ placesL l := by unfold placesL; rw [List.flatMap_cons]
    have e2 : cntN (placesL (f :: l)) nm = cntN ((looseF f).map fun k => (f.name, k)) nm + cntN (placesL l) nm := by
      unfold cntN
      rw [e1, List.filter_append, List.length_append]
    rw [e2, ih h.2, getF_cons]
    by_cases e : f.name = nm
    · rw [if_pos e]
      have h3 : getF l nm = none := by
        unfold getF
        rw [List.find?_eq_none]
        intro g hg
        have := h.1 g hg
        simp only [decide_eq_true_eq]
        intro q
        rw [e, q] at this
        exact List.lt_irrefl _ this
      have h4 : cntN ((looseF f).map fun k => (f.name, k)) nm = (looseF f).length := by
        unfold cntN
        rw [List.filter_eq_self.2 (by intro p hp; obtain ⟨k, _, rfl⟩ := List.mem_map.1 hp; simp [e]), List.length_map]
      rw [h3, h4]
      rfl
    · rw [if_neg e]
      have h4 : cntN ((looseF f).map fun k => (f.name, k)) nm = 0 := by
        unfold cntN
        rw [List.filter_eq_nil_iff.2 (by intro p hp; obtain ⟨k, _, rfl⟩ := List.mem_map.1 hp; simp [e])]
        rfl
      rw [h4, Nat.zero_add]
theorem places_few {l : List Fl} (h : ∀ f ∈ l, FlOk f) : (placesL l).length ≤ l.length * 262144 := by
  induction l with
  | nil => simp [placesL]
  | cons f l ih =>
    have e1 : placesL (f :: l) = (looseF f).map (fun k => (f.name, k)) ++ placesL l := by unfold placesL; rw [List.flatMap_cons]
    rw [e1, List.length_append, List.length_map, List.length_cons]
    have h1 := ih (fun g hg => h g (List.mem_cons_of_mem _ hg))
    have h2 : (looseF f).length ≤ sect f.now.length := by
      unfold looseF
      exact Nat.le_trans (List.length_filter_le _ _) (by rw [List.length_range]; exact Nat.le_refl _)
    have h3 := (h f List.mem_cons_self).size
    unfold sect at h2
    omega
theorem str_is (a : ByteArray) (h : a.size ≤ maxLen) : ∃ l : List UInt8, a = str l ∧ l.length ≤ maxLen := ⟨a.data.toList, rfl, by simpa using h⟩
end Go.Proofs.YtjfnpfojboellaaGreat
