/- Mathematics of no program: what is done to a disk's files keeps them in order and within their bounds. -/
import Derived.Test.YtpbkkbkpodcgnaaDiskApart
import Derived.Test.YtpbkkbkpodcgnaaDiskTorn
namespace Go.Proofs.Ytpbkkbkpodcgnaa
set_option linter.unusedSimpArgs false
set_option linter.unusedVariables false
set_option maxRecDepth 100000

structure LOk (l : List Fl) : Prop where
  rise : l.Pairwise fun f g => f.name < g.name
  files : ∀ f ∈ l, FlOk f
  used : usedL l ≤ 1048576
theorem putF_perm (l : List Fl) (f : Fl) : (putF l f).Perm (f :: l) := by
  induction l with
  | nil => exact .refl _
  | cons g l ih =>
    unfold putF
    split
    · exact (ih.cons g).trans (List.Perm.swap f g l)
    · exact .refl _
theorem getF_none {l : List Fl} {nm : List UInt8} (h : getF l nm = none) : ∀ f ∈ l, f.name ≠ nm := by
  intro f hf e
  have := List.find?_eq_none.1 h f hf
  simp [e] at this
theorem putF_rise {l : List Fl} {f : Fl} (h : l.Pairwise fun f g => f.name < g.name) (hn : ∀ g ∈ l, g.name ≠ f.name) : (putF l f).Pairwise fun f g => f.name < g.name := by
  induction l with
  | nil => simp [putF]
  | cons g l ih =>
    rw [List.pairwise_cons] at h
    unfold putF
    by_cases e : g.name < f.name
    · rw [if_pos e, List.pairwise_cons]
      refine ⟨fun x hx => ?_, ih h.2 (fun y hy => hn y (List.mem_cons_of_mem _ hy))⟩
      rcases List.mem_cons.1 ((putF_perm l f).mem_iff.1 hx) with rfl | hx'
      · exact e
      · exact h.1 x hx'
    · rw [if_neg e, List.pairwise_cons]
      have hlt : f.name < g.name := by
        have h1 := hn g List.mem_cons_self
        have h2 : f.name ≤ g.name := List.not_lt.1 e
        by_cases h3 : f.name < g.name
        · exact h3
        · exact absurd (List.le_antisymm (List.not_lt.1 h3) h2) h1
      refine ⟨fun x hx => ?_, List.pairwise_cons.2 h⟩
      rcases List.mem_cons.1 hx with rfl | hx'
      · exact hlt
      · exact List.lt_trans hlt (h.1 x hx')
theorem LOk.put {l : List Fl} (h : LOk l) {f : Fl} (hn : getF l f.name = none) (hf : FlOk f) (hu : usedL l + sect f.now.length ≤ 1048576) : LOk (putF l f) :=
  ⟨putF_rise h.rise (getF_none hn), fun g hg => by
    rcases List.mem_cons.1 ((putF_perm l f).mem_iff.1 hg) with rfl | hg'
    · exact hf
    · exact h.files g hg', by rw [used_put]; exact hu⟩
theorem LOk.del {l : List Fl} (h : LOk l) (nm : List UInt8) : LOk (delF l nm) :=
  ⟨h.rise.filter _, fun g hg => h.files g (List.mem_filter.1 hg).1, Nat.le_trans (used_del_le l nm) h.used⟩
theorem LOk.set {l : List Fl} (h : LOk l) {f f' : Fl} (hg : getF l f'.name = some f) (hf : FlOk f') (hu : usedL l + sect f'.now.length ≤ 1048576 + sect f.now.length) : LOk (setF l f') := by
  refine ⟨?_, fun g hg' => ?_, ?_⟩
  · have hm : (setF l f').map (·.name) = l.map (·.name) := by
      unfold setF
      rw [List.map_map]
      apply List.map_congr_left
      intro g hg
      simp only [Function.comp]
      split
      · rename_i q; exact q.symm
      · rfl
    have h1 : (l.map (·.name)).Pairwise (· < ·) := List.pairwise_map.2 h.rise
    rw [← hm] at h1
    exact List.pairwise_map.1 h1
  · obtain ⟨x, hx, he⟩ := List.mem_map.1 hg'
    by_cases q : x.name = f'.name
    · rw [if_pos q] at he
      rw [← he]
      exact hf
    · rw [if_neg q] at he
      rw [← he]
      exact h.files x hx
  · have := used_set l f' f h.rise hg
    omega
theorem backL_names (keep : List Int) : ∀ (l : List Fl) (base : Nat), (backL keep l base).map (·.name) = l.map (·.name)
  | [], _ => rfl
  | f :: l, base => by
    unfold backL
    rw [List.map_cons, List.map_cons, backL_names keep l]
    rfl
theorem mem_backL {keep : List Int} : ∀ {l : List Fl} {base : Nat} {g : Fl}, g ∈ backL keep l base → ∃ f ∈ l, ∃ b, g = backF f b keep
  | [], _, g, h => by cases h
  | f :: l, base, g, h => by
    unfold backL at h
    rcases List.mem_cons.1 h with rfl | h'
    · exact ⟨f, List.mem_cons_self, base, rfl⟩
    · obtain ⟨f2, hf2, b, e⟩ := mem_backL h'
      exact ⟨f2, List.mem_cons_of_mem _ hf2, b, e⟩
theorem LOk.back {l : List Fl} (h : LOk l) (keep : List Int) (base : Nat) : LOk (backL keep l base) := by
  refine ⟨?_, fun g hg => ?_, Nat.le_trans (used_back keep l base fun f hf => (h.files f hf).lasts) h.used⟩
  · have h1 : (l.map (·.name)).Pairwise (· < ·) := List.pairwise_map.2 h.rise
    rw [← backL_names keep l base] at h1
    exact List.pairwise_map.1 h1
  · obtain ⟨f, hf, b, rfl⟩ := mem_backL hg
    have q := h.files f hf
    have hb := backB_bounds f (keptF f b keep) q.lasts
    refine ⟨q.name, Nat.le_trans hb.2 q.size, Nat.le_refl _, fun k hk => by cases hk⟩
theorem FlOk.write {f : Fl} (h : FlOk f) {off : Nat} {b : List UInt8} (ho : off ≤ f.now.length) (hm : off + b.length ≤ 16777216) : FlOk (writeF f off b) := by
  have hl : (writeF f off b).now.length = max f.now.length (off + b.length) := layB_length f.now off b ho
  refine ⟨h.name, by have := h.size; omega, by have := h.lasts; show f.lasts.length ≤ _; omega, fun k hk => ?_⟩
  rw [hl]
  have hk' : (f.loose k || (decide (0 < b.length) && decide (off / 64 ≤ k) && decide (k ≤ (off + b.length - 1) / 64))) = true := hk
  rw [Bool.or_eq_true] at hk'
  rcases hk' with h1 | h1
  · have := h.loose k h1
    have := sect_le (show f.now.length ≤ max f.now.length (off + b.length) by omega)
    omega
  · simp only [Bool.and_eq_true, decide_eq_true_eq] at h1
    unfold sect
    omega
theorem FlOk.cut {f : Fl} (h : FlOk f) {n : Nat} (hn : n ≤ f.now.length) : FlOk (cutF f n) := by
  have hl : (cutF f n).now.length = n := by show (f.now.take n).length = n; rw [List.length_take]; omega
  refine ⟨h.name, by have := h.size; omega, by show (f.lasts.take n).length ≤ _; rw [hl, List.length_take]; omega, fun k hk => ?_⟩
  have hk' : (f.loose k && decide (k < sect n)) = true := hk
  rw [Bool.and_eq_true, decide_eq_true_eq] at hk'
  rw [hl]
  exact hk'.2
theorem FlOk.sync {f : Fl} (h : FlOk f) : FlOk (syncF f) := ⟨h.name, h.size, Nat.le_refl _, fun k hk => by cases hk⟩
theorem flipB_len (l : List UInt8) (i : Nat) (m : UInt8) : (flipB l i m).length = l.length := by simp [flipB]
theorem FlOk.flip {f : Fl} (h : FlOk f) (i : Nat) (m : UInt8) : FlOk (flipF f i m) :=
  ⟨h.name, by show (flipB f.now i m).length ≤ _; rw [flipB_len]; exact h.size, by show (flipB f.lasts i m).length ≤ (flipB f.now i m).length; rw [flipB_len, flipB_len]; exact h.lasts, fun k hk => by
    show k < sect (flipB f.now i m).length
    rw [flipB_len]
    exact h.loose k hk⟩
theorem FlOk.fresh {nm : List UInt8} (h : nameOk nm = true) : FlOk ⟨nm, [], [], fun _ => false⟩ := ⟨h, by simp, by simp, fun k hk => by cases hk⟩
theorem FlOk.named {f : Fl} (h : FlOk f) {nm : List UInt8} (hn : nameOk nm = true) : FlOk { f with name := nm } := ⟨hn, h.size, h.lasts, h.loose⟩
theorem getF_del_self (l : List Fl) (nm : List UInt8) : getF (delF l nm) nm = none := by
  unfold getF delF
  rw [List.find?_eq_none]
  intro f hf
  have := (List.mem_filter.1 hf).2
  simpa using this
theorem getF_del_none {l : List Fl} {nm : List UInt8} (a : List UInt8) (h : getF l nm = none) : getF (delF l a) nm = none := by
  unfold getF delF at *
  rw [List.find?_eq_none] at *
  intro f hf
  exact h f (List.mem_filter.1 hf).1
end Go.Proofs.Ytpbkkbkpodcgnaa
