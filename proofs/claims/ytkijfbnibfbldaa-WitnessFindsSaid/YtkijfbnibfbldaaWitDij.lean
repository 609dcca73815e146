/- Mathematics of no program: where a search says yes there is a way; where it says no there is none (chapter 14, what follows). -/
import Derived.Test.YtkijfbnibfbldaaWitMath
namespace Go.Proofs.Ytkijfbnibfbldaa
open Go.RowKit
set_option linter.unusedSimpArgs false
set_option linter.unusedVariables false
set_option maxRecDepth 100000

/-- a way to v, so long -/
inductive Way (o : Outs) (av : Nat → Bool) (fr : Nat) : Nat → Nat → Prop
  | start : Way o av fr fr 0
  | step {u c : Nat} {e : Ed} : Way o av fr u c → e ∈ (o u).2 → av e.h = false → addB c e.x = true → Way o av fr e.h (c + e.x)
/-- how v was come to, from one of these -/
def PreW (o : Outs) (av : Nat → Bool) (fr : Nat) (SD : List (Nat × Nat)) (v d : Nat) : Prop :=
  (v = fr ∧ d = 0) ∨ ∃ u c e, (u, c) ∈ SD ∧ e ∈ (o u).2 ∧ e.h = v ∧ av v = false ∧ addB c e.x = true ∧ d = c + e.x
inductive Chn (o : Outs) (av : Nat → Bool) (fr : Nat) : List (Nat × Nat) → Prop
  | nil : Chn o av fr []
  | snoc {SD : List (Nat × Nat)} {v d : Nat} : Chn o av fr SD → PreW o av fr SD v d → Chn o av fr (SD ++ [(v, d)])
structure Dij (o : Outs) (av : Nat → Bool) (fr : Nat) (SD : List (Nat × Nat)) (W : Wt) : Prop where
  chn : Chn o av fr SD
  nd : (SD.map Prod.fst).Nodup
  ap : ∀ v d, (v, d) ∈ W → v ∉ SD.map Prod.fst
  pre : ∀ v d, (v, d) ∈ W → PreW o av fr SD v d
  mono : ∀ u c v d, (u, c) ∈ SD → (v, d) ∈ W → c ≤ d
  clo : ∀ u c e, (u, c) ∈ SD → e ∈ (o u).2 → av e.h = false → addB c e.x = true → (∃ d, (e.h, d) ∈ SD ∧ d ≤ c + e.x) ∨ ∃ d, (e.h, d) ∈ W ∧ d ≤ c + e.x
  st : (SD = [] ∧ W = [(fr, 0)]) ∨ (fr, 0) ∈ SD
  onc : Onces W
section
variable {o : Outs} {av : Nat → Bool} {fr : Nat} {SD : List (Nat × Nat)} {W : Wt}
theorem PreW.more {v d : Nat} (h : PreW o av fr SD v d) (p : Nat × Nat) : PreW o av fr (SD ++ [p]) v d := by
  rcases h with h | ⟨u, c, e, h1, h2⟩
  · exact .inl h
  · exact .inr ⟨u, c, e, by simp [h1], h2⟩
theorem Chn.way (h : Chn o av fr SD) : ∀ v d, (v, d) ∈ SD → Way o av fr v d := by
  induction h with
  | nil => intro v d h; simp at h
  | snoc hc hp ih =>
    intro v d h
    rcases List.mem_append.1 h with h | h
    · exact ih v d h
    · simp only [List.mem_singleton, Prod.mk.injEq] at h
      obtain ⟨rfl, rfl⟩ := h
      rcases hp with ⟨rfl, rfl⟩ | ⟨u, c, e, h1, h2, rfl, h4, h5, rfl⟩
      · exact .start
      · exact .step (ih u c h1) h2 h4 h5
theorem PreW.way {v d : Nat} (hc : Chn o av fr SD) (h : PreW o av fr SD v d) : Way o av fr v d := (hc.snoc h).way v d (by simp)
theorem comeW_mem {u c a b : Nat} (h : (u, c) ∈ comeW W a b) : (u, c) ∈ W ∨ (u = a ∧ c = b) := by
  unfold comeW at h
  split at h
  · exact .inl h
  · unfold putM at h
    rcases List.mem_cons.1 h with e | h
    · injection e with e1 e2; exact .inr ⟨e1, e2⟩
    · unfold delM at h; exact .inl (List.mem_filter.1 h).1
theorem comeW_keep {u c : Nat} (a b : Nat) (hn : Onces W) (h : (u, c) ∈ W) : ∃ c', c' ≤ c ∧ (u, c') ∈ comeW W a b := by
  unfold comeW
  by_cases hl : lateB W a b = true
  · rw [if_pos hl]; exact ⟨c, Nat.le_refl _, h⟩
  · rw [if_neg hl]
    by_cases e : u = a
    · subst e
      refine ⟨b, ?_, by simp [putM]⟩
      unfold lateB at hl
      rw [lookM_of_memW hn h] at hl
      simp at hl
      omega
    · exact ⟨c, Nat.le_refl _, by unfold putM delM; simp [h, e]⟩
theorem comeW_at (a b : Nat) : ∃ c', c' ≤ b ∧ (a, c') ∈ comeW W a b := by
  unfold comeW
  by_cases hl : lateB W a b = true
  · rw [if_pos hl]
    unfold lateB at hl
    cases e : lookM W a with
    | none => rw [e] at hl; cases hl
    | some c => rw [e] at hl; exact ⟨c, by simpa using hl, lookM_memW e⟩
  · rw [if_neg hl]; exact ⟨b, Nat.le_refl _, by simp [putM]⟩
theorem folW_mem {S : List Nat} {d : Nat} {l : List Ed} : ∀ {W : Wt} {u c : Nat}, (u, c) ∈ folW av S d l W → (u, c) ∈ W ∨ ∃ e ∈ l, goB av S d e = true ∧ u = e.h ∧ c = d + e.x := by
  induction l with
  | nil => intro W u c h; exact .inl h
  | cons e l ih =>
    intro W u c h
    unfold folW at h
    rcases ih h with h | ⟨e', h1, h2⟩
    · split at h
      · rename_i hg
        rcases comeW_mem h with h | ⟨h1, h2⟩
        · exact .inl h
        · exact .inr ⟨e, by simp, hg, h1, h2⟩
      · exact .inl h
    · exact .inr ⟨e', by simp [h1], h2⟩
theorem folW_keep {S : List Nat} {d : Nat} {l : List Ed} : ∀ {W : Wt} {u c : Nat}, Onces W → (u, c) ∈ W → ∃ c', c' ≤ c ∧ (u, c') ∈ folW av S d l W := by
  induction l with
  | nil => intro W u c hn h; exact ⟨c, Nat.le_refl _, h⟩
  | cons e l ih =>
    intro W u c hn h
    unfold folW
    split
    · obtain ⟨c1, h1, h2⟩ := comeW_keep e.h (d + e.x) hn h
      obtain ⟨c2, h3, h4⟩ := ih (comeW_onces hn _ _) h2
      exact ⟨c2, by omega, h4⟩
    · exact ih hn h
theorem folW_at {S : List Nat} {d : Nat} {l : List Ed} : ∀ {W : Wt} {e : Ed}, Onces W → e ∈ l → goB av S d e = true → ∃ c', c' ≤ d + e.x ∧ (e.h, c') ∈ folW av S d l W := by
  induction l with
  | nil => intro W e hn h; simp at h
  | cons a l ih =>
    intro W e hn h hg
    unfold folW
    rcases List.mem_cons.1 h with rfl | h
    · rw [if_pos hg]
      obtain ⟨c1, h1, h2⟩ := comeW_at (W := W) e.h (d + e.x)
      obtain ⟨c2, h3, h4⟩ := folW_keep (av := av) (S := S) (d := d) (l := l) (comeW_onces hn _ _) h2
      exact ⟨c2, by omega, h4⟩
    · split
      · exact ih (comeW_onces hn _ _) h hg
      · exact ih hn h hg
theorem Dij.start (o : Outs) (av : Nat → Bool) (fr : Nat) : Dij o av fr [] [(fr, 0)] :=
  ⟨.nil, by simp, by simp, fun v d h => (by simp only [List.mem_singleton, Prod.mk.injEq] at h; exact .inl h), fun _ _ _ _ h => (by simp at h), fun _ _ _ h => (by simp at h), .inl ⟨rfl, rfl⟩, by simp [Onces]⟩
theorem Dij.step {v d : Nat} (h : Dij o av fr SD W) (l : LeastW v d W) : Dij o av fr (SD ++ [(v, d)]) (folW av (SD.map Prod.fst ++ [v]) d (o v).2 (delM W v)) := by
  have hdel : ∀ u c, (u, c) ∈ delM W v ↔ (u, c) ∈ W ∧ u ≠ v := fun u c => by unfold delM; simp
  have hon := delM_onces h.onc v
  refine ⟨h.chn.snoc (h.pre v d l.mem), ?_, ?_, ?_, ?_, ?_, ?_, folW_onces _ _ _ _ hon⟩
  · rw [List.map_append, List.nodup_append]
    refine ⟨h.nd, by simp, ?_⟩
    intro a ha b hb
    simp at hb
    subst hb
    exact fun e => h.ap _ _ l.mem (e ▸ ha)
  · intro u c hu
    rw [List.map_append]
    simp only [List.map_cons, List.map_nil]
    rcases folW_mem hu with hu | ⟨e, he, hg, rfl, rfl⟩
    · obtain ⟨h1, h2⟩ := (hdel u c).1 hu
      simp only [List.mem_append, List.mem_singleton, not_or]
      exact ⟨h.ap u c h1, h2⟩
    · unfold goB at hg
      simp only [Bool.and_eq_true, Bool.not_eq_true', decide_eq_false_iff_not] at hg
      exact hg.1.2
  · intro u c hu
    rcases folW_mem hu with hu | ⟨e, he, hg, rfl, rfl⟩
    · exact (h.pre u c ((hdel u c).1 hu).1).more _
    · unfold goB at hg
      simp only [Bool.and_eq_true, Bool.not_eq_true', decide_eq_false_iff_not] at hg
      exact .inr ⟨v, d, e, by simp, he, rfl, hg.1.1, hg.2, rfl⟩
  · intro u c u2 c2 hu hu2
    have hdc : d ≤ c2 := by
      rcases folW_mem hu2 with hu2 | ⟨e, he, hg, rfl, rfl⟩
      · have := l.le u2 c2 ((hdel u2 c2).1 hu2).1
        rw [lessB_false] at this
        simp only at this
        omega
      · omega
    rcases List.mem_append.1 hu with hu | hu
    · have := h.mono u c v d hu l.mem; omega
    · simp only [List.mem_singleton, Prod.mk.injEq] at hu
      omega
  · intro u c e hu he ha hx
    rcases List.mem_append.1 hu with hu | hu
    · rcases h.clo u c e hu he ha hx with ⟨d1, h1, h2⟩ | ⟨d1, h1, h2⟩
      · exact .inl ⟨d1, by simp [h1], h2⟩
      · by_cases ev : e.h = v
        · refine .inl ⟨d, by simp [ev], ?_⟩
          have e1 := lookM_of_memW h.onc h1
          have e2 := lookM_of_memW h.onc l.mem
          rw [ev, e2] at e1
          injection e1 with e1
          omega
        · obtain ⟨c', h3, h4⟩ := folW_keep (av := av) (S := SD.map Prod.fst ++ [v]) (d := d) (l := (o v).2) hon ((hdel e.h d1).2 ⟨h1, ev⟩)
          exact .inr ⟨c', h4, by omega⟩
    · simp only [List.mem_singleton, Prod.mk.injEq] at hu
      obtain ⟨rfl, rfl⟩ := hu
      by_cases hin : e.h ∈ SD.map Prod.fst ++ [u]
      · left
        rcases List.mem_append.1 hin with hin | hin
        · obtain ⟨p, hp, hpe⟩ := List.mem_map.1 hin
          refine ⟨p.2, by rw [← hpe]; simp [hp], ?_⟩
          have := h.mono p.1 p.2 u c hp l.mem
          omega
        · simp at hin
          exact ⟨c, by simp [hin], by omega⟩
      · obtain ⟨c', h3, h4⟩ := folW_at (av := av) (S := SD.map Prod.fst ++ [u]) (d := c) (l := (o u).2) hon he (by unfold goB; simp only [ha, hx, Bool.not_false, Bool.true_and, Bool.and_true, Bool.not_eq_true', decide_eq_false_iff_not]; exact hin)
        exact .inr ⟨c', h4, h3⟩
  · right
    rcases h.st with ⟨h1, h2⟩ | h1
    · subst h2
      have := l.mem
      simp only [List.mem_singleton, Prod.mk.injEq] at this
      simp [this.1, this.2]
    · simp [h1]
/-- all that is near enough is settled -/
theorem Dij.near (h : Dij o av fr SD W) {most : Nat} (hfar : ∀ v d, (v, d) ∈ W → most < d) {v d : Nat} (w : Way o av fr v d) : d ≤ most → ∃ c, (v, c) ∈ SD ∧ c ≤ d := by
  induction w with
  | start =>
    intro hd
    rcases h.st with ⟨h1, h2⟩ | h1
    · have := hfar fr 0 (by simp [h2]); omega
    · exact ⟨0, h1, Nat.le_refl _⟩
  | @step u c e w1 he ha hx ih =>
    intro hd
    obtain ⟨c1, h1, h2⟩ := ih (by omega)
    have hx1 : addB c1 e.x = true := by unfold addB at *; simp only [decide_eq_true_eq] at *; omega
    rcases h.clo u c1 e h1 he ha hx1 with ⟨d1, h3, h4⟩ | ⟨d1, h3, h4⟩
    · exact ⟨d1, h3, by omega⟩
    · have := hfar _ _ h3; omega
/-- what an answer says -/
def EndW (o : Outs) (av : Nat → Bool) (fr to most : Nat) (r : Answ) : Prop :=
  (r.2.2 ≠ 0 ∧ r.2.1 = false ∧ ∃ v, (o v).1 = r.2.2) ∨
  (r.2.2 = 0 ∧ r.2.1 = true ∧ ∃ SD d, Chn o av fr SD ∧ PreW o av fr SD to d ∧ d ≤ most ∧ (SD.map Prod.fst ++ [to]).Nodup) ∨
  (r.2.2 = 0 ∧ r.2.1 = false ∧ ∃ SD W, Dij o av fr SD W ∧ to ∉ SD.map Prod.fst ∧ ((∀ v d, (v, d) ∈ W → most < d) ∨ (SD.length = 16 ∧ W ≠ [])))
theorem Ans.ends {to most : Nat} {S : List Nat} {r : Answ} (h : Ans o av to most S W r) : ∀ {SD : List (Nat × Nat)}, S = SD.map Prod.fst → to ∉ S → Dij o av fr SD W → EndW o av fr to most r := by
  induction h with
  | none S => intro SD e ht hd; subst e; exact .inr (.inr ⟨rfl, rfl, SD, [], hd, ht, .inl (by simp)⟩)
  | @far S W v d l c =>
    intro SD e ht hd
    subst e
    refine .inr (.inr ⟨rfl, rfl, SD, W, hd, ht, ?_⟩)
    rcases c with c | c
    · left
      intro u x hu
      have := l.le u x hu
      rw [lessB_false] at this
      simp only at this
      omega
    · exact .inr ⟨by simpa using c, fun e => by have := l.mem; rw [e] at this; simp at this⟩
  | @yes S W v d l a b c =>
    intro SD e ht hd
    subst e
    subst c
    refine .inr (.inl ⟨rfl, rfl, SD, d, hd.chn, hd.pre v d l.mem, a, ?_⟩)
    rw [List.nodup_append]
    refine ⟨hd.nd, by simp, ?_⟩
    intro x hx y hy
    simp at hy
    subst hy
    exact fun e => ht (e ▸ hx)
  | @err S W v d l a b c e0 => intro SD e ht hd; exact .inl ⟨e0, rfl, v, rfl⟩
  | @go S W v d r l a b c e0 _ ih =>
    intro SD e ht hd
    subst e
    refine ih (SD := SD ++ [(v, d)]) (by simp) ?_ (hd.step l)
    simp only [List.mem_append, List.mem_singleton, not_or]
    exact ⟨ht, fun e => c e.symm⟩
end
end Go.Proofs.Ytkijfbnibfbldaa
