/- Mathematics of no program: distances by edges that are tried again and again, and a search's answer. -/
import Derived.Test.YtkijfbnibfbldaaWitDij
import Derived.Test.YtkijfbnibfbldaaWitHeap
namespace Go.Proofs.Ytkijfbnibfbldaa
open Go.RowKit
set_option linter.unusedSimpArgs false
set_option linter.unusedVariables false
set_option maxRecDepth 100000

def dAt (all : List Nat) (dl : List Nat) (v : Nat) : Nat := dl.getD (all.idxOf v) far
def relB (all : List Nat) (av : Nat → Bool) (dl : List Nat) (e : Ed) : Bool := addB (dAt all dl e.t) e.x && !av e.h && decide (dAt all dl e.t + e.x < dAt all dl e.h)
def relaxL (all : List Nat) (av : Nat → Bool) (dl : List Nat) (e : Ed) : List Nat := if relB all av dl e then dl.set (all.idxOf e.h) (dAt all dl e.t + e.x) else dl
def bfR (all : List Nat) (av : Nat → Bool) (E : List Ed) (dl : List Nat) : List Nat := E.foldl (relaxL all av) dl
def bfN (all : List Nat) (av : Nat → Bool) (E : List Ed) (fr : Nat) : Nat → List Nat
  | 0 => all.map fun v => if v = fr then 0 else far
  | k + 1 => bfR all av E (bfN all av E fr k)
section
variable {all : List Nat} {av : Nat → Bool} {E : List Ed} {fr : Nat} {dl : List Nat}
theorem relaxL_len (e : Ed) : (relaxL all av dl e).length = dl.length := by unfold relaxL; split <;> simp
theorem bfR_len : (bfR all av E dl).length = dl.length := by
  unfold bfR
  induction E generalizing dl with
  | nil => rfl
  | cons e E ih => rw [List.foldl_cons, ih, relaxL_len]
theorem bfN_len (k : Nat) : (bfN all av E fr k).length = all.length := by
  induction k with
  | zero => simp [bfN]
  | succ k ih => rw [bfN, bfR_len, ih]
theorem idx_inj {u v : Nat} (hu : u ∈ all) (h : all.idxOf u = all.idxOf v) : u = v := by
  have h1 : all.idxOf u < all.length := List.idxOf_lt_length_iff.2 hu
  have h2 : all.idxOf v < all.length := by rw [← h]; exact h1
  have e1 := List.getElem_idxOf h1
  have e2 := List.getElem_idxOf h2
  simp only [h] at e1
  exact e1.symm.trans e2
theorem relax_at (hl : dl.length = all.length) (e : Ed) (hh : e.h ∈ all) {v : Nat} (hv : v ∈ all) : dAt all (relaxL all av dl e) v = if relB all av dl e = true ∧ v = e.h then dAt all dl e.t + e.x else dAt all dl v := by
  unfold relaxL
  by_cases hc : relB all av dl e = true
  · rw [if_pos hc]
    have h1 : all.idxOf e.h < dl.length := by rw [hl]; exact List.idxOf_lt_length_iff.2 hh
    by_cases ev : v = e.h
    · subst ev
      rw [if_pos ⟨hc, rfl⟩]
      show (dl.set _ _).getD _ _ = _
      rw [List.getD_eq_getElem?_getD, List.getElem?_set_self h1]
      rfl
    · rw [if_neg (fun h => ev h.2)]
      show (dl.set _ _).getD _ _ = _
      rw [List.getD_eq_getElem?_getD, List.getElem?_set_ne (fun h => ev (idx_inj hv h.symm)), ← List.getD_eq_getElem?_getD]
      rfl
  · rw [if_neg hc, if_neg (fun h => hc h.1)]
theorem relax_le (hl : dl.length = all.length) (e : Ed) (hh : e.h ∈ all) {v : Nat} (hv : v ∈ all) : dAt all (relaxL all av dl e) v ≤ dAt all dl v := by
  rw [relax_at hl e hh hv]
  split
  · rename_i h
    obtain ⟨h1, rfl⟩ := h
    unfold relB at h1
    simp only [Bool.and_eq_true, decide_eq_true_eq] at h1
    omega
  · exact Nat.le_refl _
theorem bfR_le (hl : dl.length = all.length) (hE : ∀ e ∈ E, e.h ∈ all) {v : Nat} (hv : v ∈ all) : dAt all (bfR all av E dl) v ≤ dAt all dl v := by
  unfold bfR
  induction E generalizing dl with
  | nil => exact Nat.le_refl _
  | cons e E ih =>
    rw [List.foldl_cons]
    have h1 := ih (dl := relaxL all av dl e) (by rw [relaxL_len, hl]) (fun e he => hE e (by simp [he]))
    have h2 := relax_le (av := av) hl e (hE e (by simp)) hv
    omega
theorem bfR_edge (hl : dl.length = all.length) (hE : ∀ e ∈ E, e.t ∈ all ∧ e.h ∈ all) {e : Ed} (he : e ∈ E) (ha : av e.h = false) {c : Nat} (hc : dAt all dl e.t ≤ c) (hx : addB c e.x = true) : dAt all (bfR all av E dl) e.h ≤ c + e.x := by
  unfold bfR
  induction E generalizing dl with
  | nil => simp at he
  | cons a E ih =>
    rw [List.foldl_cons]
    have hl2 : (relaxL all av dl a).length = all.length := by rw [relaxL_len, hl]
    by_cases hea : e = a
    · subst hea
      have h1 : dAt all (relaxL all av dl e) e.h ≤ c + e.x := by
        rw [relax_at hl e (hE e (by simp)).2 (hE e (by simp)).2]
        have hx2 : addB (dAt all dl e.t) e.x = true := by unfold addB at *; simp only [decide_eq_true_eq] at *; omega
        split
        · omega
        · rename_i h
          by_cases hlt : dAt all dl e.t + e.x < dAt all dl e.h
          · exact absurd ⟨by unfold relB; simp [hx2, ha, hlt], rfl⟩ h
          · omega
      have h2 := bfR_le (av := av) (E := E) hl2 (fun e he => (hE e (by simp [he])).2) (hE e (by simp)).2
      unfold bfR at h2
      omega
    · have heE : e ∈ E := by rcases List.mem_cons.1 he with h | h; exact absurd h hea; exact h
      refine ih (dl := relaxL all av dl a) hl2 (fun e he => hE e (by simp [he])) heE ?_
      have := relax_le (av := av) hl a (hE a (by simp)).2 (hE e (by simp [heE])).1
      omega
theorem dAt_zero (v : Nat) (hv : v ∈ all) : dAt all (bfN all av E fr 0) v = if v = fr then 0 else far := by
  have h1 : all.idxOf v < all.length := List.idxOf_lt_length_iff.2 hv
  unfold dAt bfN
  rw [List.getD_eq_getElem?_getD, List.getElem?_map, List.getElem?_eq_getElem h1, List.getElem_idxOf h1]
  rfl
theorem bf_upper {o : Outs} (hE : ∀ e ∈ E, e.t ∈ all ∧ e.h ∈ all) (hfr : fr ∈ all) (ho : ∀ u e, e ∈ (o u).2 → e ∈ E ∧ e.t = u) {SD : List (Nat × Nat)} (h : Chn o av fr SD) :
    (∀ v d, (v, d) ∈ SD → v ∈ all) ∧ ∀ k, SD.length ≤ k → ∀ v d, (v, d) ∈ SD → dAt all (bfN all av E fr k) v ≤ d := by
  induction h with
  | nil => exact ⟨fun v d h => (by simp at h), fun k _ v d h => (by simp at h)⟩
  | @snoc SD v0 d0 hc hp ih =>
    have hv0 : v0 ∈ all := by
      rcases hp with ⟨rfl, -⟩ | ⟨u, c, e, h1, h2, rfl, -⟩
      · exact hfr
      · exact (hE e (ho u e h2).1).2
    refine ⟨fun v d h => ?_, fun k hk v d h => ?_⟩
    · rcases List.mem_append.1 h with h | h
      · exact ih.1 v d h
      · simp only [List.mem_singleton, Prod.mk.injEq] at h; rw [h.1]; exact hv0
    · rw [List.length_append, List.length_singleton] at hk
      rcases List.mem_append.1 h with h | h
      · exact ih.2 k (by omega) v d h
      · simp only [List.mem_singleton, Prod.mk.injEq] at h
        obtain ⟨rfl, rfl⟩ := h
        obtain ⟨k, rfl⟩ : ∃ k', k = k' + 1 := ⟨k - 1, by omega⟩
        rcases hp with ⟨rfl, rfl⟩ | ⟨u, c, e, h1, h2, rfl, h4, h5, rfl⟩
        · have : ∀ k, dAt all (bfN all av E v k) v ≤ 0 := fun k => by
            induction k with
            | zero => rw [dAt_zero v hv0, if_pos rfl]; exact Nat.le_refl _
            | succ k ihk => exact Nat.le_trans (bfR_le (bfN_len k) (fun e he => (hE e he).2) hv0) ihk
          exact this _
        · obtain ⟨he, ht⟩ := ho u e h2
          subst ht
          exact bfR_edge (bfN_len k) hE he h4 (ih.2 k (by omega) _ _ h1) h5
/-- whatever the sums say is a way -/
theorem bf_sound {o : Outs} (hE : ∀ e ∈ E, e.t ∈ all ∧ e.h ∈ all) (ho : ∀ e ∈ E, e ∈ (o e.t).2) : ∀ (k : Nat) (v : Nat), v ∈ all → dAt all (bfN all av E fr k) v < far → Way o av fr v (dAt all (bfN all av E fr k) v) := by
  have main : ∀ (E' : List Ed) (dl : List Nat), (∀ e ∈ E', e ∈ E) → dl.length = all.length → (∀ v, v ∈ all → dAt all dl v < far → Way o av fr v (dAt all dl v)) → ∀ v, v ∈ all → dAt all (E'.foldl (relaxL all av) dl) v < far → Way o av fr v (dAt all (E'.foldl (relaxL all av) dl) v) := by
    intro E'
    induction E' with
    | nil => intro dl _ _ h; exact h
    | cons e E' ih =>
      intro dl hs hl h
      rw [List.foldl_cons]
      refine ih _ (fun e he => hs e (by simp [he])) (by rw [relaxL_len, hl]) fun v hv => ?_
      have heE := hs e (by simp)
      rw [relax_at hl e (hE e heE).2 hv]
      split
      · rename_i hc
        obtain ⟨hc, rfl⟩ := hc
        intro hlt
        unfold relB at hc
        simp only [Bool.and_eq_true, Bool.not_eq_true', decide_eq_true_eq] at hc
        have hadd := hc.1.1
        have : dAt all dl e.t < far := by unfold addB at hadd; simp only [decide_eq_true_eq] at hadd; omega
        exact .step (h e.t (hE e heE).1 this) (ho e heE) hc.1.2 hadd
      · exact h v hv
  intro k
  induction k with
  | zero =>
    intro v hv
    rw [dAt_zero v hv]
    split
    · rename_i e; subst e; intro _; exact .start
    · intro h; exact absurd h (Nat.lt_irrefl _)
  | succ k ih => exact main E _ (fun _ h => h) (bfN_len k) ih
theorem EndW.yes {o : Outs} {to most : Nat} {r : Answ} (h : EndW o av fr to most r) (hr : r.2.1 = true) : r.2.2 = 0 ∧ ∃ SD d, Chn o av fr SD ∧ PreW o av fr SD to d ∧ d ≤ most ∧ (SD.map Prod.fst ++ [to]).Nodup := by
  rcases h with ⟨h1, h2, h3⟩ | ⟨h1, h2, h3⟩ | ⟨h1, h2, h3⟩
  · rw [hr] at h2; cases h2
  · exact ⟨h1, h3⟩
  · rw [hr] at h2; cases h2
theorem Chn.alls {o : Outs} {SD : List (Nat × Nat)} (h : Chn o av fr SD) (ha : ∀ v d, Way o av fr v d → v ∈ all) : ∀ v ∈ SD.map Prod.fst, v ∈ all := by
  intro v hv
  obtain ⟨p, hp, rfl⟩ := List.mem_map.1 hv
  exact ha _ _ (h.way p.1 p.2 hp)
theorem EndW.no {o : Outs} {to most : Nat} {r : Answ} (h : EndW o av fr to most r) (hr : r.2.1 = false) (he : r.2.2 = 0) (ha : ∀ v d, Way o av fr v d → v ∈ all) (hl : all.length ≤ 16) : ∀ d, Way o av fr to d → most < d := by
  rcases h with ⟨h1, h2, h3⟩ | ⟨h1, h2, h3⟩ | ⟨h1, h2, SD, W, hD, ht, hf⟩
  · exact absurd he h1
  · rw [hr] at h2; cases h2
  · rcases hf with hf | ⟨h16, hW⟩
    · intro d hd
      refine Nat.lt_of_not_le fun hle => ?_
      obtain ⟨c, hc, -⟩ := hD.near hf hd hle
      exact ht (List.mem_map.2 ⟨(to, c), hc, rfl⟩)
    · exfalso
      cases W with
      | nil => exact hW rfl
      | cons p W =>
        have hp : (p.1, p.2) ∈ p :: W := by simp
        have := nodup_sub_len (l := p.1 :: SD.map Prod.fst) (m := all) (List.nodup_cons.2 ⟨hD.ap _ _ hp, hD.nd⟩) (fun y hy => by
          rcases List.mem_cons.1 hy with rfl | hy
          · exact ha _ _ ((hD.pre _ _ hp).way hD.chn)
          · exact hD.chn.alls ha y hy)
        simp only [List.length_cons, List.length_map] at this
        omega
end
end Go.Proofs.Ytkijfbnibfbldaa
