/- Mathematics of no program: what is done to one file leaves the others; the sectors used. -/
import Derived.Test.YtmholhjdpkfleaaDoorQDiskMath
namespace Go.Proofs.YtmholhjdpkfleaaDoor
set_option linter.unusedSimpArgs false
set_option linter.unusedVariables false
set_option maxRecDepth 100000

theorem getF_cons (g : Fl) (l : List Fl) (nm : List UInt8) : getF (g :: l) nm = if g.name = nm then some g else getF l nm := by
  unfold getF
  rw [List.find?_cons]
  by_cases h : g.name = nm <;> simp [h]
theorem getF_name {l : List Fl} {nm : List UInt8} {f : Fl} (h : getF l nm = some f) : f.name = nm := by
  have := List.find?_some h
  simpa using this
theorem getF_mem {l : List Fl} {nm : List UInt8} {f : Fl} (h : getF l nm = some f) : f ∈ l := List.mem_of_find?_eq_some h
theorem getF_set (l : List Fl) (f : Fl) (nm : List UInt8) (h : f.name ≠ nm) : getF (setF l f) nm = getF l nm := by
  induction l with
  | nil => rfl
  | cons g l ih =>
    show getF ((if g.name = f.name then f else g) :: setF l f) nm = _
    rw [getF_cons, getF_cons, ih]
    by_cases e : g.name = f.name
    · rw [if_pos e, if_neg h, if_neg (fun e2 => h (by rw [← e, e2]))]
    · rw [if_neg e]
theorem getF_del (l : List Fl) (a nm : List UInt8) (h : a ≠ nm) : getF (delF l a) nm = getF l nm := by
  induction l with
  | nil => rfl
  | cons g l ih =>
    unfold delF at *
    rw [List.filter_cons]
    by_cases e : g.name = a
    · rw [if_neg (by simp [e]), ih, getF_cons, if_neg (fun e2 => h (by rw [← e, e2]))]
    · rw [if_pos (by simp [e]), getF_cons, getF_cons, ih]
theorem getF_put (l : List Fl) (f : Fl) (nm : List UInt8) (h : f.name ≠ nm) : getF (putF l f) nm = getF l nm := by
  induction l with
  | nil => simp [putF, getF, h]
  | cons g l ih =>
    unfold putF
    by_cases e : g.name < f.name
    · rw [if_pos e, getF_cons, getF_cons, ih]
    · rw [if_neg e, getF_cons, if_neg h]
theorem gone_l (s : Ds) : (goneS s).l = s.l := by unfold goneS; split <;> rfl
theorem create_other (s : Ds) (a nm : List UInt8) (h : a ≠ nm) : getF (createS s a).1.l nm = getF s.l nm := by
  unfold createS
  split
  · rw [gone_l]
  · split
    · rw [gone_l]
    · split
      · rw [gone_l]
      · exact getF_put _ _ _ h
theorem remove_other (s : Ds) (a nm : List UInt8) (h : a ≠ nm) : getF (removeS s a).1.l nm = getF s.l nm := by
  unfold removeS
  split
  · rw [gone_l]
  · split
    · rw [gone_l]
    · split
      · rw [gone_l]
      · exact getF_del _ _ _ h
theorem rename_other (s : Ds) (a b nm : List UInt8) (h : a ≠ nm) (h2 : b ≠ nm) : getF (renameS s a b).1.l nm = getF s.l nm := by
  unfold renameS
  split
  · rw [gone_l]
  · split
    · rw [gone_l]
    · split
      · rw [gone_l]
      · exact (getF_put _ _ _ h2).trans ((getF_del _ _ _ h2).trans (getF_del _ _ _ h))
theorem write_other (s : Ds) (a : List UInt8) (off : Int) (b : List UInt8) (nm : List UInt8) (h : a ≠ nm) : getF (writeS s a off b).1.l nm = getF s.l nm := by
  unfold writeS
  split
  · rw [gone_l]
  · split
    · rw [gone_l]
    · split
      · rw [gone_l]
      · rename_i f hf
        split
        · rw [gone_l]
        · split
          · rw [gone_l]
          · split
            · rw [gone_l]
            · exact getF_set _ _ _ (by show f.name ≠ nm; rw [getF_name hf]; exact h)
theorem cut_other (s : Ds) (a : List UInt8) (n : Int) (nm : List UInt8) (h : a ≠ nm) : getF (cutS s a n).1.l nm = getF s.l nm := by
  unfold cutS
  split
  · rw [gone_l]
  · split
    · rw [gone_l]
    · split
      · rw [gone_l]
      · rename_i f hf
        split
        · rw [gone_l]
        · exact getF_set _ _ _ (by show f.name ≠ nm; rw [getF_name hf]; exact h)
theorem sync_other (s : Ds) (a nm : List UInt8) (h : a ≠ nm) : getF (syncS s a).1.l nm = getF s.l nm := by
  unfold syncS
  split
  · rw [gone_l]
  · split
    · rw [gone_l]
    · split
      · rw [gone_l]
      · rename_i f hf
        exact getF_set _ _ _ (by show f.name ≠ nm; rw [getF_name hf]; exact h)
theorem flip_other (s : Ds) (a : List UInt8) (i : Int) (m : UInt8) (nm : List UInt8) (h : a ≠ nm) : getF (flipS s a i m).1.l nm = getF s.l nm := by
  unfold flipS
  split
  · rfl
  · split
    · rfl
    · split
      · rfl
      · rename_i f hf
        split
        · rfl
        · exact getF_set _ _ _ (by show f.name ≠ nm; rw [getF_name hf]; exact h)
theorem quota_l (s : Ds) (n : Int) : (quotaS s n).1.l = s.l := by unfold quotaS; split <;> rfl
theorem arm_l (s : Ds) (n : Int) : (armS s n).1.l = s.l := by
  unfold armS
  split
  · rfl
  · split <;> rfl
/-- what is done to one file turns no other one -/
theorem doS_other (s : Ds) (o : Opx) (nm : List UInt8) (h : o.name ≠ nm) (h2 : o.to ≠ nm) (hk : o.kind ≠ 10) : getF (doS s o).1.l nm = getF s.l nm := by
  unfold doS
  by_cases k0 : o.kind = 0
  · rw [if_pos k0]; exact create_other s _ _ h
  rw [if_neg k0]
  by_cases k1 : o.kind = 1
  · rw [if_pos k1]; exact remove_other s _ _ h
  rw [if_neg k1]
  by_cases k2 : o.kind = 2
  · rw [if_pos k2]; exact rename_other s _ _ _ h h2
  rw [if_neg k2]
  by_cases k3 : o.kind = 3
  · rw [if_pos k3]; exact write_other s _ _ _ _ h
  rw [if_neg k3]
  by_cases k4 : o.kind = 4
  · rw [if_pos k4]; exact cut_other s _ _ _ h
  rw [if_neg k4]
  by_cases k5 : o.kind = 5
  · rw [if_pos k5]; exact sync_other s _ _ h
  rw [if_neg k5]
  by_cases k6 : o.kind = 6
  · rw [if_pos k6]
  rw [if_neg k6]
  by_cases k7 : o.kind = 7
  · rw [if_pos k7]
  rw [if_neg k7]
  by_cases k8 : o.kind = 8
  · rw [if_pos k8]; show getF (quotaS s o.n).1.l nm = _; rw [quota_l]
  rw [if_neg k8]
  by_cases k9 : o.kind = 9
  · rw [if_pos k9]; show getF (armS s o.n).1.l nm = _; rw [arm_l]
  rw [if_neg k9]
  by_cases k10 : o.kind = 10
  · exact absurd k10 hk
  rw [if_neg k10]
  by_cases k11 : o.kind = 11
  · rw [if_pos k11]; exact flip_other s _ _ _ _ h
  rw [if_neg k11]

/-! ### The sectors used -/
theorem usedL_cons (g : Fl) (l : List Fl) : usedL (g :: l) = sect g.now.length + usedL l := by simp [usedL]
theorem used_put (l : List Fl) (f : Fl) : usedL (putF l f) = usedL l + sect f.now.length := by
  induction l with
  | nil => simp [putF, usedL]
  | cons g l ih =>
    unfold putF
    by_cases e : g.name < f.name
    · rw [if_pos e, usedL_cons, usedL_cons, ih]; omega
    · rw [if_neg e, usedL_cons, usedL_cons]; omega
theorem used_del_le (l : List Fl) (a : List UInt8) : usedL (delF l a) ≤ usedL l := by
  induction l with
  | nil => exact Nat.le_refl _
  | cons g l ih =>
    unfold delF at *
    rw [List.filter_cons]
    split
    · rw [usedL_cons, usedL_cons]; omega
    · rw [usedL_cons]; omega
theorem used_del (l : List Fl) (a : List UInt8) (f : Fl) (h : getF l a = some f) : usedL (delF l a) + sect f.now.length ≤ usedL l := by
  induction l with
  | nil => simp [getF] at h
  | cons g l ih =>
    rw [getF_cons] at h
    have h3 := used_del_le l a
    unfold delF at *
    rw [List.filter_cons]
    by_cases e : g.name = a
    · rw [if_pos e] at h
      obtain rfl := Option.some.inj h
      rw [if_neg (by simp [e]), usedL_cons]
      omega
    · rw [if_neg e] at h
      have := ih h
      rw [if_pos (by simp [e]), usedL_cons, usedL_cons]
      omega
theorem set_none (l : List Fl) (f : Fl) (h : ∀ g ∈ l, g.name ≠ f.name) : setF l f = l := by
  induction l with
  | nil => rfl
  | cons g l ih =>
    show (if g.name = f.name then f else g) :: setF l f = _
    rw [if_neg (h g (by simp)), ih (fun x hx => h x (by simp [hx]))]
theorem used_set (l : List Fl) (f' f : Fl) (hr : l.Pairwise fun f g => f.name < g.name) (h : getF l f'.name = some f) : usedL (setF l f') + sect f.now.length = usedL l + sect f'.now.length := by
  induction l with
  | nil => simp [getF] at h
  | cons g l ih =>
    rw [List.pairwise_cons] at hr
    rw [getF_cons] at h
    show usedL ((if g.name = f'.name then f' else g) :: setF l f') + _ = _
    by_cases e : g.name = f'.name
    · rw [if_pos e] at h
      obtain rfl := Option.some.inj h
      rw [if_pos e, set_none l f' (fun x hx e2 => by have := hr.1 x hx; rw [e, ← e2] at this; exact List.lt_irrefl _ this), usedL_cons, usedL_cons]
      omega
    · rw [if_neg e] at h
      have := ih hr.2 h
      rw [if_neg e, usedL_cons, usedL_cons]
      omega
theorem layB_len_ge (now : List UInt8) (off : Nat) (b : List UInt8) (h : off ≤ now.length) : (layB now off b).length = max now.length (off + b.length) := layB_length now off b h
theorem endK_le6 (n : Nat) (kept : Nat → Bool) (m : Nat) : endK n kept m ≤ n := by
  induction m with
  | zero => simp [endK]
  | succ m ih =>
    unfold endK
    split
    · exact Nat.min_le_right _ _
    · exact ih
/-- what is left behind a loss uses no more -/
theorem used_back (keep : List Int) (l : List Fl) (base : Nat) (h : ∀ f ∈ l, f.lasts.length ≤ f.now.length) : usedL (backL keep l base) ≤ usedL l := by
  induction l generalizing base with
  | nil => exact Nat.le_refl _
  | cons g l ih =>
    unfold backL
    rw [usedL_cons, usedL_cons]
    have h1 := ih (base + (looseF g).length) (fun f hf => h f (by simp [hf]))
    have h2 : (backF g base keep).now.length ≤ g.now.length := by
      show (backB g _).length ≤ _
      have h3 := endK_le6 g.now.length (keptF g base keep) (sect g.now.length)
      have h4 := h g (by simp)
      unfold backB
      rw [List.length_map, List.length_range]
      omega
    have := sect_le h2
    omega
/-- only a Write may use more, and never more than the quota -/
theorem doS_used (s : Ds) (o : Opx) (hs : DsOk s) (h : usedL s.l < usedL (doS s o).1.l) : o.kind = 3 ∧ usedL (doS s o).1.l ≤ s.q := by
  unfold doS at h ⊢
  by_cases k0 : o.kind = 0
  · rw [if_pos k0] at h
    exfalso
    have : usedL (createS s o.name).1.l = usedL s.l := by
      unfold createS
      split
      · rw [gone_l]
      · split
        · rw [gone_l]
        · split
          · rw [gone_l]
          · show usedL (putF s.l _) = _
            rw [used_put]
            show _ + sect 0 = _
            simp [sect]
    simp only [this] at h
    omega
  rw [if_neg k0] at h ⊢
  by_cases k1 : o.kind = 1
  · rw [if_pos k1] at h
    exfalso
    have : usedL (removeS s o.name).1.l ≤ usedL s.l := by
      unfold removeS
      split
      · rw [gone_l]; exact Nat.le_refl _
      · split
        · rw [gone_l]; exact Nat.le_refl _
        · split
          · rw [gone_l]; exact Nat.le_refl _
          · exact used_del_le s.l o.name
    simp only at h
    omega
  rw [if_neg k1] at h ⊢
  by_cases k2 : o.kind = 2
  · rw [if_pos k2] at h
    exfalso
    have : usedL (renameS s o.name o.to).1.l ≤ usedL s.l := by
      unfold renameS
      split
      · rw [gone_l]; exact Nat.le_refl _
      · split
        · rw [gone_l]; exact Nat.le_refl _
        · split
          · rw [gone_l]; exact Nat.le_refl _
          · rename_i f hf
            show usedL (putF _ _) ≤ _
            rw [used_put]
            have h1 := used_del s.l o.name f hf
            have h2 := used_del_le (delF s.l o.name) o.to
            show _ + sect f.now.length ≤ _
            omega
    simp only at h
    omega
  rw [if_neg k2] at h ⊢
  by_cases k3 : o.kind = 3
  · rw [if_pos k3] at h ⊢
    refine ⟨k3, ?_⟩
    show usedL (writeS s o.name o.off o.b).1.l ≤ s.q
    replace h : usedL s.l < usedL (writeS s o.name o.off o.b).1.l := h
    unfold writeS at h ⊢
    split at h
    · rw [gone_l] at h; omega
    · split at h
      · rw [gone_l] at h; omega
      · split at h
        · rw [gone_l] at h; omega
        · rename_i f hf
          split at h
          · rw [gone_l] at h; omega
          · split at h
            · rw [gone_l] at h; omega
            · split at h
              · rw [gone_l] at h; omega
              · rename_i g1 g2 x g3 g4 g5
                rw [if_neg g1, if_neg g2]
                simp only [hf, if_neg g3, if_neg g4, if_neg g5]
                have hn : (writeF f o.off.toNat o.b).name = o.name := (show f.name = o.name from getF_name hf)
                have h1 := used_set s.l (writeF f o.off.toNat o.b) f hs.rise (by rw [hn]; exact hf)
                have h2 : (writeF f o.off.toNat o.b).now.length = max f.now.length (o.off.toNat + o.b.length) := layB_length _ _ _ (by omega)
                rw [h2] at h1
                have h3 := sect_le (show f.now.length ≤ max f.now.length (o.off.toNat + o.b.length) by omega)
                replace h : usedL s.l < usedL (setF s.l (writeF f o.off.toNat o.b)) := h
                omega
  rw [if_neg k3] at h ⊢
  by_cases k4 : o.kind = 4
  · rw [if_pos k4] at h
    exfalso
    have : usedL (cutS s o.name o.off).1.l ≤ usedL s.l := by
      unfold cutS
      split
      · rw [gone_l]; exact Nat.le_refl _
      · split
        · rw [gone_l]; exact Nat.le_refl _
        · split
          · rw [gone_l]; exact Nat.le_refl _
          · rename_i f hf
            split
            · rw [gone_l]; exact Nat.le_refl _
            · have h1 := used_set s.l (cutF f o.off.toNat) f hs.rise (by rw [show (cutF f o.off.toNat).name = o.name from (show f.name = o.name from getF_name hf)]; exact hf)
              have h2 : (cutF f o.off.toNat).now.length ≤ f.now.length := by show (f.now.take _).length ≤ _; rw [List.length_take]; omega
              have h3 := sect_le h2
              show usedL (setF s.l _) ≤ _
              omega
    simp only at h
    omega
  rw [if_neg k4] at h ⊢
  by_cases k5 : o.kind = 5
  · rw [if_pos k5] at h
    exfalso
    have : usedL (syncS s o.name).1.l ≤ usedL s.l := by
      unfold syncS
      split
      · rw [gone_l]; exact Nat.le_refl _
      · split
        · rw [gone_l]; exact Nat.le_refl _
        · split
          · rw [gone_l]; exact Nat.le_refl _
          · rename_i f hf
            have h1 := used_set s.l (syncF f) f hs.rise (by rw [show (syncF f).name = o.name from (show f.name = o.name from getF_name hf)]; exact hf)
            have h2 : (syncF f).now.length = f.now.length := rfl
            rw [h2] at h1
            show usedL (setF s.l _) ≤ _
            omega
    simp only at h
    omega
  rw [if_neg k5] at h ⊢
  by_cases k6 : o.kind = 6
  · rw [if_pos k6] at h; exact absurd h (Nat.lt_irrefl _)
  rw [if_neg k6] at h ⊢
  by_cases k7 : o.kind = 7
  · rw [if_pos k7] at h; exact absurd h (Nat.lt_irrefl _)
  rw [if_neg k7] at h ⊢
  by_cases k8 : o.kind = 8
  · rw [if_pos k8] at h
    replace h : usedL s.l < usedL (quotaS s o.n).1.l := h
    rw [quota_l] at h; exact absurd h (Nat.lt_irrefl _)
  rw [if_neg k8] at h ⊢
  by_cases k9 : o.kind = 9
  · rw [if_pos k9] at h
    replace h : usedL s.l < usedL (armS s o.n).1.l := h
    rw [arm_l] at h; exact absurd h (Nat.lt_irrefl _)
  rw [if_neg k9] at h ⊢
  by_cases k10 : o.kind = 10
  · rw [if_pos k10] at h
    replace h : usedL s.l < usedL (onS s o.keep).1.l := h
    unfold onS at h
    split at h
    · exact absurd h (Nat.lt_irrefl _)
    · have := used_back o.keep s.l 0 (fun f hf => (hs.files f hf).lasts)
      simp only at h
      omega
  rw [if_neg k10] at h ⊢
  by_cases k11 : o.kind = 11
  · rw [if_pos k11] at h
    exfalso
    have : usedL (flipS s o.name o.off o.mask).1.l ≤ usedL s.l := by
      unfold flipS
      split
      · exact Nat.le_refl _
      · split
        · exact Nat.le_refl _
        · split
          · exact Nat.le_refl _
          · rename_i f hf
            split
            · exact Nat.le_refl _
            · have h1 := used_set s.l (flipF f o.off.toNat o.mask) f hs.rise (by rw [show (flipF f o.off.toNat o.mask).name = o.name from (show f.name = o.name from getF_name hf)]; exact hf)
              have h2 : (flipF f o.off.toNat o.mask).now.length = f.now.length := by show (f.now.set _ _).length = _; rw [List.length_set]
              rw [h2] at h1
              show usedL (setF s.l _) ≤ _
              omega
    simp only at h
    omega
  rw [if_neg k11] at h
  exact absurd h (Nat.lt_irrefl _)
/-- the quota of it -/
theorem gone_q (s : Ds) : (goneS s).q = s.q := by unfold goneS; split <;> rfl
/-! ### The quota, and no room -/
theorem create_q (s : Ds) (a : List UInt8) : (createS s a).1.q = s.q := by
  unfold createS
  (repeat' split) <;> exact gone_q s
theorem remove_q (s : Ds) (a : List UInt8) : (removeS s a).1.q = s.q := by
  unfold removeS
  (repeat' split) <;> exact gone_q s
theorem rename_q (s : Ds) (a b : List UInt8) : (renameS s a b).1.q = s.q := by
  unfold renameS
  (repeat' split) <;> exact gone_q s
theorem write_q (s : Ds) (a : List UInt8) (off : Int) (b : List UInt8) : (writeS s a off b).1.q = s.q := by
  unfold writeS
  (repeat' split) <;> exact gone_q s
theorem cut_q (s : Ds) (a : List UInt8) (n : Int) : (cutS s a n).1.q = s.q := by
  unfold cutS
  (repeat' split) <;> exact gone_q s
theorem sync_q (s : Ds) (a : List UInt8) : (syncS s a).1.q = s.q := by
  unfold syncS
  (repeat' split) <;> exact gone_q s
theorem flip_q (s : Ds) (a : List UInt8) (i : Int) (m : UInt8) : (flipS s a i m).1.q = s.q := by
  unfold flipS
  (repeat' split) <;> rfl
theorem arm_q (s : Ds) (n : Int) : (armS s n).1.q = s.q := by
  unfold armS
  (repeat' split) <;> rfl
theorem on_q (s : Ds) (k : List Int) : (onS s k).1.q = s.q := by
  unfold onS
  split <;> rfl
theorem quota_q (s : Ds) (n : Int) : ((quotaS s n).1.q : Int) = if (quotaS s n).2 = 0 then n else s.q := by
  unfold quotaS
  split
  · simp
  · simp only [if_true]
    omega
/-- errors that no room is not -/
theorem create_e (s : Ds) (a : List UInt8) : (createS s a).2 ≠ 5 := by
  unfold createS
  (repeat' split) <;> simp
theorem remove_e (s : Ds) (a : List UInt8) : (removeS s a).2 ≠ 5 := by
  unfold removeS
  (repeat' split) <;> simp
theorem rename_e (s : Ds) (a b : List UInt8) : (renameS s a b).2 ≠ 5 := by
  unfold renameS
  (repeat' split) <;> simp
theorem cut_e (s : Ds) (a : List UInt8) (n : Int) : (cutS s a n).2 ≠ 5 := by
  unfold cutS
  (repeat' split) <;> simp
theorem sync_e (s : Ds) (a : List UInt8) : (syncS s a).2 ≠ 5 := by
  unfold syncS
  (repeat' split) <;> simp
theorem read_e (s : Ds) (a : List UInt8) (i n : Int) : (readS s a i n).2 ≠ 5 := by
  unfold readS
  (repeat' split) <;> simp
theorem size_e (s : Ds) (a : List UInt8) : (sizeS s a).2 ≠ 5 := by
  unfold sizeS
  (repeat' split) <;> simp
theorem flip_e (s : Ds) (a : List UInt8) (i : Int) (m : UInt8) : (flipS s a i m).2 ≠ 5 := by
  unfold flipS
  (repeat' split) <;> simp
theorem arm_e (s : Ds) (n : Int) : (armS s n).2 ≠ 5 := by
  unfold armS
  (repeat' split) <;> simp
theorem on_e (s : Ds) (k : List Int) : (onS s k).2 ≠ 5 := by
  unfold onS
  split <;> simp
theorem quota_e (s : Ds) (n : Int) : (quotaS s n).2 ≠ 5 := by
  unfold quotaS
  split <;> simp
theorem write_full (s : Ds) (a : List UInt8) (off : Int) (b : List UInt8) (h : (writeS s a off b).2 = 5) : (writeS s a off b).1.l = s.l := by
  unfold writeS at h ⊢
  split
  · exact gone_l s
  · split
    · exact gone_l s
    · split
      · exact gone_l s
      · rename_i h1 h2 x f hf
        split
        · exact gone_l s
        · split
          · exact gone_l s
          · split
            · exact gone_l s
            · rename_i h3 h4 h5
              rw [if_neg h1, if_neg h2] at h
              simp only [hf, if_neg h3, if_neg h4, if_neg h5] at h
              exact absurd h (by decide)
theorem doS_full (s : Ds) (o : Opx) (h : (doS s o).2.e = 5) : o.kind = 3 ∧ (doS s o).1.l = s.l := by
  unfold doS at h ⊢
  by_cases k0 : o.kind = 0
  · rw [if_pos k0] at h; exact absurd h (create_e s _)
  rw [if_neg k0] at h ⊢
  by_cases k1 : o.kind = 1
  · rw [if_pos k1] at h; exact absurd h (remove_e s _)
  rw [if_neg k1] at h ⊢
  by_cases k2 : o.kind = 2
  · rw [if_pos k2] at h; exact absurd h (rename_e s _ _)
  rw [if_neg k2] at h ⊢
  by_cases k3 : o.kind = 3
  · rw [if_pos k3] at h ⊢; exact ⟨k3, write_full s _ _ _ h⟩
  rw [if_neg k3] at h ⊢
  by_cases k4 : o.kind = 4
  · rw [if_pos k4] at h; exact absurd h (cut_e s _ _)
  rw [if_neg k4] at h ⊢
  by_cases k5 : o.kind = 5
  · rw [if_pos k5] at h; exact absurd h (sync_e s _)
  rw [if_neg k5] at h ⊢
  by_cases k6 : o.kind = 6
  · rw [if_pos k6] at h; exact absurd h (read_e s _ _ _)
  rw [if_neg k6] at h ⊢
  by_cases k7 : o.kind = 7
  · rw [if_pos k7] at h; exact absurd h (size_e s _)
  rw [if_neg k7] at h ⊢
  by_cases k8 : o.kind = 8
  · rw [if_pos k8] at h; exact absurd h (quota_e s _)
  rw [if_neg k8] at h ⊢
  by_cases k9 : o.kind = 9
  · rw [if_pos k9] at h; exact absurd h (arm_e s _)
  rw [if_neg k9] at h ⊢
  by_cases k10 : o.kind = 10
  · rw [if_pos k10] at h; exact absurd h (on_e s _)
  rw [if_neg k10] at h ⊢
  by_cases k11 : o.kind = 11
  · rw [if_pos k11] at h; exact absurd h (flip_e s _ _ _ )
  rw [if_neg k11] at h ⊢
  exact absurd h (by simp)
theorem doS_q (s : Ds) (o : Opx) : ((doS s o).1.q : Int) = if o.kind = 8 ∧ (doS s o).2.e = 0 then o.n else s.q := by
  unfold doS
  by_cases k0 : o.kind = 0
  · rw [if_pos k0, if_neg (fun h => by omega)]; exact congrArg Nat.cast (create_q s _)
  rw [if_neg k0]
  by_cases k1 : o.kind = 1
  · rw [if_pos k1, if_neg (fun h => by omega)]; exact congrArg Nat.cast (remove_q s _)
  rw [if_neg k1]
  by_cases k2 : o.kind = 2
  · rw [if_pos k2, if_neg (fun h => by omega)]; exact congrArg Nat.cast (rename_q s _ _)
  rw [if_neg k2]
  by_cases k3 : o.kind = 3
  · rw [if_pos k3, if_neg (fun h => by omega)]; exact congrArg Nat.cast (write_q s _ _ _)
  rw [if_neg k3]
  by_cases k4 : o.kind = 4
  · rw [if_pos k4, if_neg (fun h => by omega)]; exact congrArg Nat.cast (cut_q s _ _)
  rw [if_neg k4]
  by_cases k5 : o.kind = 5
  · rw [if_pos k5, if_neg (fun h => by omega)]; exact congrArg Nat.cast (sync_q s _)
  rw [if_neg k5]
  by_cases k6 : o.kind = 6
  · rw [if_pos k6, if_neg (fun h => by omega)]
  rw [if_neg k6]
  by_cases k7 : o.kind = 7
  · rw [if_pos k7, if_neg (fun h => by omega)]
  rw [if_neg k7]
  by_cases k8 : o.kind = 8
  · rw [if_pos k8]; simp only [k8, true_and]; exact quota_q s o.n
  rw [if_neg k8]
  by_cases k9 : o.kind = 9
  · rw [if_pos k9, if_neg (fun h => by omega)]; exact congrArg Nat.cast (arm_q s _)
  rw [if_neg k9]
  by_cases k10 : o.kind = 10
  · rw [if_pos k10, if_neg (fun h => by omega)]; exact congrArg Nat.cast (on_q s _)
  rw [if_neg k10]
  by_cases k11 : o.kind = 11
  · rw [if_pos k11, if_neg (fun h => by omega)]; exact congrArg Nat.cast (flip_q s _ _ _)
  rw [if_neg k11]
  rw [if_neg (fun h => k8 h.1)]
end Go.Proofs.YtmholhjdpkfleaaDoor
