/- Mathematics of no program: sectors kept one by one come to what a loss of power leaves. -/
import Derived.Test.YtmholhjdpkfleaaDoorQDkD
import Derived.Test.YtmholhjdpkfleaaDoorQDkB
import Derived.Test.YtmholhjdpkfleaaDoorQDkI
namespace Go.Proofs.YtmholhjdpkfleaaDoor
set_option linter.unusedSimpArgs false
set_option linter.unusedVariables false
set_option maxRecDepth 100000

theorem endK_add (n : Nat) (kept : Nat → Bool) (k : Nat) : ∀ m, endK n (fun x => kept x || decide (x = k)) m = if k < m then max (endK n kept m) (min (64 * (k + 1)) n) else endK n kept m
  | 0 => by simp [endK]
  | m + 1 => by
    have ih := endK_add n kept k m
    unfold endK
    by_cases h1 : m = k
    · subst h1
      simp only [decide_true, Bool.or_true, if_true]
      rw [if_pos (by omega)]
      have h2 : endK n kept m ≤ min (64 * (m + 1)) n := by
        have : ∀ j, endK n kept j ≤ min (64 * j) n := fun j => by
          induction j with
          | zero => simp [endK]
          | succ j ihj =>
            unfold endK
            split
            · exact Nat.le_refl _
            · omega
        have := this m
        omega
      split <;> omega
    · have hd : decide (m = k) = false := decide_eq_false h1
      rw [hd, Bool.or_false]
      by_cases h2 : kept m = true
      · rw [if_pos h2, if_pos h2]
        by_cases h3 : k < m
        · rw [if_pos (by omega)]
          omega
        · rw [if_neg (by omega)]
      · rw [if_neg h2, if_neg h2, ih]
        by_cases h3 : k < m
        · rw [if_pos h3, if_pos (by omega)]
        · rw [if_neg h3, if_neg (by omega)]
theorem getD_of {l : List UInt8} {i : Nat} (h : i < l.length) : l.getD i 0 = l[i] := by simp [List.getD, h]
theorem backB_at (f : Fl) (kept : Nat → Bool) {i : Nat} (h : i < (backB f kept).length) : (backB f kept)[i] = if kept (i / 64) && decide (i < f.now.length) then f.now.getD i 0 else f.lasts.getD i 0 := by
  simp [backB]
theorem keep_step (f : Fl) (kept : Nat → Bool) (k : Nat) (hk : 64 * k < f.now.length) : keepB (backB f kept) f.now k = backB f (fun x => kept x || decide (x = k)) := by
  have hl := keepB_length (backB f kept) f.now k hk
  have hb := backB_length f kept
  have hb2 := backB_length f (fun x => kept x || decide (x = k))
  have hks : k < sect f.now.length := by unfold sect; omega
  rw [endK_add, if_pos hks] at hb2
  have hse : secE f.now k = min (64 * (k + 1)) f.now.length := by unfold secE; omega
  apply List.ext_getElem
  · rw [hl, hb, hb2, hse]; omega
  · intro i h1 h2
    rw [backB_at f _ h2]
    obtain ⟨e, he⟩ : ∃ e, e = secE f.now k := ⟨_, rfl⟩
    have hpl := padB_length (backB f kept) e
    have he1 : 64 * k < e := by rw [he, hse]; omega
    have he2 : e ≤ f.now.length := by rw [he, hse]; omega
    have hx : (keepB (backB f kept) f.now k)[i] = if i < 64 * k then (padB (backB f kept) e).getD i 0 else if i < e then f.now.getD i 0 else (padB (backB f kept) e).getD i 0 := by
      have hg : (keepB (backB f kept) f.now k)[i]? = if i < 64 * k then (padB (backB f kept) e)[i]? else if i < e then f.now[i]? else (padB (backB f kept) e)[i]? := by
        unfold keepB
        rw [← he]
        have l1 : ((padB (backB f kept) e).take (64 * k)).length = 64 * k := by rw [List.length_take, hpl]; omega
        have l2 : ((f.now.take e).drop (64 * k)).length = e - 64 * k := by rw [List.length_drop, List.length_take]; omega
        by_cases c1 : i < 64 * k
        · rw [if_pos c1, List.append_assoc, List.getElem?_append_left (by omega), List.getElem?_take_of_lt c1]
        · rw [if_neg c1]
          by_cases c2 : i < e
          · rw [if_pos c2, List.append_assoc, List.getElem?_append_right (by omega), List.getElem?_append_left (by omega), l1, List.getElem?_drop, List.getElem?_take_of_lt (by omega)]
            congr 1
            omega
          · rw [if_neg c2, List.getElem?_append_right (by rw [List.length_append]; omega), List.length_append, l1, l2, List.getElem?_drop]
            congr 1
            omega
      rw [List.getElem?_eq_getElem h1] at hg
      by_cases c1 : i < 64 * k
      · rw [if_pos c1] at hg ⊢
        simp [List.getD, ← hg]
      · rw [if_neg c1] at hg ⊢
        by_cases c2 : i < e
        · rw [if_pos c2] at hg ⊢
          simp [List.getD, ← hg]
        · rw [if_neg c2] at hg ⊢
          simp [List.getD, ← hg]
    rw [hx]
    have hpad : (padB (backB f kept) e).getD i 0 = if kept (i / 64) && decide (i < f.now.length) then f.now.getD i 0 else f.lasts.getD i 0 := by
      unfold padB
      by_cases c : i < (backB f kept).length
      · have : (backB f kept ++ List.replicate (e - (backB f kept).length) 0).getD i 0 = (backB f kept)[i] := by
          simp [List.getD, List.getElem?_append_left c, c]
        rw [this, backB_at f kept c]
      · have h0 : (backB f kept ++ List.replicate (e - (backB f kept).length) 0).getD i 0 = 0 := by
          simp only [List.getD, List.getElem?_append_right (Nat.le_of_not_lt c)]
          rw [List.getElem?_replicate]
          split <;> rfl
        rw [h0]
        have hlast : f.lasts.getD i 0 = 0 := by
          simp [List.getD, List.getElem?_eq_none (show f.lasts.length ≤ i by omega)]
        rw [hlast]
        split
        · rename_i hc
          simp only [Bool.and_eq_true, decide_eq_true_eq] at hc
          have := endK_ge f.now.length kept (sect f.now.length) (i / 64) (by unfold sect; omega) hc.1
          omega
        · rfl
    by_cases c1 : i < 64 * k
    · rw [if_pos c1, hpad]
      have : decide (i / 64 = k) = false := decide_eq_false (by omega)
      rw [this, Bool.or_false]
    · rw [if_neg c1]
      by_cases c2 : i < e
      · rw [if_pos c2]
        have h3 : decide (i / 64 = k) = true := decide_eq_true (by rw [he, hse] at c2; omega)
        have h4 : decide (i < f.now.length) = true := decide_eq_true (by omega)
        rw [h3, h4, Bool.or_true, Bool.and_true, if_pos rfl]
      · rw [if_neg c2, hpad]
        by_cases h5 : i < f.now.length
        · have : decide (i / 64 = k) = false := decide_eq_false (by rw [he, hse] at c2; omega)
          rw [this, Bool.or_false]
        · have : decide (i < f.now.length) = false := decide_eq_false h5
          rw [this, Bool.and_false, Bool.and_false]
/-! ### Which sectors stay -/
def keptP (P : List (List UInt8 × Nat)) (keep : List Int) (p : List UInt8 × Nat) : Bool := keep.any fun i => decide (0 ≤ i) && decide (P[i.toNat]? = some p)
theorem keptP_nil (P : List (List UInt8 × Nat)) (p : List UInt8 × Nat) : keptP P [] p = false := rfl
theorem keptP_snoc (P : List (List UInt8 × Nat)) (keep : List Int) (i : Int) (p : List UInt8 × Nat) : keptP P (keep ++ [i]) p = (keptP P keep p || (decide (0 ≤ i) && decide (P[i.toNat]? = some p))) := by
  unfold keptP
  rw [List.any_append]
  simp
/-- what lasts, with these sectors kept -/
def lastsL (K : List UInt8 × Nat → Bool) (l : List Fl) : List Fl := l.map fun f => { f with lasts := backB f (fun k => K (f.name, k)) }
theorem backL_kept (keep : List Int) : ∀ (post pre : List Fl), (pre ++ post).Pairwise (fun f g => f.name < g.name) → (∀ f ∈ post, ∀ k, f.loose k = true → k < sect f.now.length) →
    backL keep post (placesL pre).length = post.map fun f => ⟨f.name, backB f (fun k => keptP (placesL (pre ++ post)) keep (f.name, k)), backB f (fun k => keptP (placesL (pre ++ post)) keep (f.name, k)), fun _ => false⟩
  | [], _, _, _ => rfl
  | f :: post, pre, hr, hl => by
    have hpl : placesL (pre ++ [f]) = placesL pre ++ (looseF f).map fun k => (f.name, k) := by unfold placesL; rw [List.flatMap_append]; simp
    have ih := backL_kept keep post (pre ++ [f]) (by rw [List.append_assoc]; exact hr) (fun g hg => hl g (List.mem_cons_of_mem _ hg))
    have hlen : (placesL (pre ++ [f])).length = (placesL pre).length + (looseF f).length := by rw [hpl, List.length_append, List.length_map]
    rw [hlen] at ih
    have hass : pre ++ [f] ++ post = pre ++ f :: post := by rw [List.append_assoc]; rfl
    rw [hass] at ih
    unfold backL
    rw [ih, List.map_cons]
    congr 1
    have hk : keptF f (placesL pre).length keep = fun k => keptP (placesL (pre ++ f :: post)) keep (f.name, k) := by
      funext k
      have hP : placesL (pre ++ f :: post) = placesL pre ++ ((looseF f).map (fun k => (f.name, k)) ++ placesL post) := by unfold placesL; rw [List.flatMap_append, List.flatMap_cons]
      have hnot : ∀ {l : List Fl}, (∀ g ∈ l, g.name ≠ f.name) → ∀ p ∈ placesL l, p.1 ≠ f.name := fun {l} h p hp => by
        unfold placesL at hp
        obtain ⟨g, hg, hp⟩ := List.mem_flatMap.1 hp
        obtain ⟨q, hq, rfl⟩ := List.mem_map.1 hp
        exact h g hg
      rw [List.pairwise_append] at hr
      have n1 := hnot (l := pre) (fun g hg e => by have := hr.2.2 g hg f List.mem_cons_self; rw [e] at this; exact List.lt_irrefl _ this)
      have n2 := hnot (l := post) (fun g hg e => by have := (List.pairwise_cons.1 hr.2.1).1 g hg; rw [e] at this; exact List.lt_irrefl _ this)
      have hidx : ∀ j : Nat, (placesL (pre ++ f :: post))[j]? = some (f.name, k) ↔ f.loose k = true ∧ j = (placesL pre).length + ((List.range k).filter f.loose).length := fun j => by
        rw [hP]
        have hi := looseF_idx f (hl f List.mem_cons_self)
        by_cases c1 : j < (placesL pre).length
        · rw [List.getElem?_append_left c1]
          constructor
          · intro h
            exact absurd rfl (n1 _ (List.mem_of_getElem? h))
          · rintro ⟨_, h⟩; omega
        · rw [List.getElem?_append_right (Nat.le_of_not_lt c1)]
          by_cases c2 : j - (placesL pre).length < ((looseF f).map fun k => (f.name, k)).length
          · rw [List.getElem?_append_left c2, List.getElem?_map]
            constructor
            · intro h
              obtain ⟨q, hq, he⟩ := Option.map_eq_some_iff.1 h
              injection he with _ he
              subst he
              obtain ⟨a1, a2⟩ := (hi _ _).1 hq
              exact ⟨a1, by rw [show ((List.range q).filter f.loose).length = cntP f.loose q from rfl]; omega⟩
            · rintro ⟨a1, a2⟩
              rw [(hi (j - (placesL pre).length) k).2 ⟨a1, by rw [show cntP f.loose k = ((List.range k).filter f.loose).length from rfl]; omega⟩]
              rfl
          · rw [List.getElem?_append_right (Nat.le_of_not_lt c2)]
            constructor
            · intro h
              exact absurd rfl (n2 _ (List.mem_of_getElem? h))
            · rintro ⟨a1, a2⟩
              have := (hi ((List.range k).filter f.loose).length k).2 ⟨a1, rfl⟩
              have := (List.getElem?_eq_some_iff.1 this).1
              rw [List.length_map] at c2
              omega
      unfold keptF keptP
      rw [Bool.eq_iff_iff, Bool.and_eq_true, List.any_eq_true]
      constructor
      · rintro ⟨h1, h2⟩
        refine ⟨_, List.contains_iff_mem.1 h2, ?_⟩
        rw [Bool.and_eq_true, decide_eq_true_eq, decide_eq_true_eq]
        exact ⟨by omega, (hidx _).2 ⟨h1, by rw [Int.toNat_natCast]⟩⟩
      · rintro ⟨i, hi, h2⟩
        rw [Bool.and_eq_true, decide_eq_true_eq, decide_eq_true_eq] at h2
        obtain ⟨a1, a2⟩ := (hidx _).1 h2.2
        refine ⟨a1, List.contains_iff_mem.2 ?_⟩
        rw [← a2, Int.toNat_of_nonneg h2.1]
        exact hi
    unfold backF
    rw [hk]
theorem backL_all (keep : List Int) {l : List Fl} (h : LOk l) : backL keep l 0 = l.map fun f => ⟨f.name, backB f (fun k => keptP (placesL l) keep (f.name, k)), backB f (fun k => keptP (placesL l) keep (f.name, k)), fun _ => false⟩ :=
  backL_kept keep l [] h.rise (fun f hf => (h.files f hf).loose)
end Go.Proofs.YtmholhjdpkfleaaDoor
/- Package disk: the power comes again. -/
namespace Go.Proofs.YtmholhjdpkfleaaDoor
open Go.RowKit Go.Shelf
set_option linter.unusedSimpArgs false
set_option linter.unusedVariables false
set_option maxRecDepth 100000

theorem lastsL_names (K : Pl → Bool) (l : List Fl) : (lastsL K l).map (·.name) = l.map (·.name) := by
  unfold lastsL
  rw [List.map_map]
  rfl
theorem lastsL_none (l : List Fl) : lastsL (fun _ => false) l = l := by
  unfold lastsL
  have : ∀ f : Fl, ({ f with lasts := backB f (fun _ => false) } : Fl) = f := fun f => by rw [backB_none f _ (fun _ => rfl)]
  rw [List.map_congr_left (fun f _ => this f), List.map_id']
theorem lastsL_step {l : List Fl} (hn : (l.map (·.name)).Nodup) (K : Pl → Bool) {f : Fl} (hf : f ∈ l) (k : Nat) (hk : 64 * k < f.now.length) (K' : Pl → Bool) (hK : ∀ p, K' p = (K p || decide (p = (f.name, k)))) :
    setF (lastsL K l) { f with lasts := keepB (backB f (fun k => K (f.name, k))) f.now k } = lastsL K' l := by
  unfold setF lastsL
  rw [List.map_map]
  apply List.map_congr_left
  intro g hg
  simp only [Function.comp]
  by_cases e : g.name = f.name
  · rw [if_pos e]
    obtain rfl := uniq_name hn hf hg e
    rw [keep_step g _ k hk]
    congr 2
    funext x
    rw [hK]
    congr 1
    simp
  · rw [if_neg e]
    congr 2
    funext x
    rw [hK]
    have : decide ((g.name, x) = (f.name, k)) = false := decide_eq_false (fun q => e (by injection q))
    rw [this, Bool.or_false]
/-- files as they are behind the loss, those of R not yet -/
def nowL (R : List UInt8 → Bool) (l : List Fl) : List Fl := l.map fun f => if R f.name then f else { f with now := f.lasts }
theorem nowL_names (R : List UInt8 → Bool) (l : List Fl) : (nowL R l).map (·.name) = l.map (·.name) := by
  unfold nowL
  rw [List.map_map]
  apply List.map_congr_left
  intro f _
  simp only [Function.comp]
  split <;> rfl
theorem nowL_all {R : List UInt8 → Bool} {l : List Fl} (h : ∀ f ∈ l, R f.name = true) : nowL R l = l := by
  unfold nowL
  have : l.map (fun f => if R f.name then f else { f with now := f.lasts }) = l.map id := List.map_congr_left fun f hf => by rw [if_pos (h f hf)]; rfl
  rw [this, List.map_id]
theorem nowL_mem {R : List UInt8 → Bool} {l : List Fl} {f : Fl} (hf : f ∈ l) (hR : R f.name = true) : f ∈ nowL R l := List.mem_map.2 ⟨f, hf, by rw [if_pos hR]⟩
theorem nowL_step {l : List Fl} (hn : (l.map (·.name)).Nodup) {R R' : List UInt8 → Bool} {f : Fl} (hf : f ∈ l) (hR' : R' f.name = false) (ho : ∀ n, n ≠ f.name → R' n = R n) : setF (nowL R l) { f with now := f.lasts } = nowL R' l := by
  unfold setF nowL
  rw [List.map_map]
  apply List.map_congr_left
  intro g hg
  simp only [Function.comp]
  by_cases e : g.name = f.name
  · obtain rfl := uniq_name hn hf hg e
    rw [hR']
    split <;> simp
  · have e2 : (if R g.name = true then g else { g with now := g.lasts }).name = g.name := by split <;> rfl
    rw [e2, if_neg e, ho _ e]
section
variable {w w' : World} {b : Nat} {F : Nat → Prop} {s : Ds}
end
end Go.Proofs.YtmholhjdpkfleaaDoor
/- Package disk keeps its contracts. -/
namespace Go.Proofs.YtmholhjdpkfleaaDoor
open Go.RowKit
set_option linter.unusedVariables false
set_option maxRecDepth 100000

theorem maxLen_str {nm : List UInt8} (h : nm.length ≤ maxLen) : nm.length ≤ maxLen := h
noncomputable def diskOk : DiskOk where
  Z _ := True
  keep _ _ := trivial
  D := Dk
  lt h := h.lt
  same h := h.same
  ok h := h.ok
  new q w _ h1 h2 := new_any q w h1 h2
  create nm _ h hn := create_any h nm hn
  write nm off A n c l _ h hn h1 h2 hB hF hnl hnc hn7 := write_any h nm off A n c l hn h1 h2 hB hF hnl hnc hn7
  sync nm _ h hn := sync_any h nm hn
  read nm off n _ h hn h1 h2 h3 h4 := read_any h nm off n hn h1 h2 h3 h4
  size nm _ h hn := size_any h nm hn
  used _ h := used_any h
  flip nm i m _ h hn h1 h2 := flip_any h nm i m hn h1 h2
end Go.Proofs.YtmholhjdpkfleaaDoor
