/- Mathematics of no program: sectors kept one by one come to what a loss of power leaves. -/
import Derived.Test.YtamboappeahgpaaGreatDoorQDkD
import Derived.Test.YtamboappeahgpaaGreatDoorQDkB
import Derived.Test.YtamboappeahgpaaGreatDoorQDkI
namespace Go.Proofs.YtamboappeahgpaaGreatDoor
set_option linter.unusedSimpArgs false
set_option linter.unusedVariables false
set_option maxRecDepth 100000

theorem endK_add (n : Nat) (kept : Nat → Bool) (k : Nat) : ∀ m, endK n (fun x => kept x || decide (x = k)) m = if k < m then max (endK n kept m) (min (64 * (k + 1)) n) else endK n kept m
  | 0 => by simp [endK]
  | m + 1 => by
    have ih := endK_add n kept k m
    unfold endK
    by_cases h1 : m = k
    · subst h1
      simp only [decide_true, Bool.or_true, if_true]
      rw [if_pos (by omega)]
      have h2 : endK n kept m ≤ min (64 * (m + 1)) n := by
        have : ∀ j, endK n kept j ≤ min (64 * j) n := fun j => by
          induction j with
          | zero => simp [endK]
          | succ j ihj =>
            unfold endK
            split
            · exact Nat.le_refl _
            · omega
        have := this m
        omega
      split <;> omega
    · have hd : decide (m = k) = false := decide_eq_false h1
      rw [hd, Bool.or_false]
      by_cases h2 : kept m = true
      · rw [if_pos h2, if_pos h2]
        by_cases h3 : k < m
        · rw [if_pos (by omega)]
          omega
        · rw [if_neg (by omega)]
      · rw [if_neg h2, if_neg h2, ih]
        by_cases h3 : k < m
        · rw [if_pos h3, if_pos (by omega)]
        · rw [if_neg h3, if_neg (by omega)]
theorem getD_of {l : List UInt8} {i : Nat} (h : i < l.length) : l.getD i 0 = l[i] := by simp [List.getD, h]
theorem backB_at (f : Fl) (kept : Nat → Bool) {i : Nat} (h : i < (backB f kept).length) : (backB f kept)[i] = if kept (i / 64) && decide (i < f.now.length) then f.now.getD i 0 else f.lasts.getD i 0 := by
  simp [backB]
theorem keep_step (f : Fl) (kept : Nat → Bool) (k : Nat) (hk : 64 * k < f.now.length) : keepB (backB f kept) f.now k = backB f (fun x => kept x || decide (x = k)) := by
  have hl := keepB_length (backB f kept) f.now k hk
  have hb := backB_length f kept
  have hb2 := backB_length f (fun x => kept x || decide (x = k))
  have hks : k < sect f.now.length := by unfold sect; omega
  rw [endK_add, if_pos hks] at hb2
  have hse : secE f.now k = min (64 * (k + 1)) f.now.length := by unfold secE; omega
  apply List.ext_getElem
  · rw [hl, hb, hb2, hse]; omega
  · intro i h1 h2
    rw [backB_at f _ h2]
    obtain ⟨e, he⟩ : ∃ e, e = secE f.now k := ⟨_, rfl⟩
    have hpl := padB_length (backB f kept) e
    have he1 : 64 * k < e := by rw [he, hse]; omega
    have he2 : e ≤ f.now.length := by rw [he, hse]; omega
    have hx : (keepB (backB f kept) f.now k)[i] = if i < 64 * k then (padB (backB f kept) e).getD i 0 else if i < e then f.now.getD i 0 else (padB (backB f kept) e).getD i 0 := by
      have hg : (keepB (backB f kept) f.now k)[i]? = if i < 64 * k then (padB (backB f kept) e)[i]? else if i < e then f.now[i]? else (padB (backB f kept) e)[i]? := by
        unfold keepB
        rw [← he]
        have l1 : ((padB (backB f kept) e).take (64 * k)).length = 64 * k := by rw [List.length_take, hpl]; omega
        have l2 : ((f.now.take e).drop (64 * k)).length = e - 64 * k := by rw [List.length_drop, List.length_take]; omega
        by_cases c1 : i < 64 * k
        · rw [if_pos c1, List.append_assoc, List.getElem?_append_left (by omega), List.getElem?_take_of_lt c1]
        · rw [if_neg c1]
          by_cases c2 : i < e
          · rw [if_pos c2, List.append_assoc, List.getElem?_append_right (by omega), List.getElem?_append_left (by omega), l1, List.getElem?_drop, List.getElem?_take_of_lt (by omega)]
            congr 1
            omega
          · rw [if_neg c2, List.getElem?_append_right (by rw [List.length_append]; omega), List.length_append, l1, l2, List.getElem?_drop]
            congr 1
            omega
      rw [List.getElem?_eq_getElem h1] at hg
      by_cases c1 : i < 64 * k
      · rw [if_pos c1] at hg ⊢
        simp [List.getD, ← hg]
      · rw [if_neg c1] at hg ⊢
        by_cases c2 : i < e
        · rw [if_pos c2] at hg ⊢
          simp [List.getD, ← hg]
        · rw [if_neg c2] at hg ⊢
          simp [List.getD, ← hg]
    rw [hx]
    have hpad : (padB (backB f kept) e).getD i 0 = if kept (i / 64) && decide (i < f.now.length) then f.now.getD i 0 else f.lasts.getD i 0 := by
      unfold padB
      by_cases c : i < (backB f kept).length
      · have : (backB f kept ++ List.replicate (e - (backB f kept).length) 0).getD i 0 = (backB f kept)[i] := by
          simp [List.getD, List.getElem?_append_left c, c]
        rw [this, backB_at f kept c]
      · have h0 : (backB f kept ++ List.replicate (e - (backB f kept).length) 0).getD i 0 = 0 := by
          simp only [List.getD, List.getElem?_append_right (Nat.le_of_not_lt c)]
          rw [List.getElem?_replicate]
          split <;> rfl
        rw [h0]
        have hlast : f.lasts.getD i 0 = 0 := by
          simp [List.getD, List.getElem?_eq_none (show f.lasts.length ≤ i by omega)]
        rw [hlast]
        split
        · rename_i hc
          simp only [Bool.and_eq_true, decide_eq_true_eq] at hc
          have := endK_ge f.now.length kept (sect f.now.length) (i / 64) (by unfold sect; omega) hc.1
          omega
        · rfl
    by_cases c1 : i < 64 * k
    · rw [if_pos c1, hpad]
      have : decide (i / 64 = k) = false := decide_eq_false (by omega)
      rw [this, Bool.or_false]
    · rw [if_neg c1]
      by_cases c2 : i < e
      · rw [if_pos c2]
        have h3 : decide (i / 64 = k) = true := decide_eq_true (by rw [he, hse] at c2; omega)
        have h4 : decide (i < f.now.length) = true := decide_eq_true (by omega)
        rw [h3, h4, Bool.or_true, Bool.and_true, if_pos rfl]
      · rw [if_neg c2, hpad]
        by_cases h5 : i < f.now.length
        · have : decide (i / 64 = k) = false := decide_eq_false (by rw [he, hse] at c2; omega)
          rw [this, Bool.or_false]
        · have : decide (i < f.now.length) = false := decide_eq_false h5
          rw [this, Bool.and_false, Bool.and_false]
/-! ### Which sectors stay -/
def keptP (P : List (List UInt8 × Nat)) (keep : List Int) (p : List UInt8 × Nat) : Bool := keep.any fun i => decide (0 ≤ i) && decide (P[i.toNat]? = some p)
theorem keptP_nil (P : List (List UInt8 × Nat)) (p : List UInt8 × Nat) : keptP P [] p = false := rfl
theorem keptP_snoc (P : List (List UInt8 × Nat)) (keep : List Int) (i : Int) (p : List UInt8 × Nat) : keptP P (keep ++ [i]) p = (keptP P keep p || (decide (0 ≤ i) && decide (P[i.toNat]? = some p))) := by
  unfold keptP
  rw [List.any_append]
  simp
/-- what lasts, with these sectors kept -/
def lastsL (K : List UInt8 × Nat → Bool) (l : List Fl) : List Fl := l.map fun f => { f with lasts := backB f (fun k => K (f.name, k)) }
theorem backL_kept (keep : List Int) : ∀ (post pre : List Fl), (pre ++ post).Pairwise (fun f g => f.name < g.name) → (∀ f ∈ post, ∀ k, f.loose k = true → k < sect f.now.length) →
    backL keep post (placesL pre).length = post.map fun f => ⟨f.name, backB f (fun k => keptP (placesL (pre ++ post)) keep (f.name, k)), backB f (fun k => keptP (placesL (pre ++ post)) keep (f.name, k)), fun _ => false⟩
  | [], _, _, _ => rfl
  | f :: post, pre, hr, hl => by
    have hpl : placesL (pre ++ [f]) = placesL pre ++ (looseF f).map fun k => (f.name, k) := by unfold placesL; rw [List.flatMap_append]; simp
    have ih := backL_kept keep post (pre ++ [f]) (by rw [List.append_assoc]; exact hr) (fun g hg => hl g (List.mem_cons_of_mem _ hg))
    have hlen : (placesL (pre ++ [f])).length = (placesL pre).length + (looseF f).length := by rw [hpl, List.length_append, List.length_map]
    rw [hlen] at ih
    have hass : pre ++ [f] ++ post = pre ++ f :: post := by rw [List.append_assoc]; rfl
    rw [hass] at ih
    unfold backL
    rw [ih, List.map_cons]
    congr 1
    have hk : keptF f (placesL pre).length keep = fun k => keptP (placesL (pre ++ f :: post)) keep (f.name, k) := by
      funext k
      have hP : placesL (pre ++ f :: post) = placesL pre ++ ((looseF f).map (fun k => (f.name, k)) ++ placesL post) := by unfold placesL; rw [List.flatMap_append, List.flatMap_cons]
      have hnot : ∀ {l : List Fl}, (∀ g ∈ l, g.name ≠ f.name) → ∀ p ∈ placesL l, p.1 ≠ f.name := fun {l} h p hp => by
        unfold placesL at hp
        obtain ⟨g, hg, hp⟩ := List.mem_flatMap.1 hp
        obtain ⟨q, hq, rfl⟩ := List.mem_map.1 hp
        exact h g hg
      rw [List.pairwise_append] at hr
      have n1 := hnot (l := pre) (fun g hg e => by have := hr.2.2 g hg f List.mem_cons_self; rw [e] at this; exact List.lt_irrefl _ this)
      have n2 := hnot (l := post) (fun g hg e => by have := (List.pairwise_cons.1 hr.2.1).1 g hg; rw [e] at this; exact List.lt_irrefl _ this)
      have hidx : ∀ j : Nat, (placesL (pre ++ f :: post))[j]? = some (f.name, k) ↔ f.loose k = true ∧ j = (placesL pre).length + ((List.range k).filter f.loose).length := fun j => by
        rw [hP]
        have hi := looseF_idx f (hl f List.mem_cons_self)
        by_cases c1 : j < (placesL pre).length
        · rw [List.getElem?_append_left c1]
          constructor
          · intro h
            exact absurd rfl (n1 _ (List.mem_of_getElem? h))
          · rintro ⟨_, h⟩; omega
        · rw [List.getElem?_append_right (Nat.le_of_not_lt c1)]
          by_cases c2 : j - (placesL pre).length < ((looseF f).map fun k => (f.name, k)).length
          · rw [List.getElem?_append_left c2, List.getElem?_map]
            constructor
            · intro h
              obtain ⟨q, hq, he⟩ := Option.map_eq_some_iff.1 h
              injection he with _ he
              subst he
              obtain ⟨a1, a2⟩ := (hi _ _).1 hq
              exact ⟨a1, by rw [show ((List.range q).filter f.loose).length = cntP f.loose q from rfl]; omega⟩
            · rintro ⟨a1, a2⟩
              rw [(hi (j - (placesL pre).length) k).2 ⟨a1, by rw [show cntP f.loose k = ((List.range k).filter f.loose).length from rfl]; omega⟩]
              rfl
          · rw [List.getElem?_append_right (Nat.le_of_not_lt c2)]
            constructor
            · intro h
              exact absurd rfl (n2 _ (List.mem_of_getElem? h))
            · rintro ⟨a1, a2⟩
              have := (hi ((List.range k).filter f.loose).length k).2 ⟨a1, rfl⟩
              have := (List.getElem?_eq_some_iff.1 this).1
              rw [List.length_map] at c2
              omega
      unfold keptF keptP
      rw [Bool.eq_iff_iff, Bool.and_eq_true, List.any_eq_true]
      constructor
      · rintro ⟨h1, h2⟩
        refine ⟨_, List.contains_iff_mem.1 h2, ?_⟩
        rw [Bool.and_eq_true, decide_eq_true_eq, decide_eq_true_eq]
        exact ⟨by omega, (hidx _).2 ⟨h1, by rw [Int.toNat_natCast]⟩⟩
      · rintro ⟨i, hi, h2⟩
        rw [Bool.and_eq_true, decide_eq_true_eq, decide_eq_true_eq] at h2
        obtain ⟨a1, a2⟩ := (hidx _).1 h2.2
        refine ⟨a1, List.contains_iff_mem.2 ?_⟩
        rw [← a2, Int.toNat_of_nonneg h2.1]
        exact hi
    unfold backF
    rw [hk]
theorem backL_all (keep : List Int) {l : List Fl} (h : LOk l) : backL keep l 0 = l.map fun f => ⟨f.name, backB f (fun k => keptP (placesL l) keep (f.name, k)), backB f (fun k => keptP (placesL l) keep (f.name, k)), fun _ => false⟩ :=
  backL_kept keep l [] h.rise (fun f hf => (h.files f hf).loose)
end Go.Proofs.YtamboappeahgpaaGreatDoor
/- Package disk: the power comes again. -/
namespace Go.Proofs.YtamboappeahgpaaGreatDoor
open Go.RowKit Go.Shelf
set_option linter.unusedSimpArgs false
set_option linter.unusedVariables false
set_option maxRecDepth 100000

theorem lastsL_names (K : Pl → Bool) (l : List Fl) : (lastsL K l).map (·.name) = l.map (·.name) := by
  unfold lastsL
  rw [List.map_map]
  rfl
theorem lastsL_none (l : List Fl) : lastsL (fun _ => false) l = l := by
  unfold lastsL
  have : ∀ f : Fl, ({ f with lasts := backB f (fun _ => false) } : Fl) = f := fun f => by rw [backB_none f _ (fun _ => rfl)]
  rw [List.map_congr_left (fun f _ => this f), List.map_id']
theorem lastsL_step {l : List Fl} (hn : (l.map (·.name)).Nodup) (K : Pl → Bool) {f : Fl} (hf : f ∈ l) (k : Nat) (hk : 64 * k < f.now.length) (K' : Pl → Bool) (hK : ∀ p, K' p = (K p || decide (p = (f.name, k)))) :
    setF (lastsL K l) { f with lasts := keepB (backB f (fun k => K (f.name, k))) f.now k } = lastsL K' l := by
  unfold setF lastsL
  rw [List.map_map]
  apply List.map_congr_left
  intro g hg
  simp only [Function.comp]
  by_cases e : g.name = f.name
  · rw [if_pos e]
    obtain rfl := uniq_name hn hf hg e
    rw [keep_step g _ k hk]
    congr 2
    funext x
    rw [hK]
    congr 1
    simp
  · rw [if_neg e]
    congr 2
    funext x
    rw [hK]
    have : decide ((g.name, x) = (f.name, k)) = false := decide_eq_false (fun q => e (by injection q))
    rw [this, Bool.or_false]
/-- files as they are behind the loss, those of R not yet -/
def nowL (R : List UInt8 → Bool) (l : List Fl) : List Fl := l.map fun f => if R f.name then f else { f with now := f.lasts }
theorem nowL_names (R : List UInt8 → Bool) (l : List Fl) : (nowL R l).map (·.name) = l.map (·.name) := by
  unfold nowL
  rw [List.map_map]
  apply List.map_congr_left
  intro f _
  simp only [Function.comp]
  split <;> rfl
theorem nowL_all {R : List UInt8 → Bool} {l : List Fl} (h : ∀ f ∈ l, R f.name = true) : nowL R l = l := by
  unfold nowL
  have : l.map (fun f => if R f.name then f else { f with now := f.lasts }) = l.map id := List.map_congr_left fun f hf => by rw [if_pos (h f hf)]; rfl
  rw [this, List.map_id]
theorem nowL_mem {R : List UInt8 → Bool} {l : List Fl} {f : Fl} (hf : f ∈ l) (hR : R f.name = true) : f ∈ nowL R l := List.mem_map.2 ⟨f, hf, by rw [if_pos hR]⟩
theorem nowL_step {l : List Fl} (hn : (l.map (·.name)).Nodup) {R R' : List UInt8 → Bool} {f : Fl} (hf : f ∈ l) (hR' : R' f.name = false) (ho : ∀ n, n ≠ f.name → R' n = R n) : setF (nowL R l) { f with now := f.lasts } = nowL R' l := by
  unfold setF nowL
  rw [List.map_map]
  apply List.map_congr_left
  intro g hg
  simp only [Function.comp]
  by_cases e : g.name = f.name
  · obtain rfl := uniq_name hn hf hg e
    rw [hR']
    split <;> simp
  · have e2 : (if R g.name = true then g else { g with now := g.lasts }).name = g.name := by split <;> rfl
    rw [e2, if_neg e, ho _ e]
section
variable {w w' : World} {b : Nat} {F : Nat → Prop} {s : Ds}
set_option maxHeartbeats 16000000 in
theorem on_any (h : Dk w b F s) (A : Option Addr) (n c : Nat) (l : List Int) (hA : At w w.heap.size A (intC l)) (hAF : ∀ ad, A = some ad → ¬ F ad.block) (hnl : n = l.length) (hnc : n ≤ c) (hn7 : n ≤ 70000) :
    Calls Tryz.prog 36 #[dpt b, .slice A n c] w fun e w' => e = .returned (.int .i64 ((onS s l).2 : Int)) ∧ ∃ F', Dk w' b F' (onS s l).1 ∧ Turns w w' F F' := by
  show Calls _ _ #[.pointer (some ⟨b, 0, none⟩), _] w _
  have H := Lib.hid h
  obtain ⟨mf, ml, fb, col, hb, hx⟩ := h.at_
  have c4 : w.cell? ⟨b, 4, none⟩ = some (.bool s.off) := hb.cell 4 rfl
  cases ho : s.off
  · have e : onS s l = (s, 14) := by unfold onS; rw [if_pos ho]
    rw [e]
    rw [ho] at c4
    clear e h hb hx hA hAF hnl hnc hn7
    go_enter Tryz.func36, Tryz.ntmps36
    go_wp2_with fail
    go_ret
    exact ⟨rfl, F, H.out, Turns.refl _ _⟩
  · have e : onS s l = (⟨backL l s.l 0, s.q, 0, false⟩, 0) := by unfold onS; rw [if_neg (by rw [ho]; simp)]
    rw [e, backL_all l h.lok]
    rw [ho] at c4
    obtain ⟨i0, hi, hz0, hz1, hz2⟩ := info_parts info_byte
    have LO := Lib.hid (show Calls Tryz.prog 31 #[.pointer (some ⟨b, 0, none⟩)] w _ from loose_any h)
    obtain ⟨P, hP⟩ : ∃ P, P = placesL s.l := ⟨_, rfl⟩
    rw [← hP] at LO ⊢
    obtain ⟨N, hN⟩ : ∃ N, N = P.length := ⟨_, rfl⟩
    rw [← hN] at LO
    have hNb : N ≤ 1048576 := by rw [hN, hP]; exact Nat.le_trans (places_length_le s.l) h.used
    have hNi : (N : Int) ≤ 1048576 := by omega
    have hni : (n : Int) ≤ 70000 := by omega
    have HP := Lib.hid hP
    have HN := Lib.hid hN
    have HA := Lib.hid hA
    have HAF := Lib.hid hAF
    have HNL := Lib.hid hnl
    have HX := Lib.hid hx
    have HB := Lib.hid hb
    clear e h hb hx hA hAF hnl hn7 hP hN hNb
    go_enter Tryz.func36, Tryz.ntmps36
    go_wp2_with (go_at_call 31; refine LO.out.mono ?_; rintro e w1 ⟨pv, rfl, hpv, k1⟩; obtain ⟨Ap, cp, rfl, -⟩ := hpv.form)
    have PV := Lib.hid hpv
    have K1 := Lib.hid k1
    clear hpv k1 c4
    go_loopw [7, 23] (fun _ i wr => ∃ (j : Nat) (Ft : Nat → Prop) (colt : Nat → Option (List UInt8)), j ≤ n ∧ i = .int .i64 (j : Int) ∧ DkX wr b Ft (lastsL (keptP P (l.take j)) s.l) mf ml fb colt ∧ Box wr b 102 (dkC mf ml s.q s.armed s.off) ∧ Turns w wr F Ft ∧ (∀ i, Ft i → F i ∨ w1.heap.size ≤ i) ∧ Only w1 wr (fun i => F i ∨ w1.heap.size ≤ i)) (fun _ i _ => n - (intOf i).toNat)
    case atStart =>
      refine ⟨0, F, col, Nat.zero_le _, rfl, ?_, HB.out.keep K1.out, Turns.of_keeps K1.out, fun i hi => .inl hi, Only.refl _ _⟩
      have : lastsL (keptP P (l.take 0)) s.l = s.l := lastsL_none s.l
      rw [this]
      exact HX.out.keep K1.out
    case round =>
      obtain ⟨j, Ft, colt, hj, rfl, hX, hB, hT, hFt, hO⟩ := hrel
      have HXt := Lib.hid hX
      have HBt := Lib.hid hB
      have HTt := Lib.hid hT
      have HFt := Lib.hid hFt
      have HOt := Lib.hid hO
      have HJ := Lib.hid hj
      by_cases hlt : j < n
      · obtain ⟨x, hx⟩ : ∃ x, l[j]? = some x := ⟨_, List.getElem?_eq_getElem (by rw [← HNL.out]; exact hlt)⟩
        have hji : (j : Int) < (n : Int) := by omega
        have TK := Lib.hid (show l.take (j + 1) = l.take j ++ [x] by rw [List.take_add_one, hx]; rfl)
        have HLT := Lib.hid hlt
        have hAt := Turns.at_ hT HA.out HAF.out
        obtain ⟨ad, rfl, hadb, hadc⟩ := At.get hAt (k := j) (by unfold intC; rw [List.length_map, ← HNL.out]; exact hlt)
        have ka : wr.cell? (ad.add j) = some (.int .i64 x) := by rw [hadc]; unfold intC; rw [List.getElem?_map, hx]; rfl
        clear hX hB hT hFt hO hj hlt hAt hadc hadb hx
        by_cases h0 : 0 ≤ x
        · by_cases h1 : x < (N : Int)
          · obtain ⟨i, rfl⟩ := Int.eq_ofNat_of_zero_le h0
            have hiN : i < P.length := by rw [← HN.out]; omega
            obtain ⟨⟨nm, k⟩, hp⟩ : ∃ p, P[i]? = some p := ⟨_, List.getElem?_eq_getElem hiN⟩
            obtain ⟨f, hfm, hfn, hfl⟩ := (mem_places H.out.ok.files (nm, k)).1 (by rw [← HP.out]; exact List.mem_of_getElem? hp)
            have hfn2 : f.name = nm := hfn
            subst hfn2
            have hfo := H.out.ok.files f hfm
            have hk64 : 64 * k < f.now.length := by have := hfo.loose k hfl; unfold sect at this; omega
            have hgm : ({ f with lasts := backB f (fun q => keptP P (l.take j) (f.name, q)) } : Fl) ∈ lastsL (keptP P (l.take j)) s.l := List.mem_map_of_mem (f := fun f : Fl => ({ f with lasts := backB f (fun q => keptP P (l.take j) (f.name, q)) } : Fl)) hfm
            obtain ⟨v1, v2, hA⟩ := HXt.out.each _ hgm
            have hA1 : FileAt wr (DkX.own Ft colt f.name) (fb f.name) v1 v2 f.now (backB f (fun q => keptP P (l.take j) (f.name, q))) := hA
            have hnod : (s.l.map (·.name)).Nodup := HX.out.nodup
            have KA := Lib.hid (keep_any (hA1.keep (keeps_drew wr)) k hk64 hfo.size (by have := (backB_bounds f (fun q => keptP P (l.take j) (f.name, q)) hfo.lasts).2; have := hfo.size; omega))
            have LK0 := run_lookV (P := Tryz.prog) filesT zeroF (HXt.out.files.keep (keeps_drew wr)) f.name false
            have hlk : lookM ((lastsL (keptP P (l.take j)) s.l).map fun f => (f.name, fb f.name)) f.name = some (fb f.name) := by
              have := HXt.out.find f.name
              rw [this, getF_of_mem (f := { f with lasts := backB f (fun q => keptP P (l.take j) (f.name, q)) }) HXt.out.nodup hgm]
              rfl
            rw [hlk] at LK0
            have hlkr : Sem.run Tryz.prog (Instr.lookup 99 (.map (some mf)) (.string (str f.name)) false) wr.drew = .ok (.pointer (some ⟨fb f.name, 0, none⟩)) wr.drew := by simpa [strW, dpt] using LK0
            clear LK0
            have pvw : Own wr w.heap.size 143 2 (.slice Ap N cp) N (P.flatMap celP) := PV.out.same fun q hq => HOt.out.block q (PV.out.lt q hq).2 (fun e => by
              rcases e with e | e
              · have := H.out.lt q e; have := (PV.out.lt q hq).1; omega
              · have := (PV.out.lt q hq).2; omega)
            have hl2 : (P.flatMap celP).length = P.length * 2 := placesC_length P
            obtain ⟨g, rfl, ca, -, -⟩ := pvw.cell (j := i * 2) (by omega)
            obtain ⟨g', hg', cb, -, -⟩ := pvw.cell (j := i * 2 + 1) (by omega)
            obtain rfl : g = g' := by injection hg' with hg'; injection hg'
            have ca0 := flatMap_get celP 2 celP_length P (i := i) (j := 0) (by decide)
            have cb0 := flatMap_get celP 2 celP_length P (i := i) (j := 1) (by decide)
            rw [hp] at ca0 cb0
            rw [Nat.add_zero] at ca0
            rw [ca0] at ca
            rw [cb0] at cb
            have ca1 : wr.cell? ⟨g, i * 2, none⟩ = some (.string (str f.name)) := ca
            have cb1 : wr.cell? ⟨g, i * 2 + 1, none⟩ = some (.int .i64 (k : Int)) := cb
            have c0 : wr.cell? ⟨b, 0, none⟩ = some (.map (some mf)) := HBt.out.cell 0 rfl
            have hbl := HBt.out.lt
            have FIN := Lib.hid (show ∀ w3 v2', FileAt w3 (more wr.drew w3 (DkX.own Ft colt f.name)) (fb f.name) v1 v2' f.now (keepB (backB f (fun q => keptP P (l.take j) (f.name, q))) f.now k) → Only wr.drew w3 (DkX.own Ft colt f.name) →
                ∃ Ft' colt', DkX w3 b Ft' (lastsL (keptP P (l.take (j + 1))) s.l) mf ml fb colt' ∧ Box w3 b 102 (dkC mf ml s.q s.armed s.off) ∧ Turns w w3 F Ft' ∧ (∀ i, Ft' i → F i ∨ w1.heap.size ≤ i) ∧ Only w1 w3 (fun i => F i ∨ w1.heap.size ≤ i) from fun w3 v2' hF hO => by
              have Xd := HXt.out.keep (keeps_drew wr)
              have X3 := Xd.turn (f := { f with lasts := backB f (fun q => keptP P (l.take j) (f.name, q)) }) (f' := { f with lasts := keepB (backB f (fun q => keptP P (l.take j) (f.name, q))) f.now k }) hgm rfl (fun _ => rfl) hO hF
              have hst : setF (lastsL (keptP P (l.take j)) s.l) { f with lasts := keepB (backB f (fun q => keptP P (l.take j) (f.name, q))) f.now k } = lastsL (keptP P (l.take (j + 1))) s.l := lastsL_step hnod (keptP P (l.take j)) hfm k hk64 _ (fun p => by
                rw [TK.out, keptP_snoc, Int.toNat_natCast, hp]
                congr 1
                rw [decide_eq_true (show (0 : Int) ≤ (i : Int) by omega), Bool.true_and]
                by_cases e : p = (f.name, k)
                · subst e; simp
                · rw [decide_eq_false e, decide_eq_false (fun q => e (Option.some.inj q).symm)])
              rw [hst] at X3
              have hsz1 : w1.heap.size ≤ wr.heap.size := HOt.out.size
              refine ⟨_, _, X3, Xd.box (HBt.out.keep (keeps_drew wr)) hO, (HTt.out.trans (Turns.of_keeps (keeps_drew wr))).trans (turns_more hO (fun i hi => hi.1)), fun i hi => ?_, (HOt.out.keep (keeps_drew wr)).trans hO (fun i hi => .inl (HFt.out i hi.1))⟩
              rcases hi with hi | ⟨hi, _⟩
              · exact HFt.out i hi
              · exact .inr (Nat.le_trans hsz1 hi))
            have hiz : (i : Int) < (N : Int) := h1
            have hir : (i : Int) ≤ 1048576 := by omega
            clear hiN hfm hfn hfl hfo hgm hA hA1 hnod hlk pvw hl2 hg' ca cb ca0 cb0 h1
            go_wp2_with fail
            go_region_with (first | (go_at_call 80; refine KA.out.mono ?_; rintro e w3 ⟨rfl, v2', hF, hO⟩))
            all_goals
              obtain ⟨Ft', colt', X3, B3, T3, F3, O3⟩ := FIN.out w3 v2' hF hO
              have hjl := HLT.out
              clear hF hO FIN KA
              go_wp2_with fail
              exact ⟨⟨j + 1, Ft', colt', by omega, by go_num, X3, B3, T3, F3, O3⟩, by simp [intOf]; omega⟩
          · have h1' : decide (x < (N : Int)) = false := decide_eq_false h1
            have SAME := Lib.hid (show lastsL (keptP P (l.take (j + 1))) s.l = lastsL (keptP P (l.take j)) s.l by
              congr 1
              funext p
              have hno : P[x.toNat]? = none := List.getElem?_eq_none (by rw [← HN.out]; omega)
              rw [TK.out, keptP_snoc, hno]
              simp)
            clear h1
            go_wp2_with fail
            have hjl := HLT.out
            exact ⟨⟨j + 1, Ft, colt, by omega, by go_num, by rw [SAME.out]; exact HXt.out, HBt.out, HTt.out, HFt.out, HOt.out⟩, by simp [intOf]; omega⟩
        · have h0' : x < 0 := by omega
          have SAME := Lib.hid (show lastsL (keptP P (l.take (j + 1))) s.l = lastsL (keptP P (l.take j)) s.l by
            congr 1
            funext p
            rw [TK.out, keptP_snoc, decide_eq_false h0]
            simp)
          clear h0
          go_wp2_with fail
          have hjl := HLT.out
          exact ⟨⟨j + 1, Ft, colt, by omega, by go_num, by rw [SAME.out]; exact HXt.out, HBt.out, HTt.out, HFt.out, HOt.out⟩, by simp [intOf]; omega⟩
      · obtain rfl : j = n := by omega
        have hjn : l.take j = l := by rw [HNL.out, List.take_length]
        rw [hjn] at HXt
        obtain ⟨l2, hm2, hmem⟩ := HXt.out.loose
        have c1 : wr.cell? ⟨b, 1, none⟩ = some (.map (some ml)) := HBt.out.cell 1 rfl
        have hbl := HBt.out.lt
        have HM2 := Lib.hid hm2
        obtain ⟨bl, hbl0⟩ : ∃ bl : List Fl, bl = s.l.map fun f => ⟨f.name, f.now, backB f (fun k => keptP P l (f.name, k)), fun _ => false⟩ := ⟨_, rfl⟩
        have HBL := Lib.hid hbl0
        have hbn : bl.map (·.name) = s.l.map (·.name) := by rw [hbl0, List.map_map]; rfl
        have HBN := Lib.hid hbn
        have CLR := Lib.hid (show ∀ w3, LooseM w3 ml [] → Only wr w3 (fun x => x = ml) → DkX w3 b Ft bl mf ml fb colt ∧ Box w3 b 102 (dkC mf ml s.q s.armed s.off) from fun w3 hM3 hO3 => by
          refine ⟨HXt.out.relist (fun g hg => ?_) ?_ ⟨[], hM3, fun p => ⟨fun h => (by cases h), fun h => ?_⟩⟩ (hO3.weak fun i hi => .inr (.inl hi)), (hO3.block b HBt.out.lt (HM2.out.ne HBt.out)).trans HBt.out⟩
          · rw [hbl0] at hg
            obtain ⟨f, hf, rfl⟩ := List.mem_map.1 hg
            exact ⟨_, List.mem_map_of_mem (f := fun f : Fl => ({ f with lasts := backB f (fun q => keptP P l (f.name, q)) } : Fl)) hf, rfl, rfl, rfl⟩
          · rw [names_map (lastsL (keptP P l) s.l) bl fb (by rw [hbn, lastsL_names])]
            exact HXt.out.files.same (hO3.block mf HXt.out.files.lt (fun e => HXt.out.ne e))
          · obtain ⟨g, hg, _, h2⟩ := h
            rw [hbl0] at hg
            obtain ⟨f, hf, rfl⟩ := List.mem_map.1 hg
            cases h2)
        have HSZ1 := Lib.hid (show w1.heap.size ≤ wr.heap.size from hO.size)
        clear hX hB hT hFt hO hj hlt hm2 hmem hbl0 hbn hjn
        go_wp2_with (first
          | (refine wpList_clearV _ rfl _ rfl looseT ml l2 rfl HM2.out ?_; intro w3 hM3 hO3; obtain ⟨X3, B3⟩ := CLR.out w3 hM3 hO3; have c03 := B3.cell 0 rfl; have hb3 := B3.lt)
          | (at_range; refine wpList_rangeV _ rfl _ rfl filesT mf _ rfl X3.files ?_; intro w4 hi4 hk4 hs4))
        try go_frame
        have X4 := X3.keep hk4
        have B4 : Box w4 b 102 (dkC mf ml s.q s.armed s.off) := B3.keep hk4
        have T4 : Turns w w4 F Ft := (HTt.out.trans (T := Ft) (U := Ft) ⟨hO3.weak (fun i hi => by rw [hi]; exact HXt.out.nl.1), fun _ hi => .inl hi⟩).trans (Turns.of_keeps hk4)
        have hr4 : w1.heap.size ≤ w3.heap.size := Nat.le_trans HSZ1.out hO3.size
        have nFr : ¬ Ft w3.heap.size := fun e => by have := X3.lt _ e; omega
        have NOD := Lib.hid X3.nodup
        have BOK := Lib.hid (show ∀ f ∈ bl, f.lasts.length ≤ 16777216 from fun f hf => by
          rw [HBL.out] at hf
          obtain ⟨g, hg, rfl⟩ := List.mem_map.1 hf
          have h1 := H.out.ok.files g hg
          exact Nat.le_trans (backB_bounds g (fun k => keptP P l (g.name, k)) h1.lasts).2 h1.size)
        have HI4 := Lib.hid hi4
        have HX4 := Lib.hid X4
        have HB4 := Lib.hid B4
        have HT4 := Lib.hid T4
        have HR4 := Lib.hid hr4
        have NFR := Lib.hid nFr
        clear hM3 hO3 X3 B3 c03 hb3 hi4 hk4 hs4 X4 B4 T4 hr4 nFr c1
        go_loopw [9] (fun _ wr => ∃ (gl : List Fl) (lf : List (List UInt8 × Nat)) (Fu : Nat → Prop) (colu : Nat → Option (List UInt8)), IterV strW dpt wr mf w3.heap.size (bl.map fun f => (f.name, fb f.name)) lf ∧ lf.Perm (gl.map fun f => (f.name, fb f.name)) ∧ (∀ f ∈ gl, f ∈ bl) ∧ (gl.map (·.name)).Nodup ∧ DkX wr b Fu (nowL (fun nm => decide (nm ∈ gl.map (·.name))) bl) mf ml fb colu ∧ Box wr b 102 (dkC mf ml s.q s.armed s.off) ∧ Turns w wr F Fu ∧ ¬ Fu w3.heap.size ∧ w3.heap.size < wr.heap.size) (fun _ wr => wr.rangeLeft mf w3.heap.size)
        case atStart =>
          refine ⟨bl, _, Ft, colt, HI4.out, .refl _, fun f hf => hf, NOD.out, ?_, HB4.out, HT4.out, NFR.out, HI4.out.lt.2⟩
          rw [nowL_all (fun f hf => decide_eq_true (List.mem_map.2 ⟨f, hf, rfl⟩))]
          exact HX4.out
        case round =>
          obtain ⟨gl, lf, Fu, colu, hI, hP2, hgl, hgn, hX, hB, hT, hnr, hrl⟩ := hrel
          have HI := Lib.hid hI
          have HP2 := Lib.hid hP2
          have HGL := Lib.hid hgl
          have HGN := Lib.hid hgn
          have HXu := Lib.hid hX
          have HBu := Lib.hid hB
          have HTu := Lib.hid hT
          have HNR := Lib.hid hnr
          have hbu := hB.lt
          have f4 := hB.frozen 4
          clear hI hP2 hgl hgn hX hB hT hnr
          go_wp2_with (at_next; refine wpList_nextV _ rfl _ rfl filesT mf w3.heap.size _ lf rfl HI.out (fun s : List UInt8 => Value.string (str s)) rfl (fun k : Nat => Value.pointer (some ⟨k, 0, none⟩)) rfl ?_ ?_)
          · intro hd
            have hgl0 : gl = [] := by
              have h1 := HP2.out.length_eq
              rw [hd] at h1
              exact List.eq_nil_of_length_eq_zero (by simpa using h1.symm)
            have hfin : nowL (fun nm => decide (nm ∈ gl.map (·.name))) bl = s.l.map fun f => ⟨f.name, backB f (fun k => keptP P l (f.name, k)), backB f (fun k => keptP P l (f.name, k)), fun _ => false⟩ := by
              rw [hgl0, HBL.out]
              unfold nowL
              rw [List.map_map]
              rfl
            have Xf := HXu.out
            rw [hfin] at Xf
            have LK := H.out.lok.back l 0
            rw [backL_all l H.out.lok, ← HP.out] at LK
            have har := H.out.dead ho
            have FIN := Lib.hid (show Dk (wr.setCell ⟨b, 4, none⟩ (.bool false)) b Fu ⟨s.l.map fun f => ⟨f.name, backB f (fun k => keptP P l (f.name, k)), backB f (fun k => keptP P l (f.name, k)), fun _ => false⟩, s.q, 0, false⟩ ∧ Turns w (wr.setCell ⟨b, 4, none⟩ (.bool false)) F Fu from
              ⟨⟨⟨LK.rise, LK.files, H.out.ok.q⟩, fun hh => (by cases hh), by show 0 ≤ _; omega, LK.used, mf, ml, fb, _, by
                have b4 := HBu.out.set 4 (.bool false)
                rw [har] at b4
                exact b4, Xf.setB HBu.out (only_cell wr b 4 _)⟩, HTu.out.trans ⟨(only_cell wr b 4 _).weak (fun i hi => by rw [hi]; exact Xf.nb.1), fun _ hi => .inl hi⟩⟩)
            have cw4 : wr.cell? ⟨b, 4, none⟩ = some (.bool s.off) := HBu.out.cell 4 rfl
            clear hd hgl0 hfin Xf LK har
            go_wp2_with fail
            go_ret
            exact ⟨rfl, Fu, FIN.out⟩
          · rintro nm k lf' w5 hp hI2 ho2 hen
            obtain ⟨f, gl', he, hg2, hl2⟩ := take_file HP2.out hp
            obtain ⟨rfl, rfl⟩ : nm = f.name ∧ k = fb f.name := by simpa using he
            have hfg : f ∈ gl := hg2.mem_iff.2 List.mem_cons_self
            have hfb : f ∈ bl := HGL.out f hfg
            have hne5 : ∀ i, Fu i → w5.heap[i]? = wr.heap[i]? := fun i hi2 => ho2.block i (HXu.out.lt i hi2) (fun e => HNR.out (by rw [← e]; exact hi2))
            have X5 := HXu.out.same hne5 ho2.size
            have B5 : Box w5 b 102 (dkC mf ml s.q s.armed s.off) := (hne5 b HXu.out.nb.1).trans HBu.out
            have T5 : Turns w w5 F Fu := ⟨HTu.out.only.trans ho2 (fun i hi2 => .inr (by rw [hi2]; have := HR4.out; have := K1.out.size; omega)), HTu.out.next⟩
            have hfn : f ∈ nowL (fun nm => decide (nm ∈ gl.map (·.name))) bl := nowL_mem hfb (decide_eq_true (List.mem_map.2 ⟨f, hfg, rfl⟩))
            obtain ⟨v1, v2, hA⟩ := X5.each f hfn
            have hgn2 : ((f :: gl').map (·.name)).Nodup := (hg2.map (·.name)).nodup_iff.1 HGN.out
            rw [List.map_cons, List.nodup_cons] at hgn2
            have hstep : setF (nowL (fun nm => decide (nm ∈ gl.map (·.name))) bl) { f with now := f.lasts } = nowL (fun nm => decide (nm ∈ gl'.map (·.name))) bl := nowL_step NOD.out hfb (decide_eq_false hgn2.1) (fun n hn => by
              rw [Bool.eq_iff_iff, decide_eq_true_iff, decide_eq_true_iff, (hg2.map (·.name)).mem_iff, List.map_cons, List.mem_cons]
              simp [hn])
            obtain ⟨A1, cap1, rfl, hcap1, hcm1, -⟩ := hA.own1.form
            obtain ⟨A2, cap2, rfl, hcap2, hcm2, -⟩ := hA.own2.form
            have c0 : w5.cell? ⟨fb f.name, 0, none⟩ = some (.slice A1 f.now.length cap1) := hA.box.cell 0 rfl
            have c1 : w5.cell? ⟨fb f.name, 1, none⟩ = some (.slice A2 f.lasts.length cap2) := hA.box.cell 1 rfl
            have f0 := hA.box.frozen 0
            have hkl := hA.lt
            have CUT := Lib.hid (hA.own1.cut1 (Nat.zero_le f.now.length))
            have bxn : (Value.slice A1 0 cap1).ownBlock ≠ some (fb f.name) := by rw [own_block_len (n := 0) (m := f.now.length)]; exact hA.own1.not_box hA.box file_ne
            have HA5 := Lib.hid hA
            have HSZ := Lib.hid (BOK.out f hfb)
            have HST := Lib.hid hstep
            have HX5 := Lib.hid X5
            have HB5 := Lib.hid B5
            have HT5 := Lib.hid T5
            have HI2 := Lib.hid hI2
            have HL2 := Lib.hid hl2
            have HFN := Lib.hid hfn
            have HG2 := Lib.hid (show (∀ g ∈ gl', g ∈ bl) ∧ (gl'.map (·.name)).Nodup from ⟨fun g hg => HGL.out g (hg2.mem_iff.2 (List.mem_cons_of_mem _ hg)), hgn2.2⟩)
            have LEN := Lib.hid (show lf.length = lf'.length + 1 by have := hp.length_eq; simpa using this)
            have hr5 : w3.heap.size < w5.heap.size := Nat.lt_of_lt_of_le hrl ho2.size
            clear he hg2 hl2 hp hI2 ho2 hfg hfb hne5 X5 B5 T5 hfn hgn2 hstep hA hcap1 hcm1 hcap2 hcm2 hbu f4 hrl
            go_wp2_with fail
            go_region_law ((refine step_appD _ rfl (.tmp 70) (.tmp 74) 34 rfl 0 5 i0 (.int .u8 0) 1 1 Tryz.underlying34 hi hz0 hz1 hz2 rfl (by decide) (.slice A1 0 cap1) 0 [] (by simp [Act.eval, Act.put]) ((by simpa using CUT.out : Own w5 0 5 1 (.slice A1 0 cap1) 0 []).keep (keeps_drew _)) _ A2 f.lasts.length cap2 (cel f.lasts) (by simp [Act.eval, Act.put]) (by rw [cel_length, Nat.mul_one]) (HA5.out.own2.at_.keep (keeps_drew _)) (cel_one _) (by have := HSZ.out; unfold maxLen; omega) (by have := HSZ.out; omega) (Nat.zero_le _) ?_); intro v' w6 hown' hgrow hblk; obtain ⟨A', cap', rfl, -⟩ := hown'.form; have hb3 : Box w6 (fb f.name) 117 #[.slice A1 f.now.length cap1, .slice A2 f.lasts.length cap2] := (hgrow.block _ (by simp; omega) (fun e => bxn e.symm)).trans (HA5.out.box.keep (keeps_drew _)); have z0 := hb3.cell 0 rfl; have z1 := hb3.frozen 0)
            all_goals
              have hown2 : Own w6 0 5 1 (.slice A' f.lasts.length cap') f.lasts.length (cel f.lasts) := by simpa using hown'
              have hgr : w5.grownBy w6 (Value.slice A1 f.now.length cap1).ownBlock := by
                rw [own_block_len (n := f.now.length) (m := 0)]
                exact grownBy_step ((keeps_drew _).grown_ _) hgrow (.inl rfl)
              rw [Nat.zero_add] at hblk
              have FP := HA5.out.put1 hgr hown2 (by
                rw [own_block_len (n := f.now.length) (m := 0)]
                rcases hblk with e | e
                · exact .inl e
                · exact .inr ⟨_, e, Nat.le_refl _⟩)
              clear hown' hgrow hblk hb3 z0 z1 c0 c1 f0 hown2 hgr
              generalize w6.setCell ⟨fb f.name, 0, none⟩ (.slice A' f.lasts.length cap') = w7 at *
              obtain ⟨F7, O7⟩ := FP
              have X7 := HX5.out.turn (f' := { f with now := f.lasts }) HFN.out rfl (fun _ => rfl) O7 F7
              rw [HST.out] at X7
              have B7 : Box w7 b 102 (dkC mf ml s.q s.armed s.off) := HX5.out.box HB5.out O7
              have T7 := HT5.out.trans (turns_more O7 (fun i hi => hi.1))
              have I7 := HI2.out.same (w' := w7) (O7.block mf HI2.out.lt.1 (fun e => by have := e.2; rw [HX5.out.nf.2] at this; cases this)) (O7.block _ HI2.out.lt.2 (fun e => HNR.out e.1))
              have R7 := Lib.hid (show w7.rangeLeft mf w3.heap.size < wr.rangeLeft mf w3.heap.size by rw [I7.left_eq, HI.out.left_eq, LEN.out]; omega)
              have N7 : ¬ more w5 w7 Fu w3.heap.size := fun e => by
                rcases e with e | e
                · exact HNR.out e
                · omega
              have S7 : w3.heap.size < w7.heap.size := Nat.lt_of_lt_of_le hr5 O7.size
              clear F7 O7 hr5 hkl bxn
              go_wp2_with fail
              exact ⟨⟨gl', lf', _, _, I7, HL2.out, HG2.out.1, HG2.out.2, X7, B7, T7, N7, S7⟩, R7.out⟩
end
end Go.Proofs.YtamboappeahgpaaGreatDoor
/- Package disk keeps its contracts. -/
namespace Go.Proofs.YtamboappeahgpaaGreatDoor
open Go.RowKit
set_option linter.unusedVariables false
set_option maxRecDepth 100000

theorem maxLen_str {nm : List UInt8} (h : nm.length ≤ maxLen) : nm.length ≤ maxLen := h
noncomputable def diskOk : DiskOk where
  Z _ := True
  keep _ _ := trivial
  D := Dk
  lt h := h.lt
  same h := h.same
  ok h := h.ok
  new q w _ h1 h2 := new_any q w h1 h2
  create nm _ h hn := create_any h nm hn
  remove nm _ h hn := remove_any h nm hn
  write nm off A n c l _ h hn h1 h2 hB hF hnl hnc hn7 := write_any h nm off A n c l hn h1 h2 hB hF hnl hnc hn7
  cut nm n _ h hn h1 h2 := cutD_any h nm n hn h1 h2
  sync nm _ h hn := sync_any h nm hn
  read nm off n _ h hn h1 h2 h3 h4 := read_any h nm off n hn h1 h2 h3 h4
  size nm _ h hn := size_any h nm hn
  names _ h hl := names_any h hl
  used _ h := used_any h
  quota n _ h h1 h2 := quota_any h n h1 h2
  arm n _ h h1 h2 := arm_any h n h1 h2
  loose _ h := loose_any h
  on A n c l _ h hA hF hnl hnc hn7 := on_any h A n c l hA hF hnl hnc hn7
  flip nm i m _ h hn h1 h2 := flip_any h nm i m hn h1 h2
  files _ h hl := files_any h hl
end Go.Proofs.YtamboappeahgpaaGreatDoor
