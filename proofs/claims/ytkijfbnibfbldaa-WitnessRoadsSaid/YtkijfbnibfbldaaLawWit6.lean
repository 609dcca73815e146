/- Layer 14's statements: WitnessRoads. -/
import Derived.Test.YtkijfbnibfbldaaLawWit3
import Derived.Test.YtkijfbnibfbldaaRefWeight
import Derived.Test.YtkijfbnibfbldaaOpenTrip
namespace Go.Proofs.Ytkijfbnibfbldaa
open Go.RowKit
set_option linter.unusedSimpArgs false
set_option linter.unusedVariables false
set_option maxRecDepth 100000

/-- how far the vertex at a place of a road is -/
def farR (l : List Nat) : Nat → Option Nat
  | 0 => some 0
  | i + 1 => match farR l i with
    | some d => if i < l.length ∧ addB d (l.getD i 0) = true then some (d + l.getD i 0) else none
    | none => none
theorem farR_none {l : List Nat} {i : Nat} (h : l.length < i) : farR l i = none := by
  cases i with
  | zero => omega
  | succ i =>
    unfold farR
    cases farR l i with
    | none => rfl
    | some d => simp only; rw [if_neg (fun h => by omega)]
/-- who waits, where those ahead of place i are settled -/
def RoadSt (l : List Nat) (avoid i : Nat) (W : Wt) : Prop :=
  (i = 0 ∧ W = [(0, 0)]) ∨ (0 < i ∧ (((farR l i = none ∨ i = avoid) ∧ W = []) ∨ ∃ d, farR l i = some d ∧ i ≠ avoid ∧ W = [(i, d)]))
def stopR (l : List Nat) (avoid most i : Nat) : Prop := farR l i = none ∨ (∃ d, farR l i = some d ∧ most < d) ∨ i = 16 ∨ (0 < i ∧ i = avoid)
section
variable {l : List Nat} {avoid bad most to i : Nat} {W : Wt} {r : Answ}
theorem road_one {v d u c : Nat} (h : LeastW v d [(u, c)]) : v = u ∧ d = c := by
  have := h.mem
  simp only [List.mem_singleton, Prod.mk.injEq] at this
  exact this
theorem road_least (u c : Nat) : LeastW u c [(u, c)] := ⟨by simp, fun v d h => by simp only [List.mem_singleton, Prod.mk.injEq] at h; rw [h.1, h.2]; exact lessB_irr _⟩
theorem road_st {d : Nat} (h : RoadSt l avoid i W) (hf : farR l i = some d) (ha : ¬ (0 < i ∧ i = avoid)) : W = [(i, d)] := by
  rcases h with ⟨rfl, rfl⟩ | ⟨h0, h⟩
  · injection hf with hf; rw [hf]
  · rcases h with ⟨h | h, -⟩ | ⟨d', h1, h2, rfl⟩
    · rw [h] at hf; cases hf
    · exact absurd ⟨h0, h⟩ ha
    · rw [h1] at hf; injection hf with hf; rw [hf]
theorem road_stop (h : Ans (outR l bad) (avR avoid) to most (List.range i) W r) (hst : RoadSt l avoid i W) (hs : stopR l avoid most i) : r.2.1 = false ∧ r.2.2 = 0 := by
  by_cases hW : W = []
  · subst hW
    have := h.one (List.Perm.refl _) (by simp [Onces]) (.none _)
    rw [this]
    exact ⟨rfl, rfl⟩
  · obtain ⟨d, hd, hWd⟩ : ∃ d, farR l i = some d ∧ W = [(i, d)] := by
      rcases hst with ⟨rfl, rfl⟩ | ⟨h0, ⟨-, h⟩ | ⟨d, h1, h2, h3⟩⟩
      · exact ⟨0, rfl, rfl⟩
      · exact absurd h hW
      · exact ⟨d, h1, h3⟩
    have hna : ¬ (0 < i ∧ i = avoid) := by
      rintro ⟨h0, ha⟩
      rcases hst with ⟨rfl, -⟩ | ⟨-, ⟨-, h⟩ | ⟨d', h1, h2, h3⟩⟩
      · omega
      · exact hW h
      · exact h2 ha
    subst hWd
    have hc : most < d ∨ (List.range i).length = 16 := by
      rcases hs with h1 | ⟨d', h1, h2⟩ | h1 | h1
      · rw [hd] at h1; cases h1
      · rw [hd] at h1; injection h1 with h1; left; omega
      · right; simpa using h1
      · exact absurd h1 hna
    have := h.one (List.Perm.refl _) (by simp [Onces]) (.far (road_least i d) hc)
    rw [this]
    exact ⟨rfl, rfl⟩
theorem road_yes {d : Nat} (h : Ans (outR l bad) (avR avoid) to most (List.range i) W r) (hst : RoadSt l avoid i W) (hd : farR l i = some d) (hm : d ≤ most) (h16 : i ≠ 16) (ha : ¬ (0 < i ∧ i = avoid)) (ht : i = to) : r.2.1 = true ∧ r.2.2 = 0 := by
  obtain rfl := road_st hst hd ha
  have := h.one (List.Perm.refl _) (by simp [Onces]) (.yes (road_least i d) hm (by simpa using h16) ht)
  rw [this]
  exact ⟨rfl, rfl⟩
theorem road_err {d : Nat} (h : Ans (outR l bad) (avR avoid) to most (List.range i) W r) (hst : RoadSt l avoid i W) (hd : farR l i = some d) (hm : d ≤ most) (h16 : i ≠ 16) (ha : ¬ (0 < i ∧ i = avoid)) (ht : i ≠ to) (hb : i = bad) : r.2.1 = false ∧ r.2.2 = 7 := by
  obtain rfl := road_st hst hd ha
  have ho : outR l bad i = (7, []) := if_pos hb
  have := h.one (List.Perm.refl _) (by simp [Onces]) (.err (road_least i d) hm (by simpa using h16) ht (by rw [ho]; decide))
  rw [this, ho]
  exact ⟨rfl, rfl⟩
theorem road_next {d : Nat} (h : Ans (outR l bad) (avR avoid) to most (List.range i) W r) (hst : RoadSt l avoid i W) (hd : farR l i = some d) (hm : d ≤ most) (h16 : i ≠ 16) (ha : ¬ (0 < i ∧ i = avoid)) (ht : i ≠ to) (hb : i ≠ bad) :
    ∃ W', Ans (outR l bad) (avR avoid) to most (List.range (i + 1)) W' r ∧ RoadSt l avoid (i + 1) W' := by
  obtain rfl := road_st hst hd ha
  have hdel : delM [(i, d)] i = [] := by simp [delM]
  have ho : (outR l bad i).1 = 0 := by
    unfold outR
    rw [if_neg hb]
    split <;> rfl
  have key : ∀ q, Ans (outR l bad) (avR avoid) to most (List.range (i + 1)) (folW (avR avoid) (List.range (i + 1)) d (outR l bad i).2 []) q → Ans (outR l bad) (avR avoid) to most (List.range i) [(i, d)] q := fun q hq => by
    refine .go (road_least i d) hm (by simpa using h16) ht ho ?_
    rw [hdel, ← List.range_succ]
    exact hq
  have hW : ∃ W', folW (avR avoid) (List.range (i + 1)) d (outR l bad i).2 [] = W' ∧ RoadSt l avoid (i + 1) W' := by
    refine ⟨_, rfl, .inr ⟨by omega, ?_⟩⟩
    by_cases hl : l.length ≤ i
    · have e : outR l bad i = (0, []) := by unfold outR; rw [if_neg hb, if_pos hl]
      rw [e]
      exact .inl ⟨.inl (farR_none (by omega)), rfl⟩
    · have e : outR l bad i = (0, [⟨i, i + 1, l.getD i 0, 4294967295⟩]) := by unfold outR; rw [if_neg hb, if_neg hl]
      rw [e]
      simp only [folW]
      have hni : (i + 1) ∉ List.range (i + 1) := by simp
      by_cases hav : i + 1 = avoid
      · left
        refine ⟨.inr hav, ?_⟩
        rw [if_neg]
        unfold goB avR
        simp [hav]
      · by_cases had : addB d (l.getD i 0) = true
        · right
          refine ⟨d + l.getD i 0, ?_, hav, ?_⟩
          · show (match farR l i with | some d => _ | none => _) = _
            rw [hd]
            simp only
            rw [if_pos ⟨by omega, had⟩]
          · rw [if_pos]
            · rfl
            · unfold goB avR
              simp only [decide_eq_false hav, decide_eq_false hni, had, Bool.not_false, Bool.and_self]
        · left
          refine ⟨.inl ?_, ?_⟩
          · show (match farR l i with | some d => _ | none => _) = _
            rw [hd]
            simp only
            rw [if_neg (fun h => had h.2)]
          · rw [if_neg]
            unfold goB
            intro hg
            simp only [Bool.and_eq_true] at hg
            exact had hg.2
  obtain ⟨W', e, hst'⟩ := hW
  rw [e] at key
  refine ⟨W', ?_, hst'⟩
  -- the answer is one: take it as it goes on
  cases h with
  | far l2 c =>
    obtain ⟨rfl, rfl⟩ := road_one l2
    rcases c with c | c
    · omega
    · simp at c; omega
  | yes l2 a b c =>
    obtain ⟨rfl, rfl⟩ := road_one l2
    exact absurd c ht
  | err l2 a b c e2 =>
    obtain ⟨rfl, rfl⟩ := road_one l2
    exact absurd ho e2
  | go l2 a b c e2 hr =>
    obtain ⟨rfl, rfl⟩ := road_one l2
    rw [hdel, ← List.range_succ, e] at hr
    exact hr
end
set_option maxHeartbeats 4000000 in
theorem roadFar_any {w : World} {g : Nat} {A : Option Addr} {n c : Nat} {l : List Nat} {b2 b3 : Value} (hb : Box w g 57 #[.slice A n c, b2, b3]) (hn : n = l.length) (hA : At w w.heap.size A (u64s l)) (hl : l.length ≤ 30) (hx : ∀ x ∈ l, x < 18446744073709551616) (i : Nat) (hi : i ≤ l.length) :
    Calls Try.prog 25 #[.pointer (some ⟨g, 0, none⟩), .int .i64 (i : Int)] w fun e w' => e = .returned (.tuple #[.int .u64 ((farR l i).getD 0 : Int), .bool (farR l i).isSome]) ∧ Keeps w w' := by
  have BX := Lib.hid hb
  have HN := Lib.hid hn
  have HA := Lib.hid hA
  have HL := Lib.hid (And.intro hl hi)
  have HX := Lib.hid hx
  have i30 : (i : Int) ≤ 30 := by omega
  clear hb hn hA hl hx hi
  go_enter Try.func25, Try.ntmps25
  go_wp2_with fail
  go_loopw [6, 7] (fun s t wr => ∃ (k d : Nat), k ≤ i ∧ t = .int .i64 (k : Int) ∧ s = .int .u64 (d : Int) ∧ d < 18446744073709551616 ∧ farR l k = some d ∧ Keeps w wr) (fun _ t _ => i - (intOf t).toNat)
  case atStart => exact ⟨0, 0, Nat.zero_le _, rfl, rfl, by decide, rfl, keeps_refl _⟩
  case round =>
    obtain ⟨k, d, hk, rfl, rfl, hd, hf, hks⟩ := hrel
    have KS := Lib.hid hks
    have HF := Lib.hid hf
    have HD := Lib.hid hd
    by_cases hki : k < i
    · have c0 : wr.cell? ⟨g, 0, none⟩ = some (.slice A n c) := (BX.out.keep hks).cell 0 rfl
      have lg := (BX.out.keep hks).lt
      have hkl : k < l.length := by have := HL.out; omega
      obtain ⟨ad, hA2, -, hc⟩ := At.get ((HA.out.keep hks)) (k := k) (by rw [show (u64s l).length = l.length by simp [u64s]]; exact hkl)
      have hx2 : (u64s l)[k]? = some (.int .u64 (l.getD k 0 : Int)) := by simp [u64s, List.getD, hkl]
      rw [hx2] at hc
      rw [hA2] at c0
      have hxb : l.getD k 0 < 18446744073709551616 := by
        rw [List.getD_eq_getElem?_getD, List.getElem?_eq_getElem hkl, Option.getD_some]
        exact HX.out _ (List.getElem_mem hkl)
      have NXT := Lib.hid (show farR l (k + 1) = if addB d (l.getD k 0) = true then some (d + l.getD k 0) else none from by
        show (match farR l k with | some d => _ | none => _) = _
        rw [hf]
        simp only
        by_cases h : addB d (l.getD k 0) = true
        · rw [if_pos ⟨hkl, h⟩, if_pos h]
        · rw [if_neg (fun e => h e.2), if_neg h])
      have ADD := Lib.hid (fun V => refAdd_any d (l.getD k 0) hd hxb V)
      obtain ⟨x, hxx⟩ : ∃ x, l.getD k 0 = x := ⟨_, rfl⟩
      rw [hxx] at hc NXT ADD
      obtain ⟨ab, hab⟩ : ∃ ab, addB d x = ab := ⟨_, rfl⟩
      rw [hab] at NXT ADD
      have HAB := Lib.hid hab
      have k1 : (k : Int) < (i : Int) := by omega
      have k2 : (k : Int) < (n : Int) := by have := HN.out; omega
      have HK := Lib.hid hki
      clear hf hd hks hk hki hkl hA2 hx2 hxb hxx hab
      cases ab with
      | false =>
        have HNONE := Lib.hid (show farR l i = none from by
          have h1 : farR l (k + 1) = none := by rw [NXT.out]; rfl
          have main : ∀ j, farR l (k + 1 + j) = none := fun j => by
            induction j with
            | zero => exact h1
            | succ j ih =>
              show (match farR l (k + 1 + j) with | some d => _ | none => _) = _
              rw [ih]
          have := main (i - (k + 1))
          rwa [show k + 1 + (i - (k + 1)) = i by have := HK.out; omega] at this)
        go_wp2_with fail
        refine (ADD.out _).mono ?_
        rintro e w2 ⟨rfl, rfl⟩
        go_wp2_with fail
        go_returns
        exact ⟨by rw [HNONE.out]; rfl, KS.out⟩
      | true =>
        rw [addV_true HAB.out] at ADD
        have hsum : d + x < 18446744073709551616 := by have := HAB.out; unfold addB far at this; simp only [decide_eq_true_eq] at this; omega
        have HSUM := Lib.hid hsum
        obtain ⟨sm, hsm⟩ : ∃ sm, d + x = sm := ⟨_, rfl⟩
        rw [hsm] at ADD NXT HSUM
        clear hsum hsm
        go_wp2_with fail
        refine (ADD.out _).mono ?_
        rintro e w2 ⟨rfl, rfl⟩
        go_wp2_with fail
        go_roundw
        case rel => exact ⟨k + 1, sm, by have := HK.out; omega, by go_num, rfl, HSUM.out, by rw [NXT.out]; rfl, KS.out⟩
        case measure => have := HK.out; simp [intOf]; omega
    · obtain rfl : k = i := by omega
      clear hks hk hki
      go_wp2_with fail
      go_returns
      exact ⟨by rw [HF.out]; rfl, KS.out⟩
end Go.Proofs.Ytkijfbnibfbldaa
