/- Layer 14's statements: WitnessSelf; the caller's functions are a road's. -/
import Derived.Test.YtkijfbnibfbldaaLawWit2
import Derived.Test.YtkijfbnibfbldaaNums
namespace Go.Proofs.Ytkijfbnibfbldaa
open Go.RowKit
set_option linter.unusedSimpArgs false
set_option linter.unusedVariables false
set_option maxRecDepth 100000

/-- functions of the caller's that turn nothing -/
def keepC {o : Outs} {av : Nat → Bool} (w0 : World) (go : Nat) (ro : Value) (ga : Nat) (ra : Value) (eo : ∀ args w, (callFunc go args).run Try.prog w = .ok (.enter go args) w) (ea : ∀ args w, (callFunc ga args).run Try.prog w = .ok (.enter ga args) w)
    (hout : ∀ (w : World) (v : Nat), Keeps w0 w → v < 4294967296 → Calls Try.prog go #[ro, .int .u32 (v : Int)] w fun e w' => ∃ sv, e = .returned (.tuple #[sv, .int .i64 ((o v).1 : Int)]) ∧ Own w' w.heap.size 67 4 sv (o v).2.length (edsC (o v).2) ∧ Keeps w w')
    (hav : ∀ (w : World) (v : Nat), Keeps w0 w → v < 4294967296 → Calls Try.prog ga #[ra, .int .u32 (v : Int)] w fun e w' => e = .returned (.bool (av v)) ∧ Keeps w w')
    (hok : ∀ v, v < 4294967296 → (o v).2.length ≤ 1000000 ∧ ∀ e ∈ (o v).2, EdOk e) : Caller o av where
  go := go
  ro := ro
  ga := ga
  ra := ra
  J a D w := Keeps w0 w ∧ ∀ i, D i ↔ i < w0.heap.size
  eo := eo
  ea := ea
  lt := by
    rintro a D w ⟨k, hD⟩ i hi
    exact Nat.lt_of_lt_of_le ((hD i).1 hi) k.size
  same := by
    rintro a D w w' T ⟨k, hD⟩ o hT
    exact ⟨⟨o.os.trans k.os, o.tape.trans k.tape, o.output.trans k.output, Nat.le_trans k.size o.size, fun i hi => (o.block i (Nat.lt_of_lt_of_le hi k.size) (fun e => hT i e ((hD i).2 hi))).trans (k.block i hi)⟩, hD⟩
  out := by
    rintro a D w v ⟨k, hD⟩ hv hl
    refine (hout w v k hv).mono ?_
    rintro e w' ⟨sv, rfl, hO, k2⟩
    obtain ⟨A, c, rfl, hA, hB⟩ := hO.below
    exact ⟨D, A, _, c, rfl, ⟨keeps_trans k k2, hD⟩, Turns.of_keeps k2, rfl, hA, hB⟩
  avoid := by
    rintro a D w v ⟨k, hD⟩ hv
    exact hav w v k hv
  ok := hok
/-- a search by them -/
theorem keepFind (K : HeapOk) {o : Outs} {av : Nat → Bool} (w0 : World) (go : Nat) (ro : Value) (ga : Nat) (ra : Value) (eo : ∀ args w, (callFunc go args).run Try.prog w = .ok (.enter go args) w) (ea : ∀ args w, (callFunc ga args).run Try.prog w = .ok (.enter ga args) w)
    (hout : ∀ (w : World) (v : Nat), Keeps w0 w → v < 4294967296 → Calls Try.prog go #[ro, .int .u32 (v : Int)] w fun e w' => ∃ sv, e = .returned (.tuple #[sv, .int .i64 ((o v).1 : Int)]) ∧ Own w' w.heap.size 67 4 sv (o v).2.length (edsC (o v).2) ∧ Keeps w w')
    (hav : ∀ (w : World) (v : Nat), Keeps w0 w → v < 4294967296 → Calls Try.prog ga #[ra, .int .u32 (v : Int)] w fun e w' => e = .returned (.bool (av v)) ∧ Keeps w w')
    (hok : ∀ v, v < 4294967296 → (o v).2.length ≤ 1000000 ∧ ∀ e ∈ (o v).2, EdOk e) (fr to most : Nat) (hfr : fr < 4294967296) (hto : to < 4294967296) (hm : most < 18446744073709551616) :
    Calls Try.prog 13 #[.func (.func go) #[ro] #[], .func (.func ga) #[ra] #[], .int .u32 (fr : Int), .int .u32 (to : Int), .int .u64 (most : Int)] w0 fun e w' =>
      ∃ r : Answ, e = .returned (.tuple #[.bool r.2.1, .int .i64 (r.2.2 : Int)]) ∧ Ans o av to most [] [(fr, 0)] r ∧ Keeps w0 w' := by
  refine Calls.mono (find_any K (keepC w0 go ro ga ra eo ea hout hav hok) (D := fun i => i < w0.heap.size) ⟨keeps_refl _, fun i => Iff.rfl⟩ fr to most hfr hto hm) ?_
  rintro e w' ⟨r, h1, h2, D', h3, h4⟩
  exact ⟨r, h1, h2, h3.1⟩
theorem own_newW (w : World) (e : TypeId) (size n : Nat) (xs : List Value) (h : xs.length = n * size) (hn : n ≤ 1000) : Own (w.alloc (.cells xs.toArray e)) w.heap.size e size (.slice (some ⟨w.heap.size, 0, none⟩) n n) n xs :=
  ⟨h, .inr ⟨w.heap.size, n, xs.toArray, (0, 0), rfl, Nat.le_refl _, heap_alloc_new w _, .inl rfl, Nat.le_refl _, by unfold maxLen; omega, by simpa using h, by simp [← h]⟩⟩

/-! ### A road -/
/-- weights, whose edges are not to be had, who is avoided -/
def outR (l : List Nat) (bad : Nat) : Outs := fun v => if v = bad then (7, []) else if l.length ≤ v then (0, []) else (0, [⟨v, v + 1, l.getD v 0, 4294967295⟩])
def avR (avoid : Nat) : Nat → Bool := fun v => decide (v = avoid)
set_option maxHeartbeats 4000000 in
theorem roadOut_any {w : World} {g : Nat} {A : Option Addr} {n c : Nat} {l : List Nat} {bad avoid : Nat} (hb : Box w g 57 #[.slice A n c, .int .u32 (bad : Int), .int .u32 (avoid : Int)]) (hn : n = l.length) (hA : At w w.heap.size A (u64s l)) (hl : l.length ≤ 30) (v : Nat) (hv : v < 4294967296) :
    Calls Try.prog 23 #[.pointer (some ⟨g, 0, none⟩), .int .u32 (v : Int)] w fun e w' => ∃ sv, e = .returned (.tuple #[sv, .int .i64 ((outR l bad v).1 : Int)]) ∧ Own w' w.heap.size 67 4 sv (outR l bad v).2.length (edsC (outR l bad v).2) ∧ Keeps w w' := by
  have c0 : w.cell? ⟨g, 0, none⟩ = some (.slice A n c) := hb.cell 0 rfl
  have c1 : w.cell? ⟨g, 1, none⟩ = some (.int .u32 (bad : Int)) := hb.cell 1 rfl
  have lg := hb.lt
  have hv1 : (v : Int) < 4294967296 := by omega
  have hv0 : (0 : Int) ≤ (v : Int) := by omega
  unfold outR
  clear hb
  by_cases h1 : v = bad
  · rw [if_pos h1]
    subst h1
    clear hA hn hl
    go_enter Try.func23, Try.ntmps23
    go_wp2_with fail
    go_returns
    exact ⟨_, rfl, Own.nil _ _ _ _, keeps_refl _⟩
  · rw [if_neg h1]
    have d1 : ((v : Int) == (bad : Int)) = false := by simp only [beq_eq_false_iff_ne, ne_eq, Int.natCast_inj]; exact h1
    by_cases h2 : l.length ≤ v
    · rw [if_pos h2]
      have d2 : decide ((n : Int) ≤ (v : Int)) = true := decide_eq_true (by omega)
      have d3 : decide (n ≤ v) = true := decide_eq_true (by omega)
      clear hA hn hl h1 h2
      go_enter Try.func23, Try.ntmps23
      go_wp2_with fail
      go_returns
      exact ⟨_, rfl, Own.nil _ _ _ _, keeps_refl _⟩
    · rw [if_neg h2]
      have d2 : decide ((n : Int) ≤ (v : Int)) = false := decide_eq_false (by omega)
      have d3 : decide (n ≤ v) = false := decide_eq_false (by omega)
      have d4 : (v : Int) < (n : Int) := by omega
      have d5 : (v : Int) < 30 := by omega
      obtain ⟨ad, rfl, -, hc⟩ := At.get hA (k := v) (by rw [show (u64s l).length = l.length by simp [u64s]]; omega)
      have hx : (u64s l)[v]? = some (.int .u64 (l.getD v 0 : Int)) := by
        have : v < l.length := by omega
        simp [u64s, List.getD, this]
      rw [hx] at hc
      obtain ⟨x, hxx⟩ : ∃ x, l.getD v 0 = x := ⟨_, rfl⟩
      rw [hxx] at hc ⊢
      have ON := Lib.hid (own_newW w 67 4 1 (edC ⟨v, v + 1, x, 4294967295⟩) rfl (by decide))
      have KN := Lib.hid (keeps_alloc w (.cells (edC ⟨v, v + 1, x, 4294967295⟩).toArray 67))
      clear hA hn hl h1 h2 hx hxx
      go_enter Try.func23, Try.ntmps23
      go_wp2_with fail
      go_returns
      exact ⟨_, rfl, ON.out, KN.out⟩
set_option maxHeartbeats 1000000 in
theorem roadShun_any {w : World} {g : Nat} {a b : Value} {avoid : Nat} (hb : Box w g 57 #[a, b, .int .u32 (avoid : Int)]) (v : Nat) :
    Calls Try.prog 24 #[.pointer (some ⟨g, 0, none⟩), .int .u32 (v : Int)] w fun e w' => e = .returned (.bool (avR avoid v)) ∧ Keeps w w' := by
  have c2 : w.cell? ⟨g, 2, none⟩ = some (.int .u32 (avoid : Int)) := hb.cell 2 rfl
  have lg := hb.lt
  unfold avR
  clear hb
  by_cases h : v = avoid
  · subst h
    rw [decide_eq_true rfl]
    go_enter Try.func24, Try.ntmps24
    go_wp2_with fail
    go_ret
    exact ⟨by simp, keeps_refl _⟩
  · rw [decide_eq_false h]
    have d1 : ((v : Int) == (avoid : Int)) = false := by simp only [beq_eq_false_iff_ne, ne_eq, Int.natCast_inj]; exact h
    go_enter Try.func24, Try.ntmps24
    go_wp2_with fail
    go_ret
    exact ⟨by simp [d1], keeps_refl _⟩
theorem roadFind_any (K : HeapOk) {w : World} {g : Nat} {A : Option Addr} {n c : Nat} {l : List Nat} {bad avoid : Nat} (hb : Box w g 57 #[.slice A n c, .int .u32 (bad : Int), .int .u32 (avoid : Int)]) (hn : n = l.length) (hA : At w w.heap.size A (u64s l)) (hl : l.length ≤ 30) (hx : ∀ x ∈ l, x < 18446744073709551616) (fr to most : Nat) (hfr : fr < 4294967296) (hto : to < 4294967296) (hm : most < 18446744073709551616) :
    Calls Try.prog 13 #[.func (.func 23) #[.pointer (some ⟨g, 0, none⟩)] #[], .func (.func 24) #[.pointer (some ⟨g, 0, none⟩)] #[], .int .u32 (fr : Int), .int .u32 (to : Int), .int .u64 (most : Int)] w fun e w' =>
      ∃ r : Answ, e = .returned (.tuple #[.bool r.2.1, .int .i64 (r.2.2 : Int)]) ∧ Ans (outR l bad) (avR avoid) to most [] [(fr, 0)] r ∧ Keeps w w' :=
  keepFind K w _ _ _ _ (enters_of Try.func23 rfl rfl) (enters_of Try.func24 rfl rfl)
    (fun w' v k hv => roadOut_any (hb.keep k) hn ((hA.keep k).more k.size) hl v hv) (fun w' v k hv => roadShun_any (hb.keep k) v)
    (fun v hv => by
      unfold outR
      split
      · simp
      · split
        · simp
        · rename_i h1 h2
          refine ⟨by simp, fun e he => ?_⟩
          simp only [List.mem_singleton] at he
          subst he
          refine ⟨hv, by simp only; omega, ?_, (by decide : (4294967295 : Nat) < 4294967296)⟩
          have : v < l.length := by omega
          simp only [List.getD_eq_getElem?_getD, List.getElem?_eq_getElem this, Option.getD_some]
          exact hx _ (List.getElem_mem this)) fr to most hfr hto hm
set_option maxHeartbeats 4000000 in
theorem self14_walk (K : HeapOk) (w : World) (v : Nat) (hv : v < 4294967296) (most : Nat) (hm : most < 18446744073709551616) : Calls Try.prog 9 #[.int .u32 (v : Int), .int .u64 (most : Int)] w (Yes w) := by
  have WK := Lib.hid (works14 K)
  have B0 := Box.new w 57 #[.slice none 0 0, .int .u32 (v : Int), .int .u32 (v : Int)]
  have K0 := Lib.hid (keeps_alloc w (.cells #[.slice none 0 0, .int .u32 (v : Int), .int .u32 (v : Int)] 57))
  have FN := Lib.hid (roadFind_any K (l := []) B0 rfl (At.nil _ _ _) (by simp) (by simp) v v most hv hv hm)
  clear B0 hv hm
  go_enter Try.func9, Try.ntmps9
  go_wp2_with fail
  refine FN.out.mono ?_
  rintro e w2 ⟨r, rfl, hA, k2⟩
  have hr : r = ([], true, 0) := hA.one (List.Perm.refl _) (by simp [Onces]) (.yes ⟨by simp, fun u c hu => (by simp at hu; rw [hu.1, hu.2]; exact lessB_irr _)⟩ (Nat.zero_le _) (by simp) rfl)
  subst hr
  clear hA
  go_wp2_with fail
  refine (WK.out _).mono ?_
  rintro e w3 ⟨rfl, k3⟩
  go_wp2_with fail
  go_ret
  exact ⟨rfl, keeps_trans K0.out (keeps_trans k2 k3)⟩
end Go.Proofs.Ytkijfbnibfbldaa
