/- slices.Sort at []uint32: order2Ordered, medianOrdered, medianAdjacentOrdered, choosePivotOrdered. -/
import Derived.Test.YtdfaogagadoooaaSoA
import Derived.Test.YtdfaogagadoooaaBox
namespace Go.Proofs.Ytdfaogagadoooaa
open Go.RowKit Go.Sort
set_option linter.unusedSimpArgs false
set_option linter.unusedVariables false
set_option maxRecDepth 100000

/-- a row that is read, and a number beside it that is turned -/
structure PiR (W : World) (base g n cap : Nat) (d : Array Nat) (q : Nat) : Prop where
  own : Own W base 30 1 (.slice (some ⟨g, 0, none⟩) n cap) n (celU d.toList)
  box : ∃ s : Int, Box W q 3 #[.int .i64 s]
theorem PiR.ne {W : World} {base g n cap q : Nat} {d : Array Nat} (h : PiR W base g n cap d q) : g ≠ q := by
  obtain ⟨s, hs⟩ := h.box
  rcases h.own.2 with ⟨e, _⟩ | ⟨g', cap', cur, fz, e, _, hg, _⟩
  · cases e
  · injection e with e
    injection e with e
    injection e with e
    subst e
    intro hq
    subst hq
    rw [hs] at hg
    injection hg with hg
    injection hg with h1 h2
    exact absurd h2 (by decide)
theorem PiR.keep {W V : World} {base g n cap q : Nat} {d : Array Nat} (h : PiR W base g n cap d q) (k : Keeps W V) : PiR V base g n cap d q := ⟨h.own.keep k, by obtain ⟨s, hs⟩ := h.box; exact ⟨s, hs.keep k⟩⟩
theorem PiR.cell {W : World} {base g n cap q : Nat} {d : Array Nat} (h : PiR W base g n cap d q) {i : Nat} (hi : i < n) : W.cell? ⟨g, i, none⟩ = some (.int .u32 (d[i]! : Int)) := ((SoR.start h.own).cell hi).1
theorem PiR.put {W : World} {base g n cap q : Nat} {d : Array Nat} (h : PiR W base g n cap d q) (s : Int) : PiR (W.setCell ⟨q, 0, none⟩ (.int .i64 s)) base g n cap d q ∧ Only W (W.setCell ⟨q, 0, none⟩ (.int .i64 s)) (fun b => b = q) := by
  have ho := only_set W q 0 (.int .i64 s)
  refine ⟨⟨h.own.same fun k hk => ?_, ?_⟩, ho⟩
  · have : g = k := by simpa [Value.ownBlock] using hk
    subst this
    exact ho.block g (h.own.lt g rfl).2 h.ne
  · obtain ⟨s0, hs⟩ := h.box
    exact ⟨s, by simpa using hs.set 0 (.int .i64 s)⟩
def PiP (W : World) (base g n cap : Nat) (d : Array Nat) (q : Nat) (W' : World) : Prop := PiR W' base g n cap d q ∧ Only W W' (fun b => b = q)
theorem PiP.trans {W V U : World} {base g n cap q : Nat} {d : Array Nat} (h : PiP W base g n cap d q V) (k : PiP V base g n cap d q U) : PiP W base g n cap d q U := ⟨k.1, h.2.trans k.2 (fun _ e => .inl e)⟩
set_option maxHeartbeats 4000000 in
theorem order2_u32 {w : World} {base g n cap q a b : Nat} {d : Array Nat} (h : PiR w base g n cap d q) (ha : a < n) (hb : b < n) (hn : n ≤ 1000000) :
    Calls Try.prog 46 #[.slice (some ⟨g, 0, none⟩) n cap, .int .i64 (a : Int), .int .i64 (b : Int), .pointer (some ⟨q, 0, none⟩)] w fun e w' => ∃ x y : Nat, e = .returned (.tuple #[.int .i64 (x : Int), .int .i64 (y : Int)]) ∧ ((x = a ∧ y = b) ∨ (x = b ∧ y = a)) ∧ PiP w base g n cap d q w' := by
  have H := Lib.hid h
  obtain ⟨s, hs⟩ := h.box
  have B := Lib.hid hs
  have c0 := h.cell ha
  have c1 := h.cell hb
  have a0 : (0 : Int) ≤ (a : Int) := by omega
  have a1 : (a : Int) < (n : Int) := by omega
  have b0 : (0 : Int) ≤ (b : Int) := by omega
  have b1 : (b : Int) < (n : Int) := by omega
  have nI : (n : Int) ≤ 1000000 := by omega
  generalize d[a]! = x at *
  generalize d[b]! = y at *
  have LS := Lib.hid (less_u32 y x)
  clear h hs ha hb hn
  go_enter Try.func46, Try.ntmps46
  go_wp2_with fail
  go_quiet (exact Calls.quiet_of_same (LS.out _))
  have k9 := keeps_drewN w nq
  generalize w.drewN nq = wq at *
  have H2 := Lib.hid (H.out.keep k9)
  have B2 := B.out.keep k9
  have O3 := Lib.hid (show Only w wq (fun b => b = q) from (Only.refl w _).keep k9)
  have bc := B2.cell 0 rfl
  have bf := B2.frozen 0
  have PU := Lib.hid (H2.out.put)
  clear k9 c0 c1 B2
  cases hc : ltN y x
  · go_wp2_with fail
    go_returns
    exact ⟨a, b, rfl, .inl ⟨rfl, rfl⟩, H2.out, O3.out⟩
  · go_wp2_with fail
    go_returns
    exact ⟨b, a, rfl, .inr ⟨rfl, rfl⟩, (PU.out _).1, O3.out.trans (PU.out _).2 (fun _ e => .inl e)⟩
set_option maxHeartbeats 4000000 in
theorem median_u32 {w : World} {base g n cap q a b c : Nat} {d : Array Nat} (h : PiR w base g n cap d q) (ha : a < n) (hb : b < n) (hc : c < n) (hn : n ≤ 1000000) :
    Calls Try.prog 44 #[.slice (some ⟨g, 0, none⟩) n cap, .int .i64 (a : Int), .int .i64 (b : Int), .int .i64 (c : Int), .pointer (some ⟨q, 0, none⟩)] w fun e w' => ∃ x : Nat, e = .returned (.int .i64 (x : Int)) ∧ (x = a ∨ x = b ∨ x = c) ∧ PiP w base g n cap d q w' := by
  have H := Lib.hid h
  have O2 := Lib.hid (fun (W : World) (x y : Nat) (hW : PiR W base g n cap d q) (hx : x < n) (hy : y < n) => order2_u32 hW hx hy hn)
  have HA := Lib.hid ha
  have HB := Lib.hid hb
  have HC := Lib.hid hc
  clear h ha hb hc
  go_enter Try.func44, Try.ntmps44
  go_wp2_with fail
  go_at_call 46
  refine (O2.out _ _ _ H.out HA.out HB.out).mono ?_
  rintro e w1 ⟨x1, y1, rfl, hm1, p1⟩
  have M1 := Lib.hid hm1
  have P1 := Lib.hid p1
  have HX1 := Lib.hid (show x1 < n by have := HA.out; have := HB.out; omega)
  have HY1 := Lib.hid (show y1 < n by have := HA.out; have := HB.out; omega)
  clear hm1 p1
  go_wp2_with fail
  go_at_call 46
  refine (O2.out _ _ _ P1.out.1 HY1.out HC.out).mono ?_
  rintro e w2 ⟨x2, y2, rfl, hm2, p2⟩
  have M2 := Lib.hid hm2
  have P2 := Lib.hid p2
  have HX2 := Lib.hid (show x2 < n by have := HY1.out; have := HC.out; omega)
  clear hm2 p2
  go_wp2_with fail
  go_at_call 46
  refine (O2.out _ _ _ P2.out.1 HX1.out HX2.out).mono ?_
  rintro e w3 ⟨x3, y3, rfl, hm3, p3⟩
  have M3 := Lib.hid hm3
  have P3 := Lib.hid p3
  clear hm3 p3
  go_wp2_with fail
  go_returns
  exact ⟨y3, rfl, by have := M1.out; have := M2.out; have := M3.out; omega, (P1.out.trans P2.out).trans P3.out⟩
set_option maxHeartbeats 4000000 in
theorem medAdj_u32 {w : World} {base g n cap q a : Nat} {d : Array Nat} (h : PiR w base g n cap d q) (h1 : 1 ≤ a) (ha : a + 1 < n) (hn : n ≤ 1000000) :
    Calls Try.prog 43 #[.slice (some ⟨g, 0, none⟩) n cap, .int .i64 (a : Int), .pointer (some ⟨q, 0, none⟩)] w fun e w' => ∃ x : Nat, e = .returned (.int .i64 (x : Int)) ∧ (a ≤ x + 1 ∧ x ≤ a + 1) ∧ PiP w base g n cap d q w' := by
  obtain ⟨am, ham⟩ : ∃ z, z = a - 1 := ⟨_, rfl⟩
  obtain ⟨ap, hap⟩ : ∃ z, z = a + 1 := ⟨_, rfl⟩
  have M := Lib.hid (median_u32 h (a := am) (b := a) (c := ap) (by omega) (by omega) (by omega) hn)
  have w1 : IntKind.i64.wrap ((a : Int) - 1) = (am : Int) := by rw [IntKind.wrap_i64]; omega
  have w2 : IntKind.i64.wrap ((a : Int) + 1) = (ap : Int) := by rw [IntKind.wrap_i64]; omega
  have F := Lib.hid (And.intro ham (And.intro hap h1))
  clear h h1 ha hn ham hap
  go_enter Try.func43, Try.ntmps43
  go_wp2_with (go_at_call 44; refine M.out.mono ?_; rintro e w1 ⟨x, rfl, hx, p⟩)
  go_returns
  exact ⟨x, rfl, by have := F.out; omega, p⟩
set_option maxHeartbeats 8000000 in
theorem choose_u32 {w : World} {base g n cap a b : Nat} {d : Array Nat} (h : Own w base 30 1 (.slice (some ⟨g, 0, none⟩) n cap) n (celU d.toList)) (hab : 12 < b - a) (hb : b ≤ n) (hn : n ≤ 1000000) :
    Calls Try.prog 32 #[.slice (some ⟨g, 0, none⟩) n cap, .int .i64 (a : Int), .int .i64 (b : Int)] w fun e w' => ∃ x k : Nat, e = .returned (.tuple #[.int .i64 (x : Int), .int .i64 (k : Int)]) ∧ (a ≤ x ∧ x < b) ∧ k ≤ 2 ∧ Keeps w w' := by
  obtain ⟨l, hl⟩ : ∃ z, z = b - a := ⟨_, rfl⟩
  obtain ⟨q4, hq⟩ : ∃ z, z = l / 4 := ⟨_, rfl⟩
  obtain ⟨e2, he2⟩ : ∃ z, z = q4 * 2 := ⟨_, rfl⟩
  obtain ⟨e3, he3⟩ : ∃ z, z = q4 * 3 := ⟨_, rfl⟩
  obtain ⟨i, hi⟩ : ∃ z, z = a + q4 := ⟨_, rfl⟩
  obtain ⟨j, hj⟩ : ∃ z, z = a + e2 := ⟨_, rfl⟩
  obtain ⟨k, hk⟩ : ∃ z, z = a + e3 := ⟨_, rfl⟩
  have w1 : IntKind.i64.wrap ((b : Int) - (a : Int)) = (l : Int) := by rw [IntKind.wrap_i64]; omega
  have w2 : Int.tdiv (l : Int) 4 = (q4 : Int) := by rw [hq]; rfl
  have w3 : IntKind.i64.wrap ((q4 : Int) * 2) = (e2 : Int) := by rw [IntKind.wrap_i64]; omega
  have w4 : IntKind.i64.wrap ((q4 : Int) * 3) = (e3 : Int) := by rw [IntKind.wrap_i64]; omega
  have w5 : IntKind.i64.wrap ((a : Int) + (q4 : Int)) = (i : Int) := by rw [IntKind.wrap_i64]; omega
  have w6 : IntKind.i64.wrap ((a : Int) + (e2 : Int)) = (j : Int) := by rw [IntKind.wrap_i64]; omega
  have w7 : IntKind.i64.wrap ((a : Int) + (e3 : Int)) = (k : Int) := by rw [IntKind.wrap_i64]; omega
  have q0 : (0 : Int) ≤ (q4 : Int) := by omega
  have q1 : (q4 : Int) ≤ 1000000 := by omega
  have l1 : (8 : Int) ≤ (l : Int) := by omega
  have l2 : (l : Int) ≤ 1000000 := by omega
  have F := Lib.hid (And.intro hl (And.intro hq (And.intro he2 (And.intro he3 (And.intro hi (And.intro hj (And.intro hk (And.intro hab (And.intro hb hn)))))))))
  have k0 := keeps_alloc w (.cells #[.int .i64 0] 3)
  have K0 := Lib.hid k0
  have P0 := Lib.hid (show PiR (w.alloc (.cells #[.int .i64 0] 3)) base g n cap d w.heap.size from ⟨h.keep k0, 0, Box.new w _ _⟩)
  have MD := Lib.hid (fun (W : World) (x y z : Nat) (hW : PiR W base g n cap d w.heap.size) (hx : x < n) (hy : y < n) (hz : z < n) => median_u32 hW hx hy hz hn)
  have MA := Lib.hid (fun (W : World) (x : Nat) (hW : PiR W base g n cap d w.heap.size) (h1 : 1 ≤ x) (hx : x + 1 < n) => medAdj_u32 hW h1 hx hn)
  have FIN := Lib.hid (fun (V : World) (p : PiP (w.alloc (.cells #[.int .i64 0] 3)) base g n cap d w.heap.size V) => show Keeps w V from ⟨p.2.os, p.2.tape, p.2.output, by have := p.2.size; simp at this; omega, fun z hz => (p.2.block z (by simp; omega) (by omega)).trans (k0.block z hz)⟩)
  clear h hl hq he2 he3 hi hj hk hab hb hn k0
  go_enter Try.func32, Try.ntmps32
  by_cases h50 : 50 ≤ l
  · have g1 : (50 : Int) ≤ (l : Int) := by omega
    have HL := Lib.hid h50
    clear h50
    go_wp2_with fail
    go_at_call 43
    refine (MA.out _ _ P0.out (by have := F.out; have := HL.out; omega) (by have := F.out; have := HL.out; omega)).mono ?_
    rintro e w1 ⟨x1, rfl, hx1, p1⟩
    have X1 := Lib.hid hx1
    have P1 := Lib.hid p1
    clear hx1 p1
    go_wp2_with fail
    go_at_call 43
    refine (MA.out _ _ P1.out.1 (by have := F.out; have := HL.out; omega) (by have := F.out; have := HL.out; omega)).mono ?_
    rintro e w2 ⟨x2, rfl, hx2, p2⟩
    have X2 := Lib.hid hx2
    have P2 := Lib.hid p2
    clear hx2 p2
    go_wp2_with fail
    go_at_call 43
    refine (MA.out _ _ P2.out.1 (by have := F.out; have := HL.out; omega) (by have := F.out; have := HL.out; omega)).mono ?_
    rintro e w3 ⟨x3, rfl, hx3, p3⟩
    have X3 := Lib.hid hx3
    have P3 := Lib.hid p3
    clear hx3 p3
    go_wp2_with fail
    go_at_call 44
    refine (MD.out _ _ _ _ P3.out.1 (by have := F.out; have := HL.out; have := X1.out; omega) (by have := F.out; have := HL.out; have := X2.out; omega) (by have := F.out; have := HL.out; have := X3.out; omega)).mono ?_
    rintro e w4 ⟨x, rfl, hx, p4⟩
    have KF := Lib.hid (FIN.out w4 (((P1.out.trans P2.out).trans P3.out).trans p4))
    have HX := Lib.hid (show a ≤ x ∧ x < b by have := F.out; have := HL.out; have := X1.out; have := X2.out; have := X3.out; omega)
    obtain ⟨s, hs⟩ := p4.1.box
    have cs := hs.cell 0 rfl
    clear hx p4 hs
    by_cases h0 : s = 0
    · subst h0
      go_wp2_with fail
      go_returns
      exact ⟨x, 1, rfl, HX.out, by omega, KF.out⟩
    · by_cases h12 : s = 12
      · subst h12
        go_wp2_with fail
        go_returns
        exact ⟨x, 2, rfl, HX.out, by omega, KF.out⟩
      · have t0 : decide (s = 0) = false := decide_eq_false h0
        have t1 : decide (s = 12) = false := decide_eq_false h12
        have t2 : (s == 0) = false := by simpa using h0
        have t3 : (s == 12) = false := by simpa using h12
        go_wp2_with fail
        go_returns
        exact ⟨x, 0, rfl, HX.out, by omega, KF.out⟩
  · have g1 : decide ((50 : Int) ≤ (l : Int)) = false := decide_eq_false (by omega)
    have HL := Lib.hid h50
    clear h50
    go_wp2_with fail
    go_at_call 44
    refine (MD.out _ _ _ _ P0.out (by have := F.out; omega) (by have := F.out; omega) (by have := F.out; omega)).mono ?_
    rintro e w4 ⟨x, rfl, hx, p4⟩
    have KF := Lib.hid (FIN.out w4 p4)
    have HX := Lib.hid (show a ≤ x ∧ x < b by have := F.out; omega)
    obtain ⟨s, hs⟩ := p4.1.box
    have cs := hs.cell 0 rfl
    clear hx p4 hs
    by_cases h0 : s = 0
    · subst h0
      go_wp2_with fail
      go_returns
      exact ⟨x, 1, rfl, HX.out, by omega, KF.out⟩
    · by_cases h12 : s = 12
      · subst h12
        go_wp2_with fail
        go_returns
        exact ⟨x, 2, rfl, HX.out, by omega, KF.out⟩
      · have t0 : decide (s = 0) = false := decide_eq_false h0
        have t1 : decide (s = 12) = false := decide_eq_false h12
        have t2 : (s == 0) = false := by simpa using h0
        have t3 : (s == 12) = false := by simpa using h12
        go_wp2_with fail
        go_returns
        exact ⟨x, 0, rfl, HX.out, by omega, KF.out⟩
end Go.Proofs.Ytdfaogagadoooaa
