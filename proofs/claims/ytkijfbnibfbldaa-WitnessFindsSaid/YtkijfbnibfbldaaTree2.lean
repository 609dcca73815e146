/- The contracts of the tree of package heap: which is foremost. -/
import Derived.Test.YtkijfbnibfbldaaTree
namespace Go.Proofs.Ytkijfbnibfbldaa
open Go.RowKit
set_option linter.unusedSimpArgs false
set_option linter.unusedVariables false
set_option maxRecDepth 100000

theorem lessB_trans {a b c : It} (h : lessB a b = true) (k : lessB b c = true) : lessB a c = true := by
  rw [lessB_true] at *
  omega
/-- which of these is foremost, as far as it has been looked -/
structure Fo (l : List It) (i m k : Nat) : Prop where
  lo : 2 * i + 1 ≤ m
  hi : m ≤ 2 * i + 3
  is : k = i ∨ (2 * i + 1 ≤ k ∧ k < m ∧ k < l.length ∧ lessB (it l k) (it l i) = true)
  none : ∀ j, 2 * i + 1 ≤ j → j < m → j < l.length → lessB (it l j) (it l k) = false
theorem Fo.start (l : List It) (i : Nat) : Fo l i (2 * i + 1) i := ⟨Nat.le_refl _, by omega, .inl rfl, fun j h1 h2 => by omega⟩
theorem Fo.stay {l : List It} {i m k : Nat} (h : Fo l i m k) (hm : m ≤ 2 * i + 2) (hb : lessB (it l m) (it l k) = false) : Fo l i (m + 1) k :=
  ⟨by have := h.lo; omega, by omega, by
    rcases h.is with e | ⟨a, b, c, d⟩
    · exact .inl e
    · exact .inr ⟨a, by omega, c, d⟩, fun j h1 h2 h3 => by
    by_cases e : j = m
    · subst e; exact hb
    · exact h.none j h1 (by omega) h3⟩
theorem Fo.go {l : List It} {i m k : Nat} (h : Fo l i m k) (hm : m ≤ 2 * i + 2) (hml : m < l.length) (hb : lessB (it l m) (it l k) = true) : Fo l i (m + 1) m :=
  ⟨by have := h.lo; omega, by omega, .inr ⟨h.lo, by omega, hml, by
    rcases h.is with e | ⟨a, b, c, d⟩
    · subst e; exact hb
    · exact lessB_trans hb d⟩, fun j h1 h2 h3 => by
    by_cases e : j = m
    · subst e; exact lessB_irr _
    · exact lessB_le_trans (lessB_asym hb) (h.none j h1 (by omega) h3)⟩
theorem Fo.done {l : List It} {i m k : Nat} (h : Fo l i m k) (hm : m = 2 * i + 3 ∨ l.length ≤ m) : Fore l i k :=
  ⟨by
    rcases h.is with e | ⟨a, b, c, d⟩
    · exact .inl e
    · exact .inr ⟨by have := h.hi; omega, c, d⟩, fun j h1 h2 => h.none j (by omega) (by omega) h2⟩

set_option maxHeartbeats 4000000 in
theorem fore_any {w : World} {b n cap : Nat} {A : Option Addr} {l : List It} {i : Nat} (h : TreeAt w b (.slice A n cap) l) (hl : l.length ≤ 65536) (hi : i < l.length ∨ (i = 0 ∧ l.length = 0)) :
    Calls Try.prog 52 #[.pointer (some ⟨b, 0, none⟩), .int .i64 (i : Int)] w fun e w' => ∃ k : Nat, e = .returned (.int .i64 (k : Int)) ∧ Fore l i k ∧ Keeps w w' := by
  have hn : n = l.length := by
    rcases h.own.2 with ⟨e, e'⟩ | ⟨g', cap', cur, fz, e, _⟩
    · exact e'.symm ▸ (by injection e)
    · injection e
  subst hn
  have H := Lib.hid h
  have HL := Lib.hid hl
  have HI := Lib.hid hi
  have i2 : (i : Int) < 65537 := by omega
  have i3 : (0 : Int) ≤ (i : Int) := by omega
  clear h hl hi
  go_enter Try.func52, Try.ntmps52
  go_wp2_with fail
  go_loopw [5, 6] (fun best below wr => ∃ (k m : Nat), best = .int .i64 k ∧ below = .int .i64 m ∧ Fo l i m k ∧ Keeps w wr) (fun _ below _ => 2 * i + 3 - (intOf below).toNat)
  case atStart => exact ⟨i, 2 * i + 1, rfl, by go_num, Fo.start l i, keeps_refl _⟩
  case round =>
    obtain ⟨k, m, rfl, rfl, hf, hks⟩ := hrel
    have F := Lib.hid hf
    have f1 := hf.lo
    have f2 := hf.hi
    have bx := H.out.box.keep hks
    have c0 := bx.cell 0 rfl
    have c1 := bx.cell 1 rfl
    clear hf
    by_cases hm : m ≤ 2 * i + 2
    · by_cases hml : m < l.length
      · obtain ⟨g, rfl, _⟩ := H.out.own.cell (j := 0) (by rw [flat_len]; omega)
        have hil : i < l.length := by have := HI.out; omega
        have hkl : k < l.length := by rcases F.out.is with e | ⟨_, _, e, _⟩ <;> omega
        have ow := H.out.own.keep hks
        obtain ⟨hE, -, -⟩ := own_item ow (it_get hml)
        obtain ⟨hG, -, -⟩ := own_item ow (it_get hkl)
        have j1 : (m : Int) ≤ 2 * (i : Int) + 2 := by omega
        have j2 : (m : Int) < (l.length : Int) := by omega
        have j3 : (0 : Int) ≤ (m : Int) := by omega
        have j4 : (k : Int) < (l.length : Int) := by omega
        have j5 : (0 : Int) ≤ (k : Int) := by omega
        have C := Lib.hid (isLess_any (it l m) (it l k))
        have SS := Lib.hid (fun (V : World) (kk : Keeps wr V) => And.intro (And.intro ((bx.keep kk).cell 0 rfl) ((bx.keep kk).cell 1 rfl)) (And.intro (hE.keep kk) (hG.keep kk)))
        have HM := Lib.hid (And.intro hm hml)
        have KS := Lib.hid hks
        generalize hx : it l m = x at *
        generalize hy : it l k = y at *
        have HX := Lib.hid hx
        have HY := Lib.hid hy
        clear ow bx hm hml hE hG hks hil hkl hx hy
        go_wp2_with fail
        go_region_held3 (fun V => (V.cell? ⟨b, 0, none⟩ = some (.slice (some ⟨g, 0, none⟩) l.length cap) ∧ V.cell? ⟨b, 1, none⟩ = some (.func (.func 41) #[] #[])) ∧ (V.cell? ⟨g, m * 2, none⟩ = some (.int .u64 (x.k : Int)) ∧ V.cell? ⟨g, m * 2 + 1, none⟩ = some (.int .u32 (x.i : Int))) ∧ (V.cell? ⟨g, k * 2, none⟩ = some (.int .u64 (y.k : Int)) ∧ V.cell? ⟨g, k * 2 + 1, none⟩ = some (.int .u32 (y.i : Int)))) (exact SS.out _ (by first | assumption | exact keeps_drew _)) (first
          | (go_at_call 41; refine (C.out _).mono ?_; rintro ee w1 ⟨rfl, k1⟩; replace k1 := keeps_trans (keeps_drew _) k1))
        cases hb : lessB x y
        · go_wp2_with fail
          go_roundw
          case rel => exact ⟨k, m + 1, rfl, by go_num, F.out.stay HM.out.1 (by rw [HX.out, HY.out]; exact hb), keeps_trans KS.out k1⟩
          case measure => have := HM.out.1; simp [intOf]; omega
        · go_wp2_with fail
          go_roundw
          case rel => exact ⟨m, m + 1, rfl, by go_num, F.out.go HM.out.1 HM.out.2 (by rw [HX.out, HY.out]; exact hb), keeps_trans KS.out k1⟩
          case measure => have := HM.out.1; simp [intOf]; omega
      · have j1 : (m : Int) ≤ 2 * (i : Int) + 2 := by omega
        have j2 : decide (m < l.length) = false := decide_eq_false (by omega)
        have D := Lib.hid (F.out.done (.inr (by omega)))
        have KS := Lib.hid hks
        clear hm hml hks bx
        go_wp2_with fail
        go_ret
        exact ⟨k, rfl, D.out, KS.out⟩
    · have j1 : decide ((m : Int) ≤ 2 * (i : Int) + 2) = false := decide_eq_false (by omega)
      have D := Lib.hid (F.out.done (.inl (by omega)))
      have KS := Lib.hid hks
      clear hm hks bx f1 f2 F
      go_wp2_with fail
      go_ret
      exact ⟨k, rfl, D.out, KS.out⟩

/-! ### Up and down -/
theorem Only.next {w w1 w2 : World} {g : Nat} (h : Only w w1 (fun c => c = g)) (k : Only w1 w2 (fun c => c = g)) : Only w w2 (fun c => c = g) := h.trans k (fun _ e => .inl e)
theorem Only.nextK {w w1 w2 : World} {g : Nat} (h : Only w w1 (fun c => c = g)) (k : Keeps w1 w2) : Only w w2 (fun c => c = g) := h.keep k

set_option maxHeartbeats 4000000 in
theorem rise_any {w : World} {b g n cap : Nat} {l : List It} {i : Nat} (h : TreeAt w b (.slice (some ⟨g, 0, none⟩) n cap) l) (hl : l.length ≤ 65536) (hr : Rise l i) :
    Calls Try.prog 51 #[.pointer (some ⟨b, 0, none⟩), .int .i64 (i : Int)] w fun e w' => ∃ m, e = .returned (.tuple #[]) ∧ TreeAt w' b (.slice (some ⟨g, 0, none⟩) n cap) m ∧ m.Perm l ∧ Ord m ∧ Only w w' (fun c => c = g) := by
  have H := Lib.hid h
  have HL := Lib.hid hl
  have HR := Lib.hid hr
  clear h hl hr
  go_enter Try.func51, Try.ntmps51
  go_wp2_with fail
  go_loopw [1] (fun at_ wr => ∃ (j : Nat) (m : List It), at_ = .int .i64 j ∧ j ≤ 65536 ∧ TreeAt wr b (.slice (some ⟨g, 0, none⟩) n cap) m ∧ m.Perm l ∧ Rise m j ∧ Only w wr (fun c => c = g)) (fun at_ _ => (intOf at_).toNat)
  case atStart => exact ⟨i, l, rfl, by have := HL.out; have := HR.out.lt; omega, H.out, List.Perm.refl _, HR.out, Only.refl _ _⟩
  case round =>
    obtain ⟨j, m, rfl, hj, hT, hp, hr, ho⟩ := hrel
    have hn : n = m.length := by
      rcases hT.own.2 with ⟨e, e'⟩ | ⟨g', cap', cur, fz, e, _⟩
      · cases e
      · injection e
    subst hn
    have T := Lib.hid hT
    have R := Lib.hid hr
    have PE := Lib.hid hp
    have O := Lib.hid ho
    have HJ := Lib.hid hj
    by_cases h0 : 0 < j
    · obtain ⟨p, hpj⟩ : ∃ p, p = (j - 1) / 2 := ⟨_, rfl⟩
      obtain ⟨q, hq⟩ : ∃ q, q = j - 1 := ⟨_, rfl⟩
      have hw1 : wrap64 ((j : Int) - 1) = (q : Int) := by unfold wrap64; omega
      have hw3 : wrap64 (p : Int) = (p : Int) := by unfold wrap64; omega
      have hw2 : (q : Int).tdiv 2 = (p : Int) := by
        rw [hpj, ← hq]
        exact (Int.ofNat_tdiv _ _).symm
      have hjm := hr.lt
      have hpm : p < m.length := by omega
      have bx := hT.box
      obtain ⟨hE, -, -⟩ := own_item hT.own (it_get hjm)
      obtain ⟨hG, -, -⟩ := own_item hT.own (it_get hpm)
      have j1 : (0 : Int) < (j : Int) := by omega
      have j2 : (j : Int) < (m.length : Int) := by omega
      have j3 : (0 : Int) ≤ (j : Int) := by omega
      have j4 : (p : Int) < (m.length : Int) := by omega
      have j5 : (0 : Int) ≤ (p : Int) := by omega
      have C := Lib.hid (isLess_any (it m j) (it m p))
      have SS := Lib.hid (fun (V : World) (kk : Keeps wr V) => And.intro (And.intro ((bx.keep kk).cell 0 rfl) ((bx.keep kk).cell 1 rfl)) (And.intro (hE.keep kk) (hG.keep kk)))
      have HP := Lib.hid hpj
      have H0 := Lib.hid (And.intro h0 (And.intro hjm hpm))
      generalize hx : it m j = x at *
      generalize hy : it m p = y at *
      have HX := Lib.hid hx
      have HY := Lib.hid hy
      clear bx hE hG hx hy hjm hpm hpj hT hr hp ho h0 hj hq
      go_wp2_with fail
      go_region_held3 (fun V => (V.cell? ⟨b, 0, none⟩ = some (.slice (some ⟨g, 0, none⟩) m.length cap) ∧ V.cell? ⟨b, 1, none⟩ = some (.func (.func 41) #[] #[])) ∧ (V.cell? ⟨g, j * 2, none⟩ = some (.int .u64 (x.k : Int)) ∧ V.cell? ⟨g, j * 2 + 1, none⟩ = some (.int .u32 (x.i : Int))) ∧ (V.cell? ⟨g, p * 2, none⟩ = some (.int .u64 (y.k : Int)) ∧ V.cell? ⟨g, p * 2 + 1, none⟩ = some (.int .u32 (y.i : Int)))) (exact SS.out _ (by first | assumption | exact keeps_drew _)) (first
        | (go_at_call 41; refine (C.out _).mono ?_; rintro ee w1 ⟨rfl, k1⟩; replace k1 := keeps_trans (keeps_drew _) k1))
      cases hb : lessB x y
      · go_wp2_with fail
        go_returns
        exact ⟨m, rfl, T.out.keep k1, PE.out, R.out.done (fun _ => by rw [← HP.out, HX.out, HY.out]; exact hb), O.out.keep k1⟩
      · have SW := Lib.hid (swap_any (T.out.keep k1) H0.out.2.1 H0.out.2.2)
        go_wp2_with fail
        refine SW.out.mono ?_
        rintro e w2 ⟨rfl, t2, o2⟩
        go_wp2_with fail
        go_roundw
        case rel => exact ⟨p, sw m j p, rfl, by have := HJ.out; have := HP.out; omega, t2, (sw_perm H0.out.2.1 H0.out.2.2).trans PE.out, by rw [HP.out]; exact R.out.step H0.out.1 (by rw [← HP.out, HX.out, HY.out]; exact hb), (O.out.keep k1).next o2⟩
        case measure => have := HP.out; have := H0.out.1; simp [intOf]; omega
    · obtain rfl : j = 0 := by omega
      clear hT hr hp ho hj h0
      go_wp2_with fail
      go_returns
      exact ⟨m, rfl, T.out, PE.out, R.out.done (fun h => absurd h (by omega)), O.out⟩

set_option maxHeartbeats 4000000 in
theorem sink_any {w : World} {b g n cap : Nat} {l : List It} (h : TreeAt w b (.slice (some ⟨g, 0, none⟩) n cap) l) (hl : l.length ≤ 65536) (hr : Sink l 0) :
    Calls Try.prog 50 #[.pointer (some ⟨b, 0, none⟩), .int .i64 0] w fun e w' => ∃ m, e = .returned (.tuple #[]) ∧ TreeAt w' b (.slice (some ⟨g, 0, none⟩) n cap) m ∧ m.Perm l ∧ Ord m ∧ Only w w' (fun c => c = g) := by
  have H := Lib.hid h
  have HL := Lib.hid hl
  have HR := Lib.hid hr
  clear h hl hr
  go_enter Try.func50, Try.ntmps50
  go_wp2_with fail
  go_loopw [1] (fun at_ wr => ∃ (j : Nat) (m : List It), at_ = .int .i64 j ∧ (j < m.length ∨ (j = 0 ∧ m.length = 0)) ∧ TreeAt wr b (.slice (some ⟨g, 0, none⟩) n cap) m ∧ m.Perm l ∧ Sink m j ∧ Only w wr (fun c => c = g)) (fun at_ _ => l.length - (intOf at_).toNat)
  case atStart => exact ⟨0, l, rfl, by omega, H.out, List.Perm.refl _, HR.out, Only.refl _ _⟩
  case round =>
    obtain ⟨j, m, rfl, hj, hT, hp, hr, ho⟩ := hrel
    have hml := hp.length_eq
    have F := Lib.hid (fore_any hT (by rw [hml]; exact HL.out) hj)
    have T := Lib.hid hT
    have R := Lib.hid hr
    have PE := Lib.hid hp
    have O := Lib.hid ho
    have HJ := Lib.hid hj
    have HM := Lib.hid hml
    clear hT hr hp ho hj hml
    go_wp2_with fail
    refine F.out.mono ?_
    rintro e w1 ⟨k, rfl, hf, k1⟩
    by_cases hk : k = j
    · subst hk
      go_wp2_with fail
      go_returns
      exact ⟨m, rfl, T.out.keep k1, PE.out, R.out.done hf, O.out.keep k1⟩
    · have hb : ((k : Int) == (j : Int)) = false := by rw [beq_eq_false_iff_ne]; omega
      have hkm : k < m.length ∧ j < k := by
        rcases hf.is with e | ⟨e1, e2, _⟩
        · exact absurd e hk
        · exact ⟨e2, by omega⟩
      have hjm : j < m.length := by omega
      have SW := Lib.hid (swap_any (T.out.keep k1) hjm hkm.1)
      have HK := Lib.hid (And.intro hk (And.intro hkm hjm))
      have HF := Lib.hid hf
      clear hk hkm hjm hf
      go_wp2_with fail
      refine SW.out.mono ?_
      rintro e w2 ⟨rfl, t2, o2⟩
      go_wp2_with fail
      go_roundw
      case rel => exact ⟨k, sw m j k, rfl, .inl (by rw [sw_length]; exact HK.out.2.1.1), t2, (sw_perm HK.out.2.2 HK.out.2.1.1).trans PE.out, R.out.step HK.out.2.2 HF.out HK.out.1, (O.out.keep k1).next o2⟩
      case measure => have := HK.out; have := HM.out; simp [intOf]; omega
end Go.Proofs.Ytkijfbnibfbldaa
