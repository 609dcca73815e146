/- slices.Sort at []uint32: bits.Len, nextPowerOfTwo, xorshift, breakPatternsOrdered. -/
import Derived.Laws.BitsAllLaws
import Derived.Sort.WalkA14
import Derived.Test.YtdfaogagadoooaaLayLen
import Derived.Test.YtdfaogagadoooaaSoA
import Derived.Test.YtdfaogagadoooaaBox
namespace Go.Proofs.Ytdfaogagadoooaa
open Go.RowKit Go.Sort
set_option linter.unusedSimpArgs false
set_option linter.unusedVariables false
set_option maxRecDepth 100000

theorem len_u (x : Nat) (w : World) (h : x ≤ 1000000) : Calls Try.prog 28 #[.int .u64 (x : Int)] w fun e w' => e = .returned (.int .i64 (bitsLen x : Int)) ∧ w' = w := by
  have h1 := Any.bits_Len laysLen (x : Int) w (by omega) (by omega)
  rw [Int.toNat_natCast, bitLen_eq _ (by omega)] at h1
  exact h1
theorem pow_u64 (b : Nat) (h : b ≤ 20) : IntKind.u64.wrap ((2 : Int) ^ b) = ((2 ^ b : Nat) : Int) := by
  have k : ∀ i : Fin 21, IntKind.u64.wrap ((2 : Int) ^ (i : Nat)) = ((2 ^ (i : Nat) : Nat) : Int) := by decide
  exact k ⟨b, by omega⟩
theorem xor_u64 (a : Nat) (b : Int) (ha : a < 18446744073709551616) (hb : 0 ≤ b) (hb2 : b < 18446744073709551616) : ∃ z : Nat, z < 18446744073709551616 ∧ bits BinOp.xor IntKind.u64 (a : Int) b = (z : Int) :=
  ⟨a ^^^ b.toNat, Nat.xor_lt_two_pow (n := 64) (by omega) (by omega), by rw [← u64_xor_nat a b.toNat ha (by omega), Int.toNat_of_nonneg hb]⟩
theorem wrap_u64_range (b : Int) : 0 ≤ IntKind.u64.wrap b ∧ IntKind.u64.wrap b < 18446744073709551616 := by
  have e : IntKind.u64.wrap b = b % 18446744073709551616 := by rfl
  rw [e]
  omega
set_option maxHeartbeats 1000000 in
theorem next_pow (x : Nat) (w : World) (h : x ≤ 1000000) : Calls Try.prog 41 #[.int .i64 (x : Int)] w fun e w' => e = .returned (.int .u64 ((2 ^ bitsLen x : Nat) : Int)) ∧ w' = w := by
  have L := Lib.hid (len_u x)
  obtain ⟨b, hb⟩ : ∃ b, bitsLen x = b := ⟨_, rfl⟩
  have h20 : b ≤ 20 := by rw [← hb]; exact (bitsLen_le_iff x 20).2 (by omega)
  rw [hb] at L ⊢
  have xI : (x : Int) ≤ 1000000 := by omega
  have bI : (b : Int) ≤ 20 := by omega
  have HX := Lib.hid h
  clear h hb
  go_enter Try.func41, Try.ntmps41
  go_wp2_with (go_at_call 28; refine (L.out _ HX.out).mono ?_; rintro e w' ⟨rfl, rfl⟩)
  go_ret
  exact ⟨by rw [pow_u64 b h20]; rfl, rfl⟩
set_option maxHeartbeats 4000000 in
theorem next_u {w : World} {q r : Nat} {T : TypeId} (h : Box w q T #[.int .u64 (r : Int)]) (hr : r < 18446744073709551616) :
    Calls Try.prog 42 #[.pointer (some ⟨q, 0, none⟩)] w fun e w' => ∃ r' : Nat, e = .returned (.int .u64 (r' : Int)) ∧ r' < 18446744073709551616 ∧ Box w' q T #[.int .u64 (r' : Int)] ∧ Only w w' (fun b => b = q) := by
  have c0 : w.cell? ⟨q, 0, none⟩ = some (.int .u64 (r : Int)) := h.cell 0 rfl
  have f0 := h.frozen 0
  obtain ⟨r1, l1, e1⟩ := xor_u64 r (IntKind.u64.wrap ((r : Int) * 8192)) hr (wrap_u64_range _).1 (wrap_u64_range _).2
  obtain ⟨r2, l2, e2⟩ := xor_u64 r1 ((r1 : Int) / 128) l1 (by omega) (by omega)
  obtain ⟨r3, l3, e3⟩ := xor_u64 r2 (IntKind.u64.wrap ((r2 : Int) * 131072)) l2 (wrap_u64_range _).1 (wrap_u64_range _).2
  have l0I : (r : Int) < 18446744073709551616 := by omega
  have l1I : (r1 : Int) < 18446744073709551616 := by omega
  have l2I : (r2 : Int) < 18446744073709551616 := by omega
  have L3 := Lib.hid l3
  have HB := Lib.hid h
  clear hr l1 l2 l3 h
  go_enter Try.func42, Try.ntmps42
  go_wp2_with fail
  go_region
  all_goals
    have b1 : Box (w.setCell ⟨q, 0, none⟩ (.int .u64 (r1 : Int))).drew q T #[.int .u64 (r1 : Int)] := (by simpa using HB.out.set 0 (.int .u64 (r1 : Int)) : Box (w.setCell ⟨q, 0, none⟩ (.int .u64 (r1 : Int))) q T #[.int .u64 (r1 : Int)]).keep (keeps_drew _)
    have o1 := (only_set w q 0 (.int .u64 (r1 : Int))).keep (keeps_drew _)
    generalize (w.setCell ⟨q, 0, none⟩ (.int .u64 (r1 : Int))).drew = w1 at *
    have c1 : w1.cell? ⟨q, 0, none⟩ = some (.int .u64 (r1 : Int)) := b1.cell 0 rfl
    have f1 := b1.frozen 0
    have O1 := Lib.hid o1
    have B1 := Lib.hid b1
    clear b1 o1 c0 f0
    go_wp2_with fail
    go_region
    all_goals
      have b2 : Box (w1.setCell ⟨q, 0, none⟩ (.int .u64 (r2 : Int))).drew q T #[.int .u64 (r2 : Int)] := (by simpa using B1.out.set 0 (.int .u64 (r2 : Int)) : Box (w1.setCell ⟨q, 0, none⟩ (.int .u64 (r2 : Int))) q T #[.int .u64 (r2 : Int)]).keep (keeps_drew _)
      have o2 := (only_set w1 q 0 (.int .u64 (r2 : Int))).keep (keeps_drew _)
      generalize (w1.setCell ⟨q, 0, none⟩ (.int .u64 (r2 : Int))).drew = w2 at *
      have c2 : w2.cell? ⟨q, 0, none⟩ = some (.int .u64 (r2 : Int)) := b2.cell 0 rfl
      have f2 := b2.frozen 0
      have O2 := Lib.hid (O1.out.trans o2 (fun _ e => .inl e))
      have B2 := Lib.hid b2
      clear b2 o2 c1 f1
      go_wp2_with fail
      go_region
      all_goals
        have b3 : Box (w2.setCell ⟨q, 0, none⟩ (.int .u64 (r3 : Int))).drew q T #[.int .u64 (r3 : Int)] := (by simpa using B2.out.set 0 (.int .u64 (r3 : Int)) : Box (w2.setCell ⟨q, 0, none⟩ (.int .u64 (r3 : Int))) q T #[.int .u64 (r3 : Int)]).keep (keeps_drew _)
        have o3 := (only_set w2 q 0 (.int .u64 (r3 : Int))).keep (keeps_drew _)
        generalize (w2.setCell ⟨q, 0, none⟩ (.int .u64 (r3 : Int))).drew = w3 at *
        have c3 : w3.cell? ⟨q, 0, none⟩ = some (.int .u64 (r3 : Int)) := b3.cell 0 rfl
        have O3 := Lib.hid (O2.out.trans o3 (fun _ e => .inl e))
        have B3 := Lib.hid b3
        clear b3 o3 c2 f2
        go_wp2_with fail
        go_ret
        exact ⟨r3, rfl, L3.out, B3.out, O3.out⟩
theorem and_u64 (a b : Nat) (ha : a < 18446744073709551616) (hb : b < 18446744073709551616) : ∃ z : Nat, z ≤ b ∧ bits BinOp.and IntKind.u64 (a : Int) (b : Int) = (z : Int) :=
  ⟨a &&& b, Nat.and_le_right, u64_and_nat a b ha hb⟩
structure BrS (w W : World) (base g n cap : Nat) (d : Array Nat) (q : Nat) (T : TypeId) : Prop where
  row : SoR w W base g n cap d
  box : ∃ r : Nat, r < 18446744073709551616 ∧ Box W q T #[.int .u64 (r : Int)]
theorem BrS.ne {w W : World} {base g n cap q : Nat} {d : Array Nat} {T : TypeId} (h : BrS w W base g n cap d q T) (hT : 30 ≠ T) : g ≠ q := by
  obtain ⟨r, _, hs⟩ := h.box
  rcases h.row.own.2 with ⟨e, _⟩ | ⟨g', cap', cur, fz, e, _, hg, _⟩
  · cases e
  · injection e with e
    injection e with e
    injection e with e
    subst e
    intro hq
    subst hq
    rw [hs] at hg
    injection hg with hg
    injection hg with h1 h2
    exact absurd h2.symm hT
theorem BrS.keep {w W V : World} {base g n cap q : Nat} {d : Array Nat} {T : TypeId} (h : BrS w W base g n cap d q T) (k : Keeps W V) : BrS w V base g n cap d q T := ⟨h.row.keep k, by obtain ⟨r, hr, hs⟩ := h.box; exact ⟨r, hr, hs.keep k⟩⟩
/-- the number has turned -/
theorem BrS.next {w W V : World} {base g n cap q r : Nat} {d : Array Nat} {T : TypeId} (h : BrS w W base g n cap d q T) (hT : 30 ≠ T) (hq : w.heap.size ≤ q) (o : Only W V (fun b => b = q)) (hr : r < 18446744073709551616) (b : Box V q T #[.int .u64 (r : Int)]) : BrS w V base g n cap d q T :=
  ⟨⟨h.row.own.same fun k hk => o.block k (h.row.own.lt k hk).2 (by have e : g = k := (by simpa [Value.ownBlock] using hk); subst e; exact h.ne hT), h.row.only.trans o (fun i e => .inr (by omega)), h.row.size⟩, r, hr, b⟩
/-- an exchange -/
theorem BrS.swp {w W V : World} {base g n cap q : Nat} {d d' : Array Nat} {T : TypeId} (h : BrS w W base g n cap d q T) (hT : 30 ≠ T) (s : SoR w V base g n cap d') (e : V.heap[q]? = W.heap[q]?) : BrS w V base g n cap d' q T :=
  ⟨s, by obtain ⟨r, hr, hs⟩ := h.box; exact ⟨r, hr, e.trans hs⟩⟩
theorem two_set_far (W : World) (g i j q : Nat) (u v : Value) (h : g ≠ q) : (((W.setCell ⟨g, i, none⟩ u).setCell ⟨g, j, none⟩ v).drew).heap[q]? = W.heap[q]? := by
  show ((W.setCell ⟨g, i, none⟩ u).setCell ⟨g, j, none⟩ v).heap[q]? = _
  simp [World.setCell, Array.getElem?_modify, h]
set_option maxHeartbeats 8000000 in
theorem break_u32 {w : World} {base g n cap a b : Nat} {d : Array Nat} (h : Own w base 30 1 (.slice (some ⟨g, 0, none⟩) n cap) n (celU d.toList)) (hab : 12 < b - a) (hb : b ≤ n) (hn : n ≤ 1000000) :
    Calls Try.prog 31 #[.slice (some ⟨g, 0, none⟩) n cap, .int .i64 (a : Int), .int .i64 (b : Int)] w fun e w' => ∃ d', e = .returned (.tuple #[]) ∧ PermIn a b d d' ∧ SoR w w' base g n cap d' := by
  obtain ⟨l, hl⟩ : ∃ z, z = b - a := ⟨_, rfl⟩
  obtain ⟨q4, hq⟩ : ∃ z, z = l / 4 := ⟨_, rfl⟩
  obtain ⟨e2, he2⟩ : ∃ z, z = q4 * 2 := ⟨_, rfl⟩
  obtain ⟨s, hs⟩ : ∃ z, z = a + e2 := ⟨_, rfl⟩
  obtain ⟨i0, hi0⟩ : ∃ z, z = s - 1 := ⟨_, rfl⟩
  obtain ⟨i2, hi2⟩ : ∃ z, z = s + 1 := ⟨_, rfl⟩
  obtain ⟨md, hmd⟩ : ∃ z, 2 ^ bitsLen l = z := ⟨_, rfl⟩
  have hmd2 : md ≤ 2 * l := by rw [← hmd]; exact two_pow_bitsLen_le (by omega)
  have hmd1 : 0 < md := by rw [← hmd]; exact Nat.two_pow_pos _
  obtain ⟨mm, hmm⟩ : ∃ z, z = md - 1 := ⟨_, rfl⟩
  have NP := Lib.hid (next_pow l · (by omega : l ≤ 1000000))
  rw [hmd] at NP
  have w1 : IntKind.i64.wrap ((b : Int) - (a : Int)) = (l : Int) := by rw [IntKind.wrap_i64]; omega
  have w2 : Int.tdiv (l : Int) 4 = (q4 : Int) := by rw [hq]; rfl
  have w3 : IntKind.i64.wrap ((q4 : Int) * 2) = (e2 : Int) := by rw [IntKind.wrap_i64]; omega
  have w5 : IntKind.i64.wrap ((a : Int) + (e2 : Int)) = (s : Int) := by rw [IntKind.wrap_i64]; omega
  have w6 : IntKind.i64.wrap ((s : Int) - 1) = (i0 : Int) := by rw [IntKind.wrap_i64]; omega
  have w7 : IntKind.i64.wrap ((s : Int) + 1) = (i2 : Int) := by rw [IntKind.wrap_i64]; omega
  have w8 : IntKind.u64.wrap ((md : Int) - 1) = (mm : Int) := by rw [show IntKind.u64.wrap ((md : Int) - 1) = ((md : Int) - 1) % 18446744073709551616 from rfl]; omega
  have q0 : (0 : Int) ≤ (q4 : Int) := by omega
  have q1 : (q4 : Int) ≤ 1000000 := by omega
  have l1 : (8 : Int) ≤ (l : Int) := by omega
  have l2 : (l : Int) ≤ 1000000 := by omega
  have mmI : (mm : Int) ≤ 2000000 := by omega
  have nI : (n : Int) ≤ 1000000 := by omega
  have F := Lib.hid (And.intro hl (And.intro hq (And.intro he2 (And.intro hs (And.intro hi0 (And.intro hi2 (And.intro hmm (And.intro hab (And.intro hb (And.intro hn (And.intro hmd2 hmd1)))))))))))
  have PR := Lib.hid (permIn_refl d a b)
  have B0 := Lib.hid (show BrS w (w.alloc (.cells #[.int .u64 (l : Int)] 64)) base g n cap d w.heap.size 64 from ⟨(SoR.start h).keep (keeps_alloc _ _), l, by omega, Box.new w _ _⟩)
  have gq := B0.out.ne (by decide)
  have HG := Lib.hid gq
  clear h hl hq he2 hs hi0 hi2 hmd hmd2 hmd1 hmm hab hb hn gq
  obtain ⟨bq, hbq⟩ : ∃ z, z = w.heap.size := ⟨_, rfl⟩
  have HBQ := Lib.hid hbq
  go_enter Try.func31, Try.ntmps31
  go_wp2_with (go_at_call 41; refine (NP.out _).mono ?_; rintro e w' ⟨rfl, rfl⟩)
  rw [← hbq] at B0 HG ⊢
  clear hbq
  go_loopw [9] (fun u wr => ∃ (i : Nat) (d2 : Array Nat), u = .int .i64 i ∧ i0 ≤ i ∧ i ≤ i2 + 1 ∧ BrS w wr base g n cap d2 bq 64 ∧ PermIn a b d d2) (fun u _ => i2 + 1 - (intOf u).toNat)
  case atStart => exact ⟨i0, d, rfl, Nat.le_refl _, by have := F.out; omega, B0.out, PR.out⟩
  case round =>
    obtain ⟨i, d2, rfl, hi1, hi3, hB, hP⟩ := hrel
    have B1 := Lib.hid hB
    have P1 := Lib.hid hP
    clear hB hP
    have iF := F.out
    by_cases hie : i ≤ i2
    · have g1 : (i : Int) ≤ (i2 : Int) := by omega
      have g2 : decide (i ≤ i2) = true := decide_eq_true hie
      have iN : i < n := by omega
      have i0I : (0 : Int) ≤ (i : Int) := by omega
      have i1I : (i : Int) < (n : Int) := by omega
      have HI := Lib.hid (And.intro hi1 (And.intro hie (show a ≤ i ∧ i < b by omega)))
      have HN := Lib.hid iN
      obtain ⟨r, hr, hbx⟩ := B1.out.box
      have NX := Lib.hid (next_u hbx hr)
      clear hie hi1 hi3 iF iN hr hbx
      go_wp2_with fail
      go_at_call 42
      refine NX.out.mono ?_
      rintro e w2 ⟨r2, rfl, hr2, hbx, hon⟩
      have B2 := Lib.hid (B1.out.next (by decide) (by have := HBQ.out; omega) hon hr2 hbx)
      obtain ⟨o, ho, eo⟩ := and_u64 r2 mm hr2 (by omega)
      have oI : (o : Int) ≤ 2000000 := by omega
      have o0 : (0 : Int) ≤ (o : Int) := by omega
      have HO := Lib.hid ho
      clear hr2 hbx hon ho
      by_cases hol : l ≤ o
      · have g3 : (l : Int) ≤ (o : Int) := by omega
        have g4 : decide (l ≤ o) = true := decide_eq_true hol
        obtain ⟨o2, ho2⟩ : ∃ z, z = o - l := ⟨_, rfl⟩
        have w9 : IntKind.i64.wrap ((o : Int) - (l : Int)) = (o2 : Int) := by rw [IntKind.wrap_i64]; omega
        have HL := Lib.hid (show o2 < l by have := F.out; have := HO.out; omega)
        clear hol ho2
        obtain ⟨p, hp⟩ : ∃ z, z = a + o2 := ⟨_, rfl⟩
        have hF := F.out
        have hL := HL.out
        have wp1 : IntKind.i64.wrap ((a : Int) + (o2 : Int)) = (p : Int) := by rw [IntKind.wrap_i64]; omega
        have pN : p < n := by omega
        have p0I : (0 : Int) ≤ (p : Int) := by omega
        have p1I : (p : Int) < (n : Int) := by omega
        have iN := HN.out
        obtain ⟨x, hx⟩ : ∃ z, d2[i]! = z := ⟨_, rfl⟩
        obtain ⟨y, hy⟩ : ∃ z, d2[p]! = z := ⟨_, rfl⟩
        have SW := Lib.hid (B2.out.row.swpx iN pN hx hy)
        have ci := B2.out.row.at iN hx
        have cp := B2.out.row.at pN hy
        have fi := B2.out.row.fz iN
        have fp := B2.out.row.fz pN
        have PM := Lib.hid (permIn_trans _ _ _ a b P1.out (swp_permIn d2 a b i p HI.out.2.2.1 HI.out.2.2.2 (by omega) (by omega) (by have := B2.out.row.size; omega)))
        by_cases hip : i = p
        · subst hip
          obtain rfl : x = y := by rw [← hx, ← hy]
          clear hp hF hL pN iN hx hy
          go_wp2_with fail
          go_region
          all_goals
            go_wp2_with fail
            go_roundw
            case rel => exact ⟨i + 1, Sort.swp d2 i i, by go_num, by have := HI.out; omega, by have := HI.out; omega, B2.out.swp (by decide) (SW.out.keep (keeps_drew _)) (two_set_far _ _ _ _ _ _ _ HG.out), PM.out⟩
            case measure => have := HI.out; simp [intOf]; omega
        · have n1 : i ≠ p := hip
          have n2 : p ≠ i := Ne.symm hip
          clear hp hF hL pN iN hx hy hip
          go_wp2_with fail
          go_region
          all_goals
            go_wp2_with fail
            go_roundw
            case rel => exact ⟨i + 1, Sort.swp d2 i p, by go_num, by have := HI.out; omega, by have := HI.out; omega, B2.out.swp (by decide) (SW.out.keep (keeps_drew _)) (two_set_far _ _ _ _ _ _ _ HG.out), PM.out⟩
            case measure => have := HI.out; simp [intOf]; omega
      · have g3 : decide ((l : Int) ≤ (o : Int)) = false := decide_eq_false (by omega)
        have g4 : decide (l ≤ o) = false := decide_eq_false hol
        have HL := Lib.hid (show o < l by omega)
        clear hol
        obtain ⟨p, hp⟩ : ∃ z, z = a + o := ⟨_, rfl⟩
        have hF := F.out
        have hL := HL.out
        have wp1 : IntKind.i64.wrap ((a : Int) + (o : Int)) = (p : Int) := by rw [IntKind.wrap_i64]; omega
        have pN : p < n := by omega
        have p0I : (0 : Int) ≤ (p : Int) := by omega
        have p1I : (p : Int) < (n : Int) := by omega
        have iN := HN.out
        obtain ⟨x, hx⟩ : ∃ z, d2[i]! = z := ⟨_, rfl⟩
        obtain ⟨y, hy⟩ : ∃ z, d2[p]! = z := ⟨_, rfl⟩
        have SW := Lib.hid (B2.out.row.swpx iN pN hx hy)
        have ci := B2.out.row.at iN hx
        have cp := B2.out.row.at pN hy
        have fi := B2.out.row.fz iN
        have fp := B2.out.row.fz pN
        have PM := Lib.hid (permIn_trans _ _ _ a b P1.out (swp_permIn d2 a b i p HI.out.2.2.1 HI.out.2.2.2 (by omega) (by omega) (by have := B2.out.row.size; omega)))
        by_cases hip : i = p
        · subst hip
          obtain rfl : x = y := by rw [← hx, ← hy]
          clear hp hF hL pN iN hx hy
          go_wp2_with fail
          go_region
          all_goals
            go_wp2_with fail
            go_roundw
            case rel => exact ⟨i + 1, Sort.swp d2 i i, by go_num, by have := HI.out; omega, by have := HI.out; omega, B2.out.swp (by decide) (SW.out.keep (keeps_drew _)) (two_set_far _ _ _ _ _ _ _ HG.out), PM.out⟩
            case measure => have := HI.out; simp [intOf]; omega
        · have n1 : i ≠ p := hip
          have n2 : p ≠ i := Ne.symm hip
          clear hp hF hL pN iN hx hy hip
          go_wp2_with fail
          go_region
          all_goals
            go_wp2_with fail
            go_roundw
            case rel => exact ⟨i + 1, Sort.swp d2 i p, by go_num, by have := HI.out; omega, by have := HI.out; omega, B2.out.swp (by decide) (SW.out.keep (keeps_drew _)) (two_set_far _ _ _ _ _ _ _ HG.out), PM.out⟩
            case measure => have := HI.out; simp [intOf]; omega
    · have g1 : decide ((i : Int) ≤ (i2 : Int)) = false := decide_eq_false (by omega)
      have g2 : decide (i ≤ i2) = false := decide_eq_false hie
      clear hie hi1 hi3 iF
      go_wp2_with fail
      go_returns
      exact ⟨d2, rfl, P1.out, B1.out.row⟩
end Go.Proofs.Ytdfaogagadoooaa
