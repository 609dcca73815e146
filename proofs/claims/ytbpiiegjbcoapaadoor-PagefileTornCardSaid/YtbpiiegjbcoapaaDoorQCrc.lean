/- The contracts of package crc: CRC-32C by a table of 256 numbers. -/
import Derived.Test.YtbpiiegjbcoapaaDoorQLawPage2
import Derived.Laws.Rows
import Derived.Deep.OwnRows
import Derived.Test.YtbpiiegjbcoapaaDoorPageMath
import Derived.WalkMore
import Derived.ScopeJumps
namespace Go.Proofs.YtbpiiegjbcoapaaDoor
open Go.RowKit
set_option linter.unusedSimpArgs false
set_option linter.unusedVariables false
set_option maxRecDepth 100000

theorem and_one (x : Nat) (hx : x < 4294967296) : bits .and .u32 (x : Int) 1 = ((x % 2 : Nat) : Int) := by
  rw [show ((1 : Int)) = ((1 : Nat) : Int) from rfl, u32_and_nat x 1 hx (by decide), Nat.and_one_is_mod]

theorem halve_any (x : Nat) (hx : x < 4294967296) (w : World) : Calls Tryd.prog 88 #[.int .u32 x] w fun e w' => e = .returned (.int .u32 (st x)) ∧ w = w' := by
  have ha := and_one x hx
  have hx2 := u32_xor_nat (x / 2) 2197175160 (by omega) (by omega)
  by_cases ho : x % 2 = 1
  · have HS := Lib.hid (st_odd ho)
    rw [ho] at ha
    clear ho
    go_enter Tryd.func88, Tryd.ntmps88
    go_wp2
    go_ret
    rw [HS.out]
    exact ⟨congrArg (fun z => Ending.returned (Value.int .u32 z)) hx2, rfl⟩
  · have HS := Lib.hid (st_evn ho)
    have ho' : x % 2 = 0 := by omega
    rw [ho'] at ha
    clear ho ho'
    go_enter Tryd.func88, Tryd.ntmps88
    go_wp2
    go_ret
    rw [HS.out]
    exact ⟨rfl, rfl⟩

/-! ### The table -/
def p2 (k i : Nat) : Bool := (List.range k).any fun j => i == 2 ^ (7 - j)
def f1 (k i : Nat) : Value := .int .u32 ((if p2 k i then sts 8 i else 0 : Nat) : Int)
def f2 (k i : Nat) : Value := .int .u32 ((if decide (i < k) || p2 8 i then sts 8 i else 0 : Nat) : Int)
def tabF (i : Nat) : Value := .int .u32 ((sts 8 i : Nat) : Int)
def zeros : Array Value := Array.replicate 256 (.int .u32 0)
theorem zeros_size : zeros.size = 256 := by simp [zeros]
theorem zeros_at (i : Nat) (h : i < zeros.size) : zeros[i]? = some (f1 0 i) := by
  rw [zeros_size] at h
  simp [zeros, f1, p2, h]
theorem p2_succ (k i : Nat) : p2 (k + 1) i = (p2 k i || i == 2 ^ (7 - k)) := by simp [p2, List.range_succ]
theorem sts_pow (k : Nat) (hk : k < 8) : sts 8 (2 ^ (7 - k)) = sts (k + 1) 1 := by
  have h := sts_add (7 - k) (k + 1) (2 ^ (7 - k))
  rw [show 7 - k + (k + 1) = 8 by omega] at h
  rw [h]
  congr 1
  simpa using sts_even (7 - k) 1
theorem f1_succ (k i : Nat) (hk : k < 8) : (if i = 2 ^ (7 - k) then Value.int .u32 ((sts (k + 1) 1 : Nat) : Int) else f1 k i) = f1 (k + 1) i := by
  unfold f1
  rw [p2_succ]
  by_cases h : i = 2 ^ (7 - k)
  · subst h
    simp [sts_pow k hk]
  · simp [h]
theorem f12 (i : Nat) : f1 8 i = f2 0 i := by simp [f1, f2]
def loN (i : Nat) : Nat := (bits .and .i64 (i : Int) (-(i : Int))).toNat
def reN (i : Nat) : Nat := (bits .xor .i64 (i : Int) (loN i : Int)).toNat
def lowB (i : Nat) : Bool := decide (bits .and .i64 (i : Int) (-(i : Int)) = (loN i : Int)) && decide (bits .xor .i64 (i : Int) (loN i : Int) = (reN i : Int)) && (loN i ^^^ reN i == i) && (decide (loN i < i) || p2 8 (loN i) || i == 0) && (decide (reN i < i) || i == 0 && loN i == 0 && reN i == 0) && decide (loN i < 256)
theorem low_all : (List.range 256).all lowB = true := by kernel_rfl
structure Low (i lo re : Nat) : Prop where
  a : bits .and .i64 (i : Int) (-(i : Int)) = (lo : Int)
  x : bits .xor .i64 (i : Int) (lo : Int) = (re : Int)
  h : lo < 256
  r : re < 256
  s : sts 8 lo ^^^ sts 8 re = sts 8 i
  fl : f2 i lo = tabF lo
  fr : f2 i re = tabF re
theorem low_get (i : Nat) (hi : i < 256) : ∃ lo re, Low i lo re := by
  have h := List.all_eq_true.1 low_all i (List.mem_range.2 hi)
  simp only [lowB, Bool.and_eq_true, Bool.or_eq_true, decide_eq_true_eq, beq_iff_eq] at h
  obtain ⟨⟨⟨⟨⟨a, x⟩, s⟩, l⟩, r⟩, h⟩ := h
  have z : f2 0 0 = tabF 0 := by simp [f2, tabF, sts_0]
  refine ⟨loN i, reN i, a, x, h, ?_, ?_, ?_, ?_⟩
  · rcases r with r | ⟨⟨r, _⟩, r2⟩ <;> omega
  · rw [← sts_xor, s]
  · rcases r with r | ⟨⟨r, r1⟩, r2⟩
    · unfold f2 tabF
      rcases l with (l | l) | l
      · simp [l]
      · simp [l]
      · omega
    · subst r
      rw [r1]; exact z
  · rcases r with r | ⟨⟨r, r1⟩, r2⟩
    · simp [f2, tabF, r]
    · subst r
      rw [r2]; exact z
theorem f2_succ (k i : Nat) (v : Value) (hv : v = tabF k) : (if i = k then v else f2 k i) = f2 (k + 1) i := by
  subst hv
  by_cases h : i = k
  · subst h
    simp [f2, tabF]
  · have e : decide (i < k + 1) = decide (i < k) := by
      have : (i < k + 1) = (i < k) := by simp; omega
      simp [this]
    simp [f2, h, e]
theorem f2_end (i : Nat) (h : i < 256) : f2 256 i = tabF i := by simp [f2, tabF, h]

theorem Keeps.alloc' (w : World) (a b : Obj) : Keeps w ((w.alloc a).alloc b) := keeps_trans (keeps_alloc w a) (keeps_alloc _ b)
theorem sizeTab : (Tryd.prog.info? 117).map (·.size) = some 256 := by kernel_rfl
theorem keeps_setRow {B : Nat} {a w : World} (h : Below B a w) {g : Nat} (hg : B ≤ g) (c : Array Value) : Below B a (w.setRow g c) :=
  ⟨h.os, h.tape, h.output, by simpa using h.size, fun j hj => by
    rw [← h.block j hj]
    simp only [World.setRow, Array.getElem?_modify]
    rw [if_neg (by omega)]⟩
theorem zeroTab (w : World) : (zeroValue 117).run Tryd.prog w = .ok (.agg zeros) w := by kernel_rfl

set_option maxHeartbeats 400000 in
set_option maxRecDepth 100000 in
theorem table_any (w : World) : Calls Tryd.prog 75 #[] w fun e w' => ∃ c : Array Value, e = .returned (.agg c) ∧ c.size = 256 ∧ (∀ i, i < 256 → c[i]? = some (tabF i)) ∧ Keeps w w' := by
  have hz := zeroTab
  go_enter Tryd.func75, Tryd.ntmps75
  go_wp2_with fail
  go_loopw [2, 6] (fun x i wr => ∃ k : Nat, k ≤ 8 ∧ i = .int .i64 k ∧ x = .int .u32 (sts k 1) ∧ wr.rowIs (w.heap.size + 1) 117 256 (f1 k) ∧ wr.rowIs w.heap.size 117 256 (f1 0) ∧ Keeps w wr) (fun _ i _ => 8 - (intOf i).toNat)
  case atStart =>
    have a0 := World.rowIs_alloc w zeros 117 (f1 0) zeros_at
    have a1 := World.rowIs_alloc (w.alloc (.cells zeros 117)) zeros 117 (f1 0) zeros_at
    rw [zeros_size] at a0 a1
    have es : (w.alloc (.cells zeros 117)).heap.size = w.heap.size + 1 := by simp
    rw [es] at a1
    exact ⟨0, Nat.zero_le _, rfl, rfl, a1, a0.alloc _, (Keeps.alloc' w _ _)⟩
  case round =>
    obtain ⟨k, hk, rfl, rfl, hr, hr0, hkp⟩ := hrel
    by_cases hlt : k < 8
    · have hcell := hr.cell (i := 2 ^ (7 - k)) (by have : 2 ^ (7 - k) ≤ 2 ^ 7 := Nat.pow_le_pow_right (by decide) (by omega); omega)
      have hfr := hr.frozen (2 ^ (7 - k))
      have HR := Lib.hid hr
      have HR0 := Lib.hid hr0
      have hX := sts_lt k (x := 1) (by decide)
      obtain ⟨k1, hk1⟩ : ∃ k1, k1 = k + 1 := ⟨_, rfl⟩
      have HS := Lib.hid (sts_succ k 1)
      rw [← hk1] at HS
      have H1 := Lib.hid hk1
      have HF := Lib.hid (fun i => f1_succ k i hlt)
      rw [← hk1] at HF
      have hk8 : k1 ≤ 8 := by omega
      clear hk1
      generalize f1 k (2 ^ (7 - k)) = v at *
      generalize sts k 1 = X at *
      clear hr hr0
      rcases (show k = 0 ∨ k = 1 ∨ k = 2 ∨ k = 3 ∨ k = 4 ∨ k = 5 ∨ k = 6 ∨ k = 7 by omega) with rfl | rfl | rfl | rfl | rfl | rfl | rfl | rfl
      all_goals
        simp only [Nat.reduceSub, Nat.reducePow] at hcell hfr
        go_wp2_with fail
        refine (halve_any X hX _).mono ?_
        rintro e w' ⟨rfl, rfl⟩
        go_wp2_with fail
        go_roundw
        case rel =>
          refine ⟨k1, hk8, by rw [H1.out]; rfl, by rw [HS.out], ?_, HR0.out.setOther (by simp) _, Below.setCell hkp (by simp) _⟩
          refine (HR.out.set _ _).congr (fun i _ => ?_)
          rw [← HF.out i, HS.out]
        case measure => simp [intOf]
    · obtain rfl : k = 8 := by omega
      clear hlt hk
      go_wp2_with fail
      go_loopw [16] (fun i wr => ∃ k : Nat, k ≤ 256 ∧ i = .int .i64 k ∧ wr.rowIs (w.heap.size + 1) 117 256 (f2 k) ∧ wr.rowIs w.heap.size 117 256 (f1 0) ∧ Keeps w wr) (fun i _ => 256 - (intOf i).toNat)
      case atStart => exact ⟨0, by omega, rfl, hr.congr (fun i _ => f12 i), hr0, hkp⟩
      case round =>
        obtain ⟨k, hk, rfl, hr, hr0, hkp⟩ := hrel
        by_cases hlt : k < 256
        · obtain ⟨lo, re, L⟩ := low_get k hlt
          have ha := L.a
          have hx := L.x
          have hl := L.h
          have hre := L.r
          have c1 := hr.cell (i := lo) hl
          have c2 := hr.cell (i := re) hre
          obtain ⟨v, c3⟩ : ∃ v, wr.cell? ⟨w.heap.size + 1, k, none⟩ = some v := ⟨_, hr.cell (i := k) hlt⟩
          rw [L.fl] at c1
          rw [L.fr] at c2
          unfold tabF at c1 c2
          have hfr := hr.frozen k
          have b1 := sts_lt 8 (x := lo) (by omega)
          have b2 := sts_lt 8 (x := re) (by omega)
          have hx2 := u32_xor_nat (sts 8 lo) (sts 8 re) b1 b2
          rw [L.s] at hx2
          have HF := Lib.hid (fun i => f2_succ k i (tabF k) rfl)
          have HR := Lib.hid hr
          have HR0 := Lib.hid hr0
          have b3 := sts_lt 8 (x := k) (by omega)
          unfold tabF at HF
          generalize sts 8 lo = X at *
          generalize sts 8 re = Y at *
          generalize sts 8 k = Z at *
          clear L hr hr0
          go_wp2_with fail
          go_region
          have HX : ((wr.setCell { block := w.heap.size + 1, off := k } (Value.int IntKind.u32 ↑Z)).drew).rowIs (w.heap.size + 1) 117 256 (f2 (k + 1)) :=
            World.rowIs.drew ((HR.out.set k _).congr (fun i _ => HF.out i))
          have HX0 : ((wr.setCell { block := w.heap.size + 1, off := k } (Value.int IntKind.u32 ↑Z)).drew).rowIs w.heap.size 117 256 (f1 0) :=
            World.rowIs.drew (HR0.out.setOther (by simp) _)
          have HK : Keeps w ((wr.setCell { block := w.heap.size + 1, off := k } (Value.int IntKind.u32 ↑Z)).drew) := keeps_trans (Below.setCell hkp (p := { block := w.heap.size + 1, off := k }) (by simp) _) (keeps_drew _)
          generalize (wr.setCell { block := w.heap.size + 1, off := k } (Value.int IntKind.u32 ↑Z)).drew = wn at *
          go_wp2_with fail
          go_roundw
          case rel => exact ⟨k + 1, by omega, by go_num, HX, HX0, HK⟩
          case measure => simp [intOf]; omega
        · obtain rfl : k = 256 := by omega
          clear hlt hk
          obtain ⟨c, hb, hn, hc⟩ := hr.congr f2_end
          obtain ⟨c0, hb0, hn0, hc0⟩ := hr0
          have hone : c.all (·.oneCell') = true := by
            rw [Array.all_eq_true]
            intro i hi
            have h := hc i (by omega)
            rw [Array.getElem?_eq_getElem hi] at h
            rw [Option.some.inj h]
            rfl
          have hsz : (Tryd.prog.info? 117).map (·.size) = some c.size := by rw [hn]; exact sizeTab
          have h0s : c0.size = c.size := by omega
          have hrw : (wr.setRow w.heap.size c).heap[w.heap.size]? = some (.cells c 117 (0, 0)) := setRow_heap wr w.heap.size c0 c _ _ hb0
          have HC := Lib.hid hc
          have HN := Lib.hid hn
          clear hn hn0 hc hc0
          go_wp2_with (first | (refine wpList_load_row rfl _ _ rfl (w.heap.size + 1) rfl _ c _ _ hb Tryd.underlying117 rfl hsz ?_) | (refine wpList_store_row rfl _ _ _ rfl w.heap.size c rfl rfl _ c0 hb0 hsz h0s hone ?_))
          refine bodyPost_ret (v := .agg c) ?_ (by rfl) ?_
          · exact results_cell_row (p := 0) (ty := 117) (by rfl) _ _ w.heap.size 117 c (0, 0) _ (by rfl) hrw Tryd.underlying117 rfl hsz
          · exact ⟨c, rfl, HN.out, HC.out, keeps_setRow hkp (Nat.le_refl _) c⟩

theorem byteSt_tab (X : Nat) (b : UInt8) : byteSt X b = (X / 256) ^^^ sts 8 ((X % 256) ^^^ b.toNat) := by
  unfold byteSt
  have hb := b.toNat_lt
  rw [sts8]
  have e1 : (X ^^^ b.toNat) % 256 = (X % 256) ^^^ b.toNat := by
    have := Nat.xor_mod_two_pow (a := X) (b := b.toNat) (n := 8)
    rw [this, Nat.mod_eq_of_lt (a := b.toNat) (by omega)]
  have e2 : (X ^^^ b.toNat) / 256 = X / 256 := by
    have := Nat.xor_div_two_pow (a := X) (b := b.toNat) (n := 8)
    rw [this, Nat.div_eq_of_lt (a := b.toNat) (by omega), Nat.xor_zero]
  rw [e1, e2, Nat.xor_comm]

theorem u32_not_nat (x : Nat) (hx : x < 4294967296) : bits .xor .u32 IntKind.u32.max (x : Int) = ((x ^^^ 4294967295 : Nat) : Int) := by
  have h := u32_xor_nat 4294967295 x (by decide) hx
  rw [Nat.xor_comm x]
  exact h

set_option maxRecDepth 100000 in
set_option maxHeartbeats 800000 in
theorem ext_any (s : Nat) (hs : s < 4294967296) (A : Option Addr) (n cp : Nat) (l : List UInt8) (w : World) (hB : Bs w A l) (hn : n = l.length) (hlen : n ≤ 9223372036854775000) :
    Calls Tryd.prog 66 #[.int .u32 s, .slice A n cp] w fun e w' => e = .returned (.int .u32 (extC s l)) ∧ Keeps w w' := by
  subst hn
  have HB := Lib.hid hB
  clear hB
  have hz := zeroTab
  go_enter Tryd.func66, Tryd.ntmps66
  go_wp2_with fail
  refine (table_any w).mono ?_
  rintro e w1 ⟨c, rfl, hn, hc, k1⟩
  have hone : c.all (·.oneCell') = true := by
    rw [Array.all_eq_true]
    intro i hi
    have h := hc i (by omega)
    rw [Array.getElem?_eq_getElem hi] at h
    rw [Option.some.inj h]
    rfl
  have hsz : (Tryd.prog.info? 117).map (·.size) = some c.size := by rw [hn]; exact sizeTab
  have h0s : zeros.size = c.size := by rw [zeros_size]; omega
  have hb0 := heap_alloc_new w1 (.cells zeros 117)
  have hrw : ((w1.alloc (.cells zeros 117)).setRow w1.heap.size c).heap[w1.heap.size]? = some (.cells c 117 (0, 0)) := setRow_heap _ w1.heap.size zeros c _ _ hb0
  have hkp : Keeps w ((w1.alloc (.cells zeros 117)).setRow w1.heap.size c) := keeps_setRow (keeps_trans k1 (keeps_alloc _ _)) k1.size c
  go_wp2_with (refine wpList_store_row rfl _ _ _ rfl w1.heap.size c rfl rfl _ zeros hb0 hsz h0s hone ?_)
  generalize ((w1.alloc (.cells zeros 117)).setRow w1.heap.size c) = W at *
  generalize w1.heap.size = b at *
  have HC := Lib.hid (fun i (hi : i < 256) => (cell_of_row W b i c _ _ hrw).trans (hc i hi))
  clear hn hc hsz h0s hone hb0 hz hrw
  have HB' := Lib.hid (HB.out.keep hkp)
  go_loop [6, 14] (fun x i => ∃ k : Nat, k ≤ l.length ∧ i = .int .i64 k ∧ x = .int .u32 (runC (s ^^^ 4294967295) (l.take k))) (fun _ i => l.length - (intOf i).toNat)
  case atStart => exact ⟨0, Nat.zero_le _, rfl, congrArg (Value.int .u32) (u32_not_nat s hs)⟩
  case round =>
    obtain ⟨k, hk, rfl, rfl⟩ := hrel
    have hR := runC_lt (not_lt hs) (l.take k)
    by_cases hlt : k < l.length
    · obtain ⟨ad, rfl, hcell⟩ := HB'.out.at_ hlt
      have hstep : runC (s ^^^ 4294967295) (l.take (k + 1)) = (runC (s ^^^ 4294967295) (l.take k) / 256) ^^^ sts 8 ((runC (s ^^^ 4294967295) (l.take k) % 256) ^^^ (l.getD k 0).toNat) := by
        rw [List.take_succ_eq_append_getElem hlt, runC_append, getD_lt l hlt, ← byteSt_tab]
        rfl
      have HS := Lib.hid hstep
      have hb := (l.getD k 0).toNat_lt
      clear hstep
      generalize runC (s ^^^ 4294967295) (l.take k) = X at *
      generalize (l.getD k 0).toNat = y at *
      have hq : (X % 256) ^^^ y < 256 := Nat.xor_lt_two_pow (n := 8) (by omega) (by omega)
      have hxy : bits .xor .u8 ((X : Int) % 256) (y : Int) = (((X % 256) ^^^ y : Nat) : Int) := by
        have := u8_xor_nat (X % 256) y (by omega) (by omega)
        rw [← this]
        rfl
      have ht := HC.out _ hq
      unfold tabF at ht
      have hT := sts_lt 8 (x := (X % 256) ^^^ y) (by omega)
      generalize (X % 256) ^^^ y = q at *
      have hx2 : bits .xor .u32 ((X : Int) / 256) ((sts 8 q : Nat) : Int) = (((X / 256) ^^^ sts 8 q : Nat) : Int) := by
        have := u32_xor_nat (X / 256) (sts 8 q) (by omega) hT
        rw [← this]
        rfl
      generalize sts 8 q = T at *
      go_wp2
      go_round
      case rel => exact ⟨k + 1, by omega, by go_num, by rw [HS.out]⟩
      case measure => simp [intOf]; omega
    · go_wp2
      go_ret
      have e := u32_not_nat _ hR
      refine ⟨?_, hkp⟩
      obtain rfl : k = l.length := by omega
      rw [List.take_length] at e
      simp only [List.take_length]
      exact congrArg (fun z => Ending.returned (Value.int .u32 z)) e

theorem sum_any (A : Option Addr) (n cp : Nat) (l : List UInt8) (w : World) (hB : Bs w A l) (hn : n = l.length) (hlen : n ≤ 9223372036854775000) :
    Calls Tryd.prog 51 #[.slice A n cp] w fun e w' => e = .returned (.int .u32 (extC 0 l)) ∧ Keeps w w' := by
  have E := Lib.hid (ext_any 0 (by decide) A n cp l w hB hn hlen)
  clear hB hn
  go_enter Tryd.func51, Tryd.ntmps51
  go_wp2_with fail
  refine E.out.mono ?_
  rintro e w1 ⟨rfl, k1⟩
  go_wp2_with fail
  go_ret
  exact ⟨rfl, k1⟩

theorem crcOk : CrcOk where
  ext s hs A n c l w hB hn hc hlen := ext_any s hs A n c l w hB hn (by omega)
  sum A n c l w hB hn hc hlen := sum_any A n c l w hB hn (by omega)
end Go.Proofs.YtbpiiegjbcoapaaDoor
/- page.Make and page.Open: package page is what the chapter asks (pageOk). -/
namespace Go.Proofs.YtbpiiegjbcoapaaDoor
open Go.RowKit
set_option linter.unusedSimpArgs false
set_option linter.unusedVariables false
set_option maxRecDepth 100000

theorem splice_head (t n s : Nat) : spliceL (cel (noughts 252)) 0 ((cel (headB t n s)).take (min 12 252)) = cel (headB t n s ++ noughts 240) := by
  have e : min 12 252 = 12 := rfl
  rw [e, List.take_of_length_le (by rw [cel_length, headB_length]; omega)]
  unfold spliceL
  rw [List.take_zero, List.nil_append, cel_length, headB_length, cel_append]
  congr 1
theorem splice_body (t n : Nat) (b : List UInt8) (h : b.length ≤ 240) : spliceL (cel (headB t n b.length ++ noughts 240)) 12 ((cel b).take (min b.length 240)) = cel (bodyB t n b) := by
  rw [Nat.min_eq_left h, List.take_of_length_le (by rw [cel_length]; omega)]
  unfold spliceL bodyB
  rw [cel_append, cel_append, cel_append, cel_length]
  have hl : (cel (headB t n b.length)).length = 12 := by rw [cel_length, headB_length]
  rw [List.take_left' hl, ← List.append_assoc]
  congr 1
  rw [List.drop_append, hl]
  have e1 : (cel (headB t n b.length)).drop (12 + b.length) = [] := List.drop_of_length_le (by omega)
  rw [e1, List.nil_append]
  unfold noughts
  rw [show 12 + b.length - 12 = b.length by omega, ← cel_drop, List.drop_replicate]

set_option maxHeartbeats 2000000 in
theorem make_any (K : CrcOk) (t n : Nat) (ht : t < 4294967296) (hn : n < 4294967296) (A : Option Addr) (m c : Nat) (b : List UInt8) (w : World) (hS : Sizes w) (hB : Bs w A b) (hm : m = b.length) (hc : m ≤ c) (hb : b.length ≤ 240) :
    Calls Tryd.prog 33 #[.int .u32 t, .int .u32 n, .slice A m c] w (Gave w (pageB t n b)) := by
  obtain ⟨i0, hi, hz0, hz1, hz2⟩ := info_parts info_u8
  subst hm
  have HB := Lib.hid hB
  have hmz : ((b.length : Nat) : Int) ≤ 240 := by omega
  have hbody := bodyB_length (b := b) t n hb
  have hpl := pageB_length (b := b) t n hb
  have hsum := extC_lt (s := 0) (by decide) (bodyB t n b)
  have SB := Lib.hid (splice_body t n b hb)
  clear hB
  go_enter Tryd.func33, Tryd.ntmps33
  go_wp2_with (first
    | (at_make; refine wpList_make_full _ rfl _ _ 22 rfl w.heap.size 5 i0 (.int .u8 0) 1 Tryd.underlying22 hi hz0 hz1 .i64 .i64 252 252 252 rfl rfl rfl rfl (by rw [hz2]; omega) (by unfold maxLen; omega) (Nat.le_refl _) ?_; intro w1 hown1 hg1; have k1 : Keeps w w1 := keeps_grown hg1 _ (Nat.le_refl _) (by simp); rw [made_noughts] at hown1; have o1 := Own.of_row hown1; clear hown1 hg1))
  refine (toBytes_any t n b.length ht hn hb w1 (hS.keep k1)).mono ?_
  rintro e w2 ⟨v2, rfl, o2, k2⟩
  rw [headB_length] at o2
  obtain ⟨A2, c2, rfl, hc2, -, -, -⟩ := o2.form
  have o1' := Lib.hid (o1.keep k2)
  have B2 := Lib.hid (Own.at_ o2)
  have q2 := keeps_trans k1 k2
  clear o1 o2
  go_wp2_with (first
    | (refine wpList_copyO _ rfl _ _ 22 rfl w.heap.size 5 i0 Tryd.underlying22 hi hz1 (some ⟨w.heap.size, 0, none⟩) 252 252 (cel (noughts 252)) o1'.out 0 252 252 rfl (by omega) A2 12 c2 (cel (headB t n b.length)) rfl (by rw [cel_length, headB_length]) B2.out (cel_one _) ?_; intro w3 o3 g3; rw [splice_head] at o3; have k3 : Keeps w w3 := Below.grown q2 g3 q2.size (fun g hg => (o1'.out.lt g hg).1); have O3 := Lib.hid o3; clear o3 g3)
    | (refine wpList_copyO _ rfl _ _ 22 rfl w.heap.size 5 i0 Tryd.underlying22 hi hz1 (some ⟨w.heap.size, 0, none⟩) 252 252 (cel (headB t n b.length ++ noughts 240)) O3.out 12 240 240 rfl (by omega) A b.length c (cel b) rfl (by rw [cel_length]) (HB.out.keep k3) (cel_one _) ?_; intro w4 o4 g4; rw [SB.out] at o4; have k4 : Keeps w w4 := Below.grown k3 g4 k3.size (fun g hg => (O3.out.lt g hg).1); have O4 := Lib.hid o4; clear o4 g4))
  refine (K.sum (some ⟨w.heap.size, 0, none⟩) 252 252 (bodyB t n b) w4 (Own.at_ O4.out) hbody.symm (by omega) (by omega)).mono ?_
  rintro e w5 ⟨rfl, k5⟩
  have q5 := keeps_trans k4 k5
  have PS := Lib.hid (put4 (some ⟨w.heap.size, 0, none⟩) 252 252 (bodyB t n b) (extC 0 (bodyB t n b)) w5 (hS.keep q5) (Own.at_ (O4.out.keep k5)) hbody.symm (by omega) (by decide))
  have hpg : bodyB t n b ++ nb 4 (extC 0 (bodyB t n b)) = pageB t n b := rfl
  rw [hpg] at PS
  clear hpg SB
  generalize extC 0 (bodyB t n b) = x at *
  go_wp2_with fail
  refine PS.out.mono ?_
  rintro e w6 ⟨v6, rfl, o6, k6⟩
  go_wp2_with fail
  go_ret2
  exact ⟨v6, rfl, o6.base_le q5.size, keeps_trans q5 k6⟩
end Go.Proofs.YtbpiiegjbcoapaaDoor
/- What is asked of a page's bytes, part by part. -/
namespace Go.Proofs.YtbpiiegjbcoapaaDoor
open Go.RowKit
set_option linter.unusedSimpArgs false
set_option linter.unusedVariables false
set_option maxRecDepth 100000

theorem seg_nb (p : List UInt8) (a s : Nat) (h : a + s ≤ p.length) : (p.drop a).take s = nb s (numAt p a s) := by
  have hl : ((p.drop a).take s).length = s := by rw [List.length_take, List.length_drop]; omega
  have e := nb_le ((p.drop a).take s)
  rw [hl] at e
  exact e.symm
theorem numAt_split (p : List UInt8) (a : Nat) (h : a + 4 ≤ p.length) : numAt p a 4 = numAt p a 2 + 65536 * numAt p (a + 2) 2 := by
  unfold numAt
  have e : (p.drop a).take 4 = (p.drop a).take 2 ++ (p.drop (a + 2)).take 2 := by
    rw [← List.drop_drop, show (4 : Nat) = 2 + 2 from rfl, List.take_add]
  rw [e, le_append]
  have hl : ((p.drop a).take 2).length = 2 := by rw [List.length_take, List.length_drop]; omega
  rw [hl]
theorem numAt_2 (p : List UInt8) (a : Nat) : numAt p a 2 < 65536 := by
  have h := le_lt ((p.drop a).take 2)
  refine Nat.lt_of_lt_of_le h ?_
  have : ((p.drop a).take 2).length ≤ 2 := by rw [List.length_take]; omega
  exact Nat.pow_le_pow_right (n := 256) (by decide) this
/-- what Open asks -/
structure Fit (p : List UInt8) (t n : Nat) : Prop where
  size : numAt p 8 2 ≤ 240
  tag : numAt p 0 4 = t
  number : numAt p 4 4 = n
  zero : numAt p 10 2 = 0
  rest : (p.take 252).drop (12 + numAt p 8 2) = noughts (240 - numAt p 8 2)
  sum : numAt p 252 4 = extC 0 (p.take 252)
theorem fit_size {p : List UInt8} (hl : p.length = 256) (h : numAt p 8 4 ≤ 240 ∨ (numAt p 8 2 ≤ 240 ∧ numAt p 10 2 = 0)) : numAt p 8 4 = numAt p 8 2 ∧ numAt p 10 2 = 0 := by
  have h1 := numAt_split p 8 (by omega)
  have h2 := numAt_2 p 8
  simp only [Nat.reduceAdd] at h1
  rcases h with h | ⟨h, h'⟩ <;> omega
theorem fit_of {p : List UInt8} {t n : Nat} (ht : t < 4294967296) (hn : n < 4294967296) (h : IsPage p t n) : Fit p t n := by
  obtain ⟨hl, hs, he⟩ := h
  have hq : (saidB p).length ≤ 240 := by rw [saidB_length hl hs]; exact hs
  obtain ⟨h84, h10⟩ := fit_size hl (.inl hs)
  have hsl := saidB_length hl hs
  have htk : p.take 252 = bodyB t n (saidB p) := by
    rw [he]
    generalize saidB p = b at *
    unfold pageB
    have e : saidB (bodyB t n b ++ nb 4 (extC 0 (bodyB t n b))) = b := saidB_pageB t n b hq
    rw [List.take_left' (bodyB_length t n hq), e]
  refine ⟨by omega, ?_, ?_, h10, ?_, ?_⟩
  · rw [he, tag_pageB, mod4 ht]
  · rw [he, number_pageB, mod4 hn]
  · rw [htk, ← h84, ← hsl]
    unfold bodyB
    rw [← List.drop_drop, List.drop_left' (headB_length _ _ _), List.drop_left]
  · rw [htk]
    have e2 : numAt p 252 4 = numAt (pageB t n (saidB p)) 252 4 := congrArg (fun q => numAt q 252 4) he
    rw [e2]
    generalize saidB p = b at *
    unfold pageB
    rw [numAt_behind _ _ _ _ (bodyB_length t n hq).symm, List.take_of_length_le (by rw [nb_length]; omega), le_nb, mod4 (extC_lt (by decide) _)]
theorem page_of {p : List UInt8} {t n : Nat} (hl : p.length = 256) (h : Fit p t n) : IsPage p t n := by
  obtain ⟨h84, h10⟩ := fit_size hl (.inr ⟨h.size, h.zero⟩)
  have hs : numAt p 8 4 ≤ 240 := by have := h.size; omega
  have hsl := saidB_length hl hs
  refine ⟨hl, hs, ?_⟩
  have e1 : p.take 252 = bodyB t n (saidB p) := by
    have a1 : p.take 252 = p.take 12 ++ (p.take 252).drop 12 := by
      have := List.take_append_drop 12 (p.take 252)
      rw [List.take_take] at this
      exact this.symm
    have a2 : p.take 12 = headB t n (saidB p).length := by
      unfold headB
      rw [hsl, ← h.tag, ← h.number, ← seg_nb p 0 4 (by omega), ← seg_nb p 4 4 (by omega), ← seg_nb p 8 4 (by omega), List.drop_zero]
      rw [show (12 : Nat) = (4 + 4) + 4 from rfl, List.take_add, List.take_add]
    have a3 : (p.take 252).drop 12 = saidB p ++ noughts (240 - (saidB p).length) := by
      have h3 := List.take_append_drop (saidB p).length ((p.take 252).drop 12)
      rw [List.drop_drop] at h3
      have h4 := h.rest
      rw [← h84, ← hsl] at h4
      rw [h4] at h3
      rw [← h3]
      congr 1
      unfold saidB at hsl ⊢
      rw [hsl, List.drop_take, List.take_take, Nat.min_eq_left (by omega)]
    rw [a1, a2, a3]
    rfl
  have e2 : p.drop 252 = nb 4 (extC 0 (p.take 252)) := by
    rw [← h.sum, ← seg_nb p 252 4 (by omega), List.take_of_length_le (by rw [List.length_drop]; omega)]
  have e3 := List.take_append_drop 252 p
  unfold pageB
  rw [← e1]
  rw [e2] at e3
  exact e3.symm
end Go.Proofs.YtbpiiegjbcoapaaDoor
/- page.Open, and so pageOk. -/
namespace Go.Proofs.YtbpiiegjbcoapaaDoor
open Go.RowKit
set_option linter.unusedSimpArgs false
set_option linter.unusedVariables false
set_option maxRecDepth 100000

set_option maxHeartbeats 1600000 in
theorem open_short (t n : Nat) (A : Option Addr) (m c : Nat) (w : World) (h : ¬ m = 256) (hmax : m ≤ maxLen) :
    Calls Tryd.prog 31 #[.slice A m c, .int .u32 t, .int .u32 n] w (Refused w 7) := by
  have hne : ((m : Int) == 256) = false := by simp; omega
  unfold maxLen at hmax
  have k0 := keeps_alloc w (.cells #[.int .u32 0, .int .u32 0, .int .u16 0, .int .u16 0] 93)
  go_enter Tryd.func31, Tryd.ntmps31
  go_wp2
  refine wp_scope_jumps 0 (fun a' w' => (∃ u0 u1 u2 u3 u4 u5 u6 u7 u8 u9 u10 u11 u12 u13 u14 u15 u16 u17 u18 u19 u20 u21 u22 u23 u24 u25 u26 u27 u28 u29 u30 u31 u32 u33 u34 u35 u36 u37 u38 u39 u40 u41 u42 u43 u44 : Value, a' = { tmps := #[u0, u1, u2, u3, u4, u5, u6, u7, u8, u9, u10, u11, u12, u13, u14, u15, u16, u17, u18, u19, u20, u21, u22, u23, u24, u25, u26, u27, u28, u29, u30, u31, u32, u33, u34, u35, u36, u37, u38, u39, u40, u41, u42, u43, u44], defers := [] }) ∧ Keeps w w') (fun _ _ => 0) rfl ?_ ?_
  · go_wp2
    go_step3
    exact ⟨rfl, ⟨_, _, _, _, _, _, _, _, _, _, _, _, _, _, _, _, _, _, _, _, _, _, _, _, _, _, _, _, _, _, _, _, _, _, _, _, _, _, _, _, _, _, _, _, _, rfl⟩, k0⟩
  · rintro a' w' ⟨⟨u0, u1, u2, u3, u4, u5, u6, u7, u8, u9, u10, u11, u12, u13, u14, u15, u16, u17, u18, u19, u20, u21, u22, u23, u24, u25, u26, u27, u28, u29, u30, u31, u32, u33, u34, u35, u36, u37, u38, u39, u40, u41, u42, u43, u44, rfl⟩, hk⟩
    go_wp2
    simp only [Exit.jump]
    go_ret2
    exact ⟨rfl, hk⟩

theorem keeps_set {w w1 : World} (k : Keeps w w1) (b i : Nat) (u : Value) (hb : w.heap.size ≤ b) : Keeps w (w1.setCell ⟨b, i, none⟩ u) :=
  Below.trans k ⟨rfl, rfl, rfl, by simp [World.setCell], fun j hj => Below.heap_setCell _ _ _ _ (by simp only; omega)⟩
set_option maxHeartbeats 4000000 in
theorem open_256 (K : CrcOk) (t n : Nat) (ht : t < 4294967296) (hn : n < 4294967296) (A : Option Addr) (c : Nat) (p : List UInt8) (w : World) (hS : Sizes w) (hB : Bs w A p) (hp : p.length = 256) (hc : 256 ≤ c) :
    Calls Tryd.prog 31 #[.slice A 256 c, .int .u32 t, .int .u32 n] w (fun e w' => (IsPage p t n ∧ Gave w (saidB p) e w') ∨ (¬ IsPage p t n ∧ Refused w 7 e w')) := by
  obtain ⟨ad, rfl⟩ := hB.some_ (by omega)
  have k0 := keeps_alloc w (.cells #[.int .u32 0, .int .u32 0, .int .u16 0, .int .u16 0] 93)
  have bx := Box.new w 93 #[.int .u32 0, .int .u32 0, .int .u16 0, .int .u16 0]
  have HO := Lib.hid (headOf_any (some ad) c p _ (hS.keep k0) (hB.keep k0) hp hc)
  unfold headV at HO
  have h0 : numAt p 0 4 < 4294967296 := numAt_lt8 p 0 4
  have h1 : numAt p 4 4 < 4294967296 := numAt_lt8 p 4 4
  have h2 : numAt p 8 2 < 65536 := numAt_lt8 p 8 2
  have h3 : numAt p 10 2 < 65536 := numAt_lt8 p 10 2
  have FO := Lib.hid (show IsPage p t n → numAt p 8 2 ≤ 240 ∧ numAt p 0 4 = t ∧ numAt p 4 4 = n ∧ numAt p 10 2 = 0 ∧ (p.take 252).drop (12 + numAt p 8 2) = noughts (240 - numAt p 8 2) ∧ numAt p 252 4 = extC 0 (p.take 252) from fun h => by
    have f := fit_of ht hn h
    exact ⟨f.size, f.tag, f.number, f.zero, f.rest, f.sum⟩)
  have SD := Lib.hid (show numAt p 8 2 ≤ 240 → numAt p 10 2 = 0 → saidB p = (p.drop 12).take (numAt p 8 2) from fun h h' => by
    unfold saidB
    rw [(fit_size hp (.inr ⟨h, h'⟩)).1])
  have PO := Lib.hid (fun (g1 : numAt p 8 2 ≤ 240) (g2 : numAt p 0 4 = t) (g3 : numAt p 4 4 = n) (g4 : numAt p 10 2 = 0) (g5 : (p.take 252).drop (12 + numAt p 8 2) = noughts (240 - numAt p 8 2)) (g6 : numAt p 252 4 = extC 0 (p.take 252)) => page_of hp ⟨g1, g2, g3, g4, g5, g6⟩)
  generalize numAt p 0 4 = x0 at *
  generalize numAt p 4 4 = x1 at *
  generalize numAt p 8 2 = x2 at *
  generalize numAt p 10 2 = x3 at *
  go_enter Tryd.func31, Tryd.ntmps31
  go_wp2
  refine wp_scope_jumps 0 (fun a' w' => (∃ u0 u1 u2 u3 u4 u5 u6 u7 u8 u9 u10 u11 u12 u13 u14 u15 u16 u17 u18 u19 u20 u21 u22 u23 u24 u25 u26 u27 u28 u29 u30 u31 u32 u33 u34 u35 u36 u37 u38 u39 u40 u41 u42 u43 u44 : Value, a' = { tmps := #[u0, u1, u2, u3, u4, u5, u6, u7, u8, u9, u10, u11, u12, u13, u14, u15, u16, u17, u18, u19, u20, u21, u22, u23, u24, u25, u26, u27, u28, u29, u30, u31, u32, u33, u34, u35, u36, u37, u38, u39, u40, u41, u42, u43, u44], defers := [] }) ∧ Keeps w w' ∧ ¬ IsPage p t n) (fun _ _ => 0) rfl ?_ ?_
  · go_wp2_with fail
    refine HO.out.mono ?_
    rintro e w1 ⟨rfl, k1⟩
    have bx1 := bx.keep k1
    have c0 := bx1.cell 0 rfl
    have c1 := bx1.cell 1 rfl
    have c2 := bx1.cell 2 rfl
    have c3 := bx1.cell 3 rfl
    have f0 := bx1.frozen 0
    have f1 := bx1.frozen 1
    have f2 := bx1.frozen 2
    have f3 := bx1.frozen 3
    go_wp2_with fail
    · have k5 : Keeps w ((((w1.setCell ⟨w.heap.size, 0, none⟩ (.int .u32 (t : Int))).setCell ⟨w.heap.size, 1, none⟩ (.int .u32 (n : Int))).setCell ⟨w.heap.size, 2, none⟩ (.int .u16 (x2 : Int))).setCell ⟨w.heap.size, 3, none⟩ (.int .u16 0)) := keeps_set (keeps_set (keeps_set (keeps_set (keeps_trans k0 k1) _ _ _ (Nat.le_refl _)) _ _ _ (Nat.le_refl _)) _ _ _ (Nat.le_refl _)) _ _ _ (Nat.le_refl _)
      generalize (((w1.setCell ⟨w.heap.size, 0, none⟩ (.int .u32 (t : Int))).setCell ⟨w.heap.size, 1, none⟩ (.int .u32 (n : Int))).setCell ⟨w.heap.size, 2, none⟩ (.int .u16 (x2 : Int))).setCell ⟨w.heap.size, 3, none⟩ (.int .u16 0) = w5 at *
      have hx2 : x2 ≤ 240 := by omega
      have e0 : x0 = t := by omega
      have e1 : x1 = n := by omega
      have hl : ((p.take 252).drop (12 + x2)).length = 252 - (12 + x2) := by rw [List.length_drop, List.length_take, hp]; rfl
      refine (areNoughts_any (some (ad.add (12 + x2))) (252 - (12 + x2)) (c - (12 + x2)) ((p.take 252).drop (12 + x2)) w5 (((hB.keep k5).take 252).drop (12 + x2)) hl.symm (by omega)).mono ?_
      rintro e w' ⟨rfl, rfl⟩
      have hsub : 252 - (12 + x2) = 240 - x2 := by omega
      have SF := Lib.hid (sumFits_any K (some ad) c p w5 (hS.keep k5) (hB.keep k5) hp hc)
      by_cases hz : (p.take 252).drop (12 + x2) = noughts (252 - (12 + x2))
      · rw [decide_eq_true hz]
        by_cases hsm : numAt p 252 4 = extC 0 (p.take 252)
        · rw [decide_eq_true hsm] at SF
          have hyes : IsPage p t n := PO.out hx2 e0 e1 (by assumption) (by rw [← hsub]; exact hz) hsm
          have CL := Lib.hid (fun W (k : Keeps w W) => clone_any (some ⟨ad.block, ad.off + 12, none⟩) x2 (c - 12) ((p.drop 12).take x2) W (((hB.keep k).drop 12).take x2) (by rw [List.length_take, List.length_drop, hp]; omega) (fun h => by cases h) (by omega))
          rw [← SD.out hx2 (by assumption)] at CL
          have HY := Lib.hid hyes
          clear hz hsm hyes PO FO
          have hc12 : 12 + (x2 : Int) ≤ (c : Int) := by omega
          go_wp2_with fail
          refine SF.out.mono ?_
          rintro e w6 ⟨rfl, k6⟩
          have q6 := keeps_trans k5 k6
          go_wp2_with fail
          refine (CL.out _ q6).mono ?_
          rintro e w7 ⟨v7, rfl, o7, k7⟩
          go_wp2_with fail
          simp only [Exit.jump]
          go_ret2
          exact .inl ⟨HY.out, v7, rfl, o7.base_le q6.size, keeps_trans q6 k7⟩
        · rw [decide_eq_false hsm] at SF
          have hno : ¬ IsPage p t n := fun h => hsm (FO.out h).2.2.2.2.2
          have HNO := Lib.hid hno
          clear hz hsm hno PO FO
          go_wp2_with fail
          refine SF.out.mono ?_
          rintro e w6 ⟨rfl, k6⟩
          have q6 := keeps_trans k5 k6
          go_wp2_with fail
          go_step3
          exact ⟨rfl, ⟨_, _, _, _, _, _, _, _, _, _, _, _, _, _, _, _, _, _, _, _, _, _, _, _, _, _, _, _, _, _, _, _, _, _, _, _, _, _, _, _, _, _, _, _, _, rfl⟩, q6, HNO.out⟩
      · rw [decide_eq_false hz]
        have hno : ¬ IsPage p t n := fun h => hz (by rw [hsub]; exact (FO.out h).2.2.2.2.1)
        have HNO := Lib.hid hno
        clear hz hno PO FO SF
        go_wp2_with fail
        go_step3
        exact ⟨rfl, ⟨_, _, _, _, _, _, _, _, _, _, _, _, _, _, _, _, _, _, _, _, _, _, _, _, _, _, _, _, _, _, _, _, _, _, _, _, _, _, _, _, _, _, _, _, _, rfl⟩, k5, HNO.out⟩
    all_goals
      go_step3
      refine ⟨rfl, ⟨_, _, _, _, _, _, _, _, _, _, _, _, _, _, _, _, _, _, _, _, _, _, _, _, _, _, _, _, _, _, _, _, _, _, _, _, _, _, _, _, _, _, _, _, _, rfl⟩, keeps_set (keeps_set (keeps_set (keeps_set (keeps_trans k0 k1) _ _ _ (Nat.le_refl _)) _ _ _ (Nat.le_refl _)) _ _ _ (Nat.le_refl _)) _ _ _ (Nat.le_refl _), fun h => ?_⟩
      obtain ⟨g1, g2, g3, g4, -, -⟩ := FO.out h
      omega
  · rintro a' w' ⟨⟨u0, u1, u2, u3, u4, u5, u6, u7, u8, u9, u10, u11, u12, u13, u14, u15, u16, u17, u18, u19, u20, u21, u22, u23, u24, u25, u26, u27, u28, u29, u30, u31, u32, u33, u34, u35, u36, u37, u38, u39, u40, u41, u42, u43, u44, rfl⟩, hk, hno⟩
    go_wp2
    simp only [Exit.jump]
    go_ret2
    exact .inr ⟨hno, rfl, hk⟩

theorem pageOk_of (K : CrcOk) : PageOk where
  make := fun t n ht hn A m c b w hS hB hm hc _ hb => make_any K t n ht hn A m c b w hS hB hm hc hb
  many := many_any
  takes := fun t n ht hn A m c p w hS hB hm hc hcm hy => by
    obtain rfl : m = 256 := by rw [hm, hy.1]
    exact (open_256 K t n ht hn A c p w hS hB hm.symm hc).mono fun e w' h => by
      rcases h with h | h
      · exact h.2
      · exact absurd hy h.1
  rot := fun t n ht hn A m c p w hS hB hm hc hcm hno => by
    by_cases h256 : m = 256
    · subst h256
      exact (open_256 K t n ht hn A c p w hS hB hm.symm hc).mono fun e w' h => by
        rcases h with h | h
        · exact absurd h.1 hno
        · exact h.2
    · exact open_short t n A m c w h256 (Nat.le_trans hc hcm)
  tag := tag_any K
theorem pageOk : PageOk := pageOk_of crcOk
end Go.Proofs.YtbpiiegjbcoapaaDoor
