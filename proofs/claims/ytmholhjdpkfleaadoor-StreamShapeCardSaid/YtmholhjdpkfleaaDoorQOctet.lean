/- The contracts of package octet: each function's, for every argument that the document's other layers may hand it. -/
import Derived.Test.YtmholhjdpkfleaaDoorQBase
import Derived.Test.YtmholhjdpkfleaaDoorProg
namespace Go.Proofs.YtmholhjdpkfleaaDoor
open Go.RowKit
set_option linter.unusedSimpArgs false
set_option linter.unusedVariables false
set_option maxRecDepth 100000

theorem pow256 (k : Nat) : 256 ^ k = 2 ^ (8 * k) := by
  rw [show (256 : Nat) = 2 ^ 8 from rfl, ← Nat.pow_mul]
theorem or_join (a b k : Nat) (ha : a < 256 ^ k) : (a ||| b * 2 ^ (8 * k)) = a + 256 ^ k * b := by
  rw [Nat.or_comm, nat_join (8 * k) _ a (by simp) (by rw [← pow256]; exact ha), ← pow256, Nat.mul_comm b, Nat.add_comm]
theorem shift_lt (b k K : Nat) (hb : b < 256) (hk : k < K) : b * 2 ^ (8 * k) < 256 ^ K := by
  rw [← pow256]
  have h1 : b * 256 ^ k < 256 * 256 ^ k := Nat.mul_lt_mul_of_pos_right hb (Nat.pow_pos (by decide))
  have h2 : 256 * 256 ^ k = 256 ^ (k + 1) := by rw [Nat.pow_succ, Nat.mul_comm]
  have h3 : 256 ^ (k + 1) ≤ 256 ^ K := Nat.pow_le_pow_right (by decide) (by omega)
  omega
theorem cast_shift (b k : Nat) : ((b : Int) * 2 ^ (8 * k)) = ((b * 2 ^ (8 * k) : Nat) : Int) := by
  rw [Int.natCast_mul, Int.natCast_pow]; rfl
theorem or64 (a b k : Nat) (ha : a < 256 ^ k) (hb : b < 256) (hk : k < 8) :
    bits .or .u64 (a : Int) (IntKind.u64.wrap (IntKind.u64.wrap (b : Int) * 2 ^ (8 * k))) = ((a + 256 ^ k * b : Nat) : Int) := by
  have h := shift_lt b k 8 hb hk
  have ha' : a < 256 ^ 8 := Nat.lt_of_lt_of_le ha (Nat.pow_le_pow_right (by decide) (by omega))
  rw [IntWalk.u64_in (b : Int) ⟨by omega, by omega⟩, cast_shift, IntWalk.u64_in _ ⟨by omega, by omega⟩, u64_or_nat _ _ (by omega) (by omega), or_join a b k ha]
theorem or32 (a b k : Nat) (ha : a < 256 ^ k) (hb : b < 256) (hk : k < 4) :
    bits .or .u32 (a : Int) (IntKind.u32.wrap (IntKind.u32.wrap (b : Int) * 2 ^ (8 * k))) = ((a + 256 ^ k * b : Nat) : Int) := by
  have h := shift_lt b k 4 hb hk
  have ha' : a < 256 ^ 4 := Nat.lt_of_lt_of_le ha (Nat.pow_le_pow_right (by decide) (by omega))
  rw [IntWalk.u32_in (b : Int) ⟨by omega, by omega⟩, cast_shift, IntWalk.u32_in _ ⟨by omega, by omega⟩, u32_or_nat _ _ (by omega) (by omega), or_join a b k ha]
theorem le_take_lt (l : List UInt8) (k : Nat) (hk : k ≤ l.length) : le (l.take k) < 256 ^ k := by
  have := le_lt (l.take k)
  rwa [List.length_take, Nat.min_eq_left hk] at this

set_option maxHeartbeats 400000 in
theorem join64_any (A : Option Addr) (c : Nat) (l : List UInt8) (w : World) (h : Bs w A l) (hn : l.length ≤ 8) (n : Nat) (hnl : n = l.length) :
    Calls Tryd.prog 100 #[.slice A n c] w fun e w' => e = .returned (.int .u64 (le l)) ∧ w = w' := by
  subst hnl
  go_enter Tryd.func100, Tryd.ntmps100
  go_wp2
  go_loop [3, 8] (fun x i => ∃ k : Nat, k ≤ l.length ∧ i = .int .i64 k ∧ x = .int .u64 (le (l.take k))) (fun _ i => l.length - (intOf i).toNat)
  case atStart => exact ⟨0, Nat.zero_le _, rfl, by simp [le]⟩
  case round =>
    obtain ⟨k, hk, rfl, rfl⟩ := hrel
    by_cases hlt : k < l.length
    · obtain ⟨ad, rfl, hc⟩ := h.at_ hlt
      have H := Lib.hid h
      clear h
      go_wp2
      go_round
      case rel =>
        refine ⟨k + 1, by omega, by go_num, ?_⟩
        have hb := (l.getD k 0).toNat_lt
        have e := or64 (le (l.take k)) (l.getD k 0).toNat k (le_take_lt l k hk) hb (by omega)
        rw [← le_take_succ l k hlt] at e
        rw [← e]
        simp [List.getD, hlt, IntKind.wrap_u32']
      case measure => simp [intOf]; omega
    · go_wp2
      go_ret
      exact ⟨by rw [List.take_of_length_le (by omega)]; rfl, rfl⟩

theorem info_u8 : (Tryd.prog.info? 5).map (fun i => (i.zero, i.size, i.bytes)) = some (some (.int .u8 0), 1, 1) := by kernel_rfl

/-- What appendNumber leaves: the row, and so many bytes of the number behind it. -/
def Appended (w : World) (base : Nat) (v : Value) (xs : List UInt8) (s x : Nat) (e : Ending) (w' : World) : Prop :=
  ∃ v', e = .returned v' ∧ Own w' base 5 1 v' (xs.length + s) (cel (xs ++ nb s x)) ∧ Onto w v.ownBlock w' v'

theorem byte_of (x k : Nat) (hx : x < 18446744073709551616) : (IntKind.u8.wrap ((x : Int) / 2 ^ (8 * k))) = ((UInt8.ofNat (x / 256 ^ k % 256)).toNat : Int) := by
  have e : ((x : Int) / 2 ^ (8 * k)) = ((x / 256 ^ k : Nat) : Int) := by
    rw [Int.natCast_ediv, pow256, Int.natCast_pow]
    rfl
  rw [e, IntKind.wrap_u8']
  simp

set_option maxHeartbeats 400000 in
theorem append64_any (base : Nat) (v : Value) (xs : List UInt8) (s x : Nat) (hs : s ≤ 8) (hx : x < 18446744073709551616) (w : World) (hown : Own w base 5 1 v xs.length (cel xs)) (hbase : base ≤ w.heap.size) (hlen : xs.length ≤ 140737488355000) :
    Calls Tryd.prog 92 #[v, .int .u64 x, .int .i64 s] w (Appended w base v xs s x) := by
  obtain ⟨i0, hi, hz0, hz1, hz2⟩ := info_parts info_u8
  go_enter Tryd.func92, Tryd.ntmps92
  go_wp2
  go_loopw [0, 9] (fun v' i wr => ∃ k : Nat, k ≤ s ∧ i = .int .i64 k ∧ Own wr base 5 1 v' (xs.length + k) (cel (xs ++ nb k x)) ∧ Onto w v.ownBlock wr v') (fun _ i _ => s - (intOf i).toNat)
  case atStart => exact ⟨0, Nat.zero_le _, rfl, by simpa [nb] using hown, Onto.refl _ _⟩
  case round =>
    obtain ⟨k, hk, rfl, hr, ho⟩ := hrel
    by_cases hlt : k < s
    · have hbase' : base ≤ wr.heap.size := Nat.le_trans hbase ho.1.size
      go_wp2_with (at_builtin; refine wpList_app _ rfl _ _ 31 rfl base 5 i0 (.int .u8 0) 1 1 Tryd.underlying31 hi hz0 hz1 hz2 rfl (by decide) _ _ _ rfl (hr.keep (keeps_alloc _ _)) (wr.heap.size + 1) _ 1 1 [.int .u8 ((x : Int) / 2 ^ (8 * k) % 256)] rfl rfl (At.new _ _ _ _ (by omega)) (fun u hu => by simp at hu; subst hu; rfl) (by unfold maxLen; omega) (by omega) (by simp; omega) ?_)
      intro v' w1 hown' hgrow hblk
      have ho' : Onto w v.ownBlock w1 v' := (ho.keep (keeps_alloc _ _)).step hgrow (by simpa using hblk)
      have e : cel (xs ++ nb k x) ++ [.int .u8 ((x : Int) / 2 ^ (8 * k) % 256)] = cel (xs ++ nb (k + 1) x) := by
        rw [nb_succ, ← List.append_assoc, cel_append (xs ++ nb k x)]
        have eb := byte_of x k hx
        rw [IntKind.wrap_u8'] at eb
        rw [eb]
        rfl
      rw [e, Nat.add_assoc] at hown'
      clear e hgrow hblk ho hr
      go_wp2
      go_roundw
      case rel => exact ⟨k + 1, by omega, by go_num, hown', ho'⟩
      case measure => simp [intOf]; omega
    · go_wp2
      go_ret
      obtain rfl : k = s := by omega
      exact ⟨_, rfl, hr, ho⟩
/-- The table of sizes, where the program lays it. -/
def Sizes (w : World) : Prop := w.cell? ⟨0, 0, none⟩ = some (.int .i64 1) ∧ w.cell? ⟨0, 1, none⟩ = some (.int .i64 2) ∧ w.cell? ⟨0, 2, none⟩ = some (.int .i64 4) ∧ w.cell? ⟨0, 3, none⟩ = some (.int .i64 8)
theorem Sizes.keep {w w' : World} (h : Sizes w) (k : Keeps w w') : Sizes w' := ⟨k.cellOf h.1, k.cellOf h.2.1, k.cellOf h.2.2.1, k.cellOf h.2.2.2⟩

def isSz (s : Int) : Bool := decide (s = 1 ∨ s = 2 ∨ s = 4 ∨ s = 8)
theorem isSz_true {s : Int} (h : isSz s = true) : s = 1 ∨ s = 2 ∨ s = 4 ∨ s = 8 := by simpa [isSz] using h
theorem isSz_false {s : Int} (h : isSz s = false) : ¬ (s = 1 ∨ s = 2 ∨ s = 4 ∨ s = 8) := by unfold isSz at h; exact of_decide_eq_false h
theorem tab_at (j : Nat) (s : Int) (hj : [(0, (1 : Int)), (1, 2), (2, 4), (3, 8)].contains (j, s) = true) :
    ∀ w, (Instr.index 149 (.agg #[.int .i64 1, .int .i64 2, .int .i64 4, .int .i64 8]) (.int .i64 j)).run Tryd.prog w = .ok (.int .i64 s) w := by
  simp at hj
  rcases hj with ⟨rfl, rfl⟩ | ⟨rfl, rfl⟩ | ⟨rfl, rfl⟩ | ⟨rfl, rfl⟩ <;> exact fun _ => by kernel_rfl

set_option maxHeartbeats 400000 in
theorem isSize_any (s : Int) (w : World) (h : Sizes w) :
    Calls Tryd.prog 91 #[.int .i64 s] w fun e w' => e = .returned (.bool (isSz s)) ∧ w = w' := by
  obtain ⟨h0, h1, h2, h3⟩ := h
  have i0 := tab_at 0 1 rfl
  have i1 := tab_at 1 2 rfl
  have i2 := tab_at 2 4 rfl
  have i3 := tab_at 3 8 rfl
  simp only [Int.ofNat_eq_natCast, Int.cast_ofNat_Int] at i0 i1 i2 i3
  go_enter Tryd.func91, Tryd.ntmps91
  go_wp2
  go_rounds 5
  all_goals go_ret
  all_goals clear i0 i1 i2 i3 h0 h1 h2 h3
  · have e : 1 = s := by simpa using ‹(1 == s) = true›
    subst e
    exact ⟨by simp [isSz], rfl⟩
  · have e : 2 = s := by simpa using ‹(2 == s) = true›
    subst e
    exact ⟨by simp [isSz], rfl⟩
  · have e : 4 = s := by simpa using ‹(4 == s) = true›
    subst e
    exact ⟨by simp [isSz], rfl⟩
  · have e : 8 = s := by simpa using ‹(8 == s) = true›
    subst e
    exact ⟨by simp [isSz], rfl⟩
  · have e1 : 1 ≠ s := by simpa using ‹(1 == s) = false›
    have e2 : 2 ≠ s := by simpa using ‹(2 == s) = false›
    have e3 : 4 ≠ s := by simpa using ‹(4 == s) = false›
    have e4 : 8 ≠ s := by simpa using ‹(8 == s) = false›
    have e : isSz s = false := by unfold isSz; exact decide_eq_false (by omega)
    rw [e]
    exact ⟨rfl, rfl⟩

/-- The number of so many bytes at a place, where it stands there. -/
def numAt (l : List UInt8) (at_ size : Nat) : Nat := le ((l.drop at_).take size)

set_option maxHeartbeats 400000 in
theorem get_no (A : Option Addr) (n c : Nat) (pos size : Int) (w : World) (hS : Sizes w) (hn : n ≤ 9223372036854775807) (h1 : -9223372036854775808 ≤ pos) (h2 : pos ≤ 9223372036854775807)
    (hno : isSz size = false ∨ pos < 0 ∨ (n : Int) - size < pos) :
    Calls Tryd.prog 98 #[.slice A n c, .int .i64 pos, .int .i64 size] w fun e w' => e = .returned (.tuple #[.int .u64 0, .int .i64 1]) ∧ w = w' := by
  cases hs : isSz size with
  | false =>
    go_enter Tryd.func98, Tryd.ntmps98
    go_wp2_with (go_at_call 91; refine (isSize_any _ _ hS).mono ?_; rintro e w' ⟨rfl, rfl⟩)
    go_ret2
    exact ⟨rfl, rfl⟩
  | true =>
    have hsz := isSz_true hs
    have hb : 1 ≤ size ∧ size ≤ 8 := by omega
    clear hsz
    by_cases hp : pos < 0
    · go_enter Tryd.func98, Tryd.ntmps98
      go_wp2_with (go_at_call 91; refine (isSize_any _ _ hS).mono ?_; rintro e w' ⟨rfl, rfl⟩)
      go_ret2
      exact ⟨rfl, rfl⟩
    · have hg : (n : Int) - size < pos := by
        rcases hno with h | h | h
        · rw [hs] at h; cases h
        · omega
        · exact h
      clear hno
      go_enter Tryd.func98, Tryd.ntmps98
      go_wp2_with (go_at_call 91; refine (isSize_any _ _ hS).mono ?_; rintro e w' ⟨rfl, rfl⟩)
      go_ret2
      exact ⟨rfl, rfl⟩

set_option maxHeartbeats 400000 in
theorem get_yes (A : Option Addr) (n c : Nat) (l : List UInt8) (p s : Nat) (w : World) (hS : Sizes w) (hB : Bs w A l) (hnl : n = l.length) (hc : n ≤ c) (hn : n ≤ 9223372036854775000)
    (hs : isSz (s : Int) = true) (hp : p + s ≤ n) :
    Calls Tryd.prog 98 #[.slice A n c, .int .i64 p, .int .i64 s] w fun e w' => e = .returned (.tuple #[.int .u64 (numAt l p s), .int .i64 0]) ∧ w = w' := by
  have hsz := isSz_true hs
  have hb : 1 ≤ s ∧ s ≤ 8 := by omega
  clear hsz
  obtain ⟨ad, rfl⟩ := hB.some_ (by omega)
  have hJ : Bs w (some (ad.add p)) ((l.drop p).take s) := (hB.drop p).take s
  have hl : ((l.drop p).take s).length = s := by rw [List.length_take, List.length_drop]; omega
  have HJ := Lib.hid hJ
  have HL := Lib.hid hl
  have HN := Lib.hid hnl
  clear hJ hl hB hnl
  go_enter Tryd.func98, Tryd.ntmps98
  go_wp2_with (first | (go_at_call 91; refine (isSize_any _ _ hS).mono ?_; rintro e w' ⟨rfl, rfl⟩) | (go_at_call 100; refine (join64_any _ _ _ _ HJ.out (by rw [HL.out]; omega) _ HL.out.symm).mono ?_; rintro e w' ⟨rfl, rfl⟩))
  go_ret2
  exact ⟨rfl, rfl⟩

theorem info_make : (Tryd.prog.info? 5).map (fun i => (i.zero, i.size, i.bytes)) = some (some (.int .u8 0), 1, 1) := info_u8

/-- The bytes of a number behind others, in new memory. -/
def Made (w : World) (l : List UInt8) (e : Ending) (w' : World) : Prop :=
  ∃ v', e = .returned v' ∧ Own w' w.heap.size 5 1 v' l.length (cel l) ∧ Keeps w w'

theorem put_close {w w2 w3 : World} {l : List UInt8} {k x : Nat} {v2 v3 : Value} (h2 : Own w2 w.heap.size 5 1 v2 l.length (cel l)) (k2 : Keeps w w2) (h3 : Own w3 w.heap.size 5 1 v3 (l.length + k) (cel (l ++ nb k x))) (ho : Onto w2 v2.ownBlock w3 v3) :
    Made w (l ++ nb k x) (.returned v3) w3 :=
  ⟨v3, rfl, by rw [List.length_append, nb_length]; exact h3, Onto.keeps k2 ho (fun g hg => (h2.lt g hg).1)⟩

set_option maxHeartbeats 400000 in
theorem putO_any (A : Option Addr) (n c : Nat) (l : List UInt8) (x : Nat) (s : Int) (w : World) (hS : Sizes w) (hB : Bs w A l) (hnl : n = l.length) (hx : x < 18446744073709551616) (hn : n ≤ 140737488354000) :
    Calls Tryd.prog 82 #[.slice A n c, .int .u64 x, .int .i64 s] w (Made w (l ++ if isSz s then nb s.toNat x else [])) := by
  obtain ⟨i0, hi, hz0, hz1, hz2⟩ := info_parts info_u8
  have HN := Lib.hid hnl
  have hn' := hn
  rw [hnl] at hn'
  cases hs : isSz s with
  | false =>
    clear hnl
    have e0 : (l ++ if false = true then nb s.toNat x else []) = l ++ nb 0 x := by simp [nb]
    rw [e0]
    go_enter Tryd.func82, Tryd.ntmps82
    go_wp2_with (first
      | (go_at_call 91; refine (isSize_any _ _ hS).mono ?_; rintro e w' ⟨rfl, rfl⟩)
      | (at_make; refine wpList_make_own _ rfl _ _ 31 rfl w.heap.size 5 i0 (.int .u8 0) 1 Tryd.underlying31 hi hz0 hz1 .i64 .i64 _ (n) rfl rfl (by omega) (by rw [hz2]; omega) (by unfold maxLen; omega) (Nat.le_refl _) ?_; intro w1 hown1 hg1; have k1 : Keeps w w1 := keeps_grown hg1 _ (Nat.le_refl _) (by simp); have hB1 := hB.keep k1)
      | (at_builtin; refine wpList_app _ rfl _ _ 31 rfl w.heap.size 5 i0 (.int .u8 0) 1 1 Tryd.underlying31 hi hz0 hz1 hz2 rfl (by decide) _ 0 [] rfl (Own.of_row hown1) w1.heap.size A n c (cel l) rfl (by rw [cel_length, HN.out, Nat.mul_one]) hB1 (cel_one l) (by unfold maxLen; omega) (by omega) k1.size ?_; intro v2 w2 hown2 hgrow2 hblk2; have o2 : Own w2 w.heap.size 5 1 v2 l.length (cel l) := (by have := hown2; rw [HN.out] at this; simpa using this); have k2 : Keeps w w2 := Below.grown k1 hgrow2 k1.size (fun g hg => ((Own.of_row hown1).lt g hg).1); clear hown2 hgrow2 hblk2)
      | (go_at_call 92; refine (append64_any w.heap.size _ l 0 x (by omega) hx _ o2 k2.size (by omega)).mono ?_; rintro e w3 ⟨v3, rfl, o3, n3⟩))
    go_ret
    exact put_close o2 k2 o3 n3
  | true =>
    have hsz := isSz_true hs
    obtain ⟨k, rfl⟩ : ∃ k : Nat, s = (k : Int) := ⟨s.toNat, by omega⟩
    have hk : k ≤ 8 := by omega
    clear hnl hsz
    have e0 : (l ++ if true = true then nb (k : Int).toNat x else []) = l ++ nb k x := by simp
    rw [e0]
    clear e0
    go_enter Tryd.func82, Tryd.ntmps82
    go_wp2_with (first
      | (go_at_call 91; refine (isSize_any _ _ hS).mono ?_; rintro e w' ⟨rfl, rfl⟩)
      | (at_make; refine wpList_make_own _ rfl _ _ 31 rfl w.heap.size 5 i0 (.int .u8 0) 1 Tryd.underlying31 hi hz0 hz1 .i64 .i64 _ (n + k) rfl rfl (by omega) (by rw [hz2]; omega) (by unfold maxLen; omega) (Nat.le_refl _) ?_; intro w1 hown1 hg1; have k1 : Keeps w w1 := keeps_grown hg1 _ (Nat.le_refl _) (by simp); have hB1 := hB.keep k1)
      | (at_builtin; refine wpList_app _ rfl _ _ 31 rfl w.heap.size 5 i0 (.int .u8 0) 1 1 Tryd.underlying31 hi hz0 hz1 hz2 rfl (by decide) _ 0 [] rfl (Own.of_row hown1) w1.heap.size A n c (cel l) rfl (by rw [cel_length, HN.out, Nat.mul_one]) hB1 (cel_one l) (by unfold maxLen; omega) (by omega) k1.size ?_; intro v2 w2 hown2 hgrow2 hblk2; have o2 : Own w2 w.heap.size 5 1 v2 l.length (cel l) := (by have := hown2; rw [HN.out] at this; simpa using this); have k2 : Keeps w w2 := Below.grown k1 hgrow2 k1.size (fun g hg => ((Own.of_row hown1).lt g hg).1); clear hown2 hgrow2 hblk2)
      | (go_at_call 92; refine (append64_any w.heap.size _ l k x (by omega) hx _ o2 k2.size (by omega)).mono ?_; rintro e w3 ⟨v3, rfl, o3, n3⟩))
    go_ret
    exact put_close o2 k2 o3 n3
end Go.Proofs.YtmholhjdpkfleaaDoor
