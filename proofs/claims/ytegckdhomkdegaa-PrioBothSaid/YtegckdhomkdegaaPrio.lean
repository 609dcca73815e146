/- What Key of the landed package prio answers (the chapter's sum), and the reference's, and the laws' own helpers. -/
import Derived.Test.YtegckdhomkdegaaProg
import Derived.Test.YtegckdhomkdegaaBase
import Derived.Test.YtegckdhomkdegaaBox
import Derived.Deep.RegionHeld3
namespace Go.Proofs.Ytegckdhomkdegaa
open Go.RowKit
set_option linter.unusedSimpArgs false
set_option linter.unusedVariables false
set_option maxRecDepth 100000

/-! ### The chapter's sum -/
def cutP (x : Int) : Int := if x < 0 then 0 else if 1073741824 < x then 1073741824 else x
theorem cutP_le (x : Int) : 0 ≤ cutP x ∧ cutP x ≤ 1073741824 := by unfold cutP; split <;> (try split) <;> omega
theorem cutP_neg {x : Int} (h : x < 0) : cutP x = 0 := by unfold cutP; omega
theorem cutP_big {x : Int} (h : 1073741824 < x) : cutP x = 1073741824 := by unfold cutP; omega
theorem cutP_self {x : Int} (h0 : 0 ≤ x) (h1 : x ≤ 1073741824) : cutP x = x := by unfold cutP; omega
theorem cutP_cutP (x : Int) : cutP (cutP x) = cutP x := cutP_self (cutP_le x).1 (cutP_le x).2
/-- the key of so many that come, go, and must be made, of a vertex of this level and so many that are gone -/
def keyP (i o s : Int) (l g : Nat) : Nat := (1048576 + 2 * cutP s + g + l - cutP i - cutP o).toNat

/-! ### The code -/
structure I64 (x : Int) : Prop where
  lo : -9223372036854775808 ≤ x
  hi : x ≤ 9223372036854775807

theorem cutG_any (x : Int) (w : World) : Calls Try.prog 14 #[.int .i64 x] w fun e w' => e = .returned (.int .i64 (cutP x)) ∧ w = w' := by
  by_cases h0 : x < 0
  · rw [cutP_neg h0]
    go_enter Try.func14, Try.ntmps14
    go_wp2
    go_ret
    exact ⟨rfl, rfl⟩
  · by_cases h1 : 1073741824 < x
    · rw [cutP_big h1]
      go_enter Try.func14, Try.ntmps14
      go_wp2
      go_ret
      exact ⟨rfl, rfl⟩
    · rw [cutP_self (by omega) (by omega)]
      go_enter Try.func14, Try.ntmps14
      go_wp2
      go_ret
      exact ⟨rfl, rfl⟩

/-- the sum of the first terms of a list -/
def preS (l : List Int) (k : Nat) : Int := (l.take k).sum
theorem preS_zero (l : List Int) : preS l 0 = 0 := rfl
theorem preS_succ (l : List Int) (k : Nat) (h : k < l.length) : preS l (k + 1) = preS l k + l.getD k 0 := by
  unfold preS
  rw [List.take_add_one, List.sum_append, List.getElem?_eq_getElem h]
  simp [List.getD, h]
def i64s (l : List Int) : List Value := l.map fun n => Value.int .i64 n
theorem i64s_length (l : List Int) : (i64s l).length = l.length := by simp [i64s]
theorem i64s_at {w : World} {B : Nat} {A : Option Addr} {l : List Int} (h : At w B A (i64s l)) {k : Nat} (hk : k < l.length) : ∃ ad, A = some ad ∧ w.cell? (ad.add k) = some (.int .i64 (l.getD k 0)) := by
  obtain ⟨ad, e, _, hc⟩ := At.get h (k := k) (by rw [i64s_length]; exact hk)
  exact ⟨ad, e, by rw [hc]; simp [i64s, List.getD, hk]⟩

theorem sumG_any (l : List Int) (ad : Addr) (c : Nat) (w : World) (B : Nat) (hA : At w B (some ad) (i64s l)) (hl : l.length ≤ 1000) (hB : ∀ k, k ≤ l.length → -1099511627776 ≤ preS l k ∧ preS l k ≤ 1099511627776) :
    Calls Try.prog 13 #[.slice (some ad) l.length c] w fun e w' => e = .returned (.int .i64 (preS l l.length)) ∧ Keeps w w' := by
  obtain ⟨n, hn⟩ : ∃ n, l.length = n := ⟨_, rfl⟩
  have HN := Lib.hid hn
  have HA := Lib.hid hA
  have HB := Lib.hid hB
  have hl' : n ≤ 1000 := by omega
  rw [hn]
  clear hn hA hB hl
  go_enter Try.func13, Try.ntmps13
  go_wp2_with fail
  go_loopw [3, 5, 8] (fun s t i wr => ∃ k : Nat, k ≤ n ∧ i = .int .i64 (k : Int) ∧ s = .int .i64 (preS l k) ∧ Keeps w wr) (fun _ _ i _ => n - (intOf i).toNat)
  case atStart => exact ⟨0, Nat.zero_le _, rfl, rfl, keeps_refl _⟩
  case round =>
    obtain ⟨k, hk, rfl, rfl, hkp⟩ := hrel
    by_cases hlt : k < n
    · obtain ⟨ad', e', hc⟩ := i64s_at HA.out (k := k) (by have := HN.out; omega)
      obtain rfl := Option.some.inj e'
      have hc' := hkp.cellOf hc
      have hS := preS_succ l k (by have := HN.out; omega)
      have b1 := HB.out k (by have := HN.out; omega)
      have b2 := HB.out (k + 1) (by have := HN.out; omega)
      rw [hS] at b2
      obtain ⟨T, hT⟩ : ∃ T, preS l (k + 1) = T := ⟨_, rfl⟩
      rw [hT] at hS
      have HS := Lib.hid hS
      have HT := Lib.hid hT
      generalize preS l k = p at *
      generalize l.getD k 0 = y at *
      clear hc hS hT
      go_wp2_with fail
      go_roundw
      case rel => exact ⟨k + 1, by omega, by go_num, by rw [HT.out, HS.out], hkp⟩
      case measure => simp [intOf]; omega
    · obtain rfl : k = n := by omega
      go_wp2_with fail
      go_ret
      exact ⟨rfl, hkp⟩

theorem sum6_any (a b c d x y : Int) (ha : -1099511 ≤ a ∧ a ≤ 17179869184) (hb : -1099511 ≤ b ∧ b ≤ 17179869184) (hc : -1099511 ≤ c ∧ c ≤ 17179869184) (hd : -1099511 ≤ d ∧ d ≤ 17179869184) (hx : -17179869184 ≤ x ∧ x ≤ 17179869184) (hy : -17179869184 ≤ y ∧ y ≤ 17179869184) (t : TypeId) (V V' : World) (kv : Keeps (V.alloc (.cells #[.int .i64 a, .int .i64 b, .int .i64 c, .int .i64 d, .int .i64 x, .int .i64 y] t)) V') :
    Calls Try.prog 13 #[.slice (some ⟨V.heap.size, 0, none⟩) 6 6] V' fun e w' => e = .returned (.int .i64 (a + b + c + d + x + y)) ∧ Keeps V w' := by
  have hA : At (V.alloc (.cells #[.int .i64 a, .int .i64 b, .int .i64 c, .int .i64 d, .int .i64 x, .int .i64 y] t)) (V.alloc (.cells #[.int .i64 a, .int .i64 b, .int .i64 c, .int .i64 d, .int .i64 x, .int .i64 y] t)).heap.size (some ⟨V.heap.size, 0, none⟩) (i64s [a, b, c, d, x, y]) := At.new V (i64s [a, b, c, d, x, y]) t _ (by rw [World.size_alloc]; omega)
  have h := sumG_any [a, b, c, d, x, y] ⟨V.heap.size, 0, none⟩ 6 _ _ (hA.keep kv) (by simp) (fun k hk => by
    have hk' : k ≤ 6 := hk
    have : k = 0 ∨ k = 1 ∨ k = 2 ∨ k = 3 ∨ k = 4 ∨ k = 5 ∨ k = 6 := by omega
    rcases this with rfl | rfl | rfl | rfl | rfl | rfl | rfl <;> simp [preS] <;> omega)
  refine Calls.mono h ?_
  rintro e w' ⟨rfl, k⟩
  refine ⟨?_, keeps_trans (keeps_trans (keeps_alloc _ _) kv) k⟩
  congr 2
  simp [preS]
  omega

set_option maxHeartbeats 4000000 in
theorem pkey_any (i o s : Int) (r l g : Nat) (hl : l < 4294967296) (hg : g < 4294967296) (w : World) :
    Calls Try.prog 8 #[.int .i64 i, .int .i64 o, .int .i64 s, .agg #[.int .u32 r, .int .u32 l, .int .u32 g]] w fun e w' => e = .returned (.int .u64 (keyP i o s l g : Nat)) ∧ Keeps w w' := by
  have C1 := Lib.hid (cutG_any i)
  have C2 := Lib.hid (cutG_any o)
  have C3 := Lib.hid (cutG_any s)
  have b1 := cutP_le i
  have b2 := cutP_le o
  have b3 := cutP_le s
  unfold keyP
  generalize cutP i = x at *
  generalize cutP o = y at *
  generalize cutP s = z at *
  obtain ⟨G, hG⟩ : ∃ G : Int, (g : Int) = G := ⟨_, rfl⟩
  obtain ⟨L, hL⟩ : ∃ L : Int, (l : Int) = L := ⟨_, rfl⟩
  have g0 : 0 ≤ G := by omega
  have g1 : G < 4294967296 := by omega
  have l0 : 0 ≤ L := by omega
  have l1 : L < 4294967296 := by omega
  rw [hG, hL]
  clear hl hg hG hL
  have S6 := Lib.hid (fun t V V' kv => sum6_any 1048576 (2 * z) G L (-x) (-y) (by omega) (by omega) (by omega) (by omega) (by omega) (by omega) t V V' kv)
  obtain ⟨K, hK⟩ : ∃ K, 1048576 + 2 * z + G + L + -x + -y = K := ⟨_, rfl⟩
  rw [hK] at S6
  have hK2 : 1048576 + 2 * z + G + L - x - y = K := by omega
  rw [hK2]
  obtain ⟨R, hR⟩ : ∃ R, K.toNat = R := ⟨_, rfl⟩
  rw [hR]
  have HR := Lib.hid hR
  clear hR
  have kb : -17179869184 ≤ K ∧ K ≤ 17179869184 := by omega
  have BX := Box.new w 26 #[.int .u32 r, .int .u32 L, .int .u32 G]
  have k0 := Lib.hid (keeps_alloc w (.cells #[.int .u32 r, .int .u32 L, .int .u32 G] 26))
  have c1 : (w.alloc (.cells #[.int .u32 r, .int .u32 L, .int .u32 G] 26)).cell? ⟨w.heap.size, 1, none⟩ = some (.int .u32 L) := BX.cell 1 rfl
  have c2 : (w.alloc (.cells #[.int .u32 r, .int .u32 L, .int .u32 G] 26)).cell? ⟨w.heap.size, 2, none⟩ = some (.int .u32 G) := BX.cell 2 rfl
  have SK := Lib.hid (fun (V : World) (k : Keeps (w.alloc (.cells #[.int .u32 r, .int .u32 L, .int .u32 G] 26)) V) => And.intro (k.cellOf c1) (k.cellOf c2))
  have WZ := Lib.hid (show IntKind.i64.wrap (2 * z) = 2 * z by rw [IntKind.wrap_i64]; omega)
  have WG := Lib.hid (show IntKind.i64.wrap G = G by rw [IntKind.wrap_i64]; omega)
  have WL := Lib.hid (show IntKind.i64.wrap L = L by rw [IntKind.wrap_i64]; omega)
  have WX := Lib.hid (show IntKind.i64.wrap (-x) = -x by rw [IntKind.wrap_i64]; omega)
  have WY := Lib.hid (show IntKind.i64.wrap (-y) = -y by rw [IntKind.wrap_i64]; omega)
  clear BX hK hK2
  go_enter Try.func8, Try.ntmps8
  go_wp2_with fail
  generalize w.alloc (.cells #[.int .u32 r, .int .u32 L, .int .u32 G] 26) = W at *
  clear c1 c2
  go_region_held3 (fun V => V.cell? ⟨w.heap.size, 1, none⟩ = some (.int .u32 L) ∧ V.cell? ⟨w.heap.size, 2, none⟩ = some (.int .u32 G)) (first | assumption | exact SK.out _ (keeps_drew _) | exact SK.out _ (keeps_trans (keeps_alloc _ _) (keeps_drew _))) (first
    | (go_at_call 13; simp only [WZ.out, WG.out, WL.out, WX.out, WY.out]; refine (S6.out _ _ _ (keeps_drew _)).mono ?_; rintro ee w1 ⟨rfl, k1⟩; have s1 := SK.out _ k1)
    | (go_at_call 14; refine (C1.out _).mono ?_; rintro ee w1 ⟨rfl, rfl⟩; clear C1)
    | (go_at_call 14; refine (C2.out _).mono ?_; rintro ee w1 ⟨rfl, rfl⟩; clear C2)
    | (go_at_call 14; refine (C3.out _).mono ?_; rintro ee w1 ⟨rfl, rfl⟩; clear C3))
  generalize W.drew = W1 at *
  by_cases hK : K < 0
  · obtain rfl : R = 0 := by have := HR.out; omega
    go_wp2_with fail
    go_ret
    exact ⟨rfl, keeps_trans k0.out k1⟩
  · obtain rfl : K = (R : Int) := by have := HR.out; omega
    clear HR
    go_wp2_with fail
    go_ret
    exact ⟨rfl, keeps_trans k0.out k1⟩

/-! ### The reference, and what the laws help themselves with -/
theorem rcut_any (x : Int) (w : World) : Calls Try.prog 15 #[.int .i64 x] w fun e w' => e = .returned (.int .i64 (cutP x)) ∧ w = w' := by
  by_cases h0 : x < 0
  · rw [cutP_neg h0]
    go_enter Try.func15, Try.ntmps15
    go_wp2
    go_ret
    exact ⟨rfl, rfl⟩
  · by_cases h1 : 1073741824 < x
    · rw [cutP_big h1]
      go_enter Try.func15, Try.ntmps15
      go_wp2
      go_ret
      exact ⟨rfl, rfl⟩
    · rw [cutP_self (by omega) (by omega)]
      go_enter Try.func15, Try.ntmps15
      go_wp2
      go_ret
      exact ⟨rfl, rfl⟩
theorem lcut_any (x : Int) (w : World) : Calls Try.prog 12 #[.int .i64 x] w fun e w' => e = .returned (.int .i64 (cutP x)) ∧ w = w' := by
  by_cases h0 : x < 0
  · rw [cutP_neg h0]
    go_enter Try.func12, Try.ntmps12
    go_wp2
    go_ret
    exact ⟨rfl, rfl⟩
  · by_cases h1 : 1073741824 < x
    · rw [cutP_big h1]
      go_enter Try.func12, Try.ntmps12
      go_wp2
      go_ret
      exact ⟨rfl, rfl⟩
    · rw [cutP_self (by omega) (by omega)]
      by_cases h2 : x = 0
      · subst h2
        go_enter Try.func12, Try.ntmps12
        go_wp2
        go_ret
        exact ⟨rfl, rfl⟩
      · have h3 : 0 < x := by omega
        go_enter Try.func12, Try.ntmps12
        go_wp2
        go_ret
        exact ⟨rfl, rfl⟩
def withinP (x : Int) : Bool := decide (0 ≤ x) && decide (x < 1073741824)
theorem within_any (x : Int) (w : World) : Calls Try.prog 11 #[.int .i64 x] w fun e w' => e = .returned (.bool (withinP x)) ∧ w = w' := by
  by_cases h0 : 0 ≤ x
  · by_cases h1 : x < 1073741824
    · have e : withinP x = true := by simp [withinP, h0, h1]
      rw [e]
      go_enter Try.func11, Try.ntmps11
      go_wp2
      go_ret
      exact ⟨rfl, rfl⟩
    · have e : withinP x = false := by simp [withinP, h0, h1]
      rw [e]
      go_enter Try.func11, Try.ntmps11
      go_wp2
      go_ret
      exact ⟨rfl, rfl⟩
  · have e : withinP x = false := by simp [withinP, h0]
    rw [e]
    go_enter Try.func11, Try.ntmps11
    go_wp2
    go_ret
    exact ⟨rfl, rfl⟩

set_option maxHeartbeats 4000000 in
theorem rkey_any (i o s : Int) (r l g : Nat) (hl : l < 4294967296) (hg : g < 4294967296) (w : World) :
    Calls Try.prog 9 #[.int .i64 i, .int .i64 o, .int .i64 s, .agg #[.int .u32 r, .int .u32 l, .int .u32 g]] w fun e w' => e = .returned (.int .u64 (keyP i o s l g : Nat)) ∧ Keeps w w' := by
  have C1 := Lib.hid (rcut_any i)
  have C2 := Lib.hid (rcut_any o)
  have C3 := Lib.hid (rcut_any s)
  have b1 := cutP_le i
  have b2 := cutP_le o
  have b3 := cutP_le s
  unfold keyP
  generalize cutP i = x at *
  generalize cutP o = y at *
  generalize cutP s = z at *
  obtain ⟨G, hG⟩ : ∃ G : Int, (g : Int) = G := ⟨_, rfl⟩
  obtain ⟨L, hL⟩ : ∃ L : Int, (l : Int) = L := ⟨_, rfl⟩
  have g0 : 0 ≤ G := by omega
  have g1 : G < 4294967296 := by omega
  have l0 : 0 ≤ L := by omega
  have l1 : L < 4294967296 := by omega
  rw [hG, hL]
  clear hl hg hG hL
  obtain ⟨K, hK⟩ : ∃ K, 1048576 + 2 * z - x - y + G + L = K := ⟨_, rfl⟩
  have hK2 : 1048576 + 2 * z + G + L - x - y = K := by omega
  rw [hK2]
  obtain ⟨R, hR⟩ : ∃ R, K.toNat = R := ⟨_, rfl⟩
  rw [hR]
  have HR := Lib.hid hR
  clear hR
  have kb : -17179869184 ≤ K ∧ K ≤ 17179869184 := by omega
  have BX := Box.new w 26 #[.int .u32 r, .int .u32 L, .int .u32 G]
  have k0 := Lib.hid (keeps_alloc w (.cells #[.int .u32 r, .int .u32 L, .int .u32 G] 26))
  have c1 : (w.alloc (.cells #[.int .u32 r, .int .u32 L, .int .u32 G] 26)).cell? ⟨w.heap.size, 1, none⟩ = some (.int .u32 L) := BX.cell 1 rfl
  have c2 : (w.alloc (.cells #[.int .u32 r, .int .u32 L, .int .u32 G] 26)).cell? ⟨w.heap.size, 2, none⟩ = some (.int .u32 G) := BX.cell 2 rfl
  have SK := Lib.hid (fun (V : World) (k : Keeps (w.alloc (.cells #[.int .u32 r, .int .u32 L, .int .u32 G] 26)) V) => And.intro (k.cellOf c1) (k.cellOf c2))
  have WZ := Lib.hid (show IntKind.i64.wrap (2 * z) = 2 * z by rw [IntKind.wrap_i64]; omega)
  have WG := Lib.hid (show IntKind.i64.wrap G = G by rw [IntKind.wrap_i64]; omega)
  have WL := Lib.hid (show IntKind.i64.wrap L = L by rw [IntKind.wrap_i64]; omega)
  have W1 := Lib.hid (show IntKind.i64.wrap (1048576 + 2 * z) = 1048576 + 2 * z by rw [IntKind.wrap_i64]; omega)
  have W2 := Lib.hid (show IntKind.i64.wrap (1048576 + 2 * z - x) = 1048576 + 2 * z - x by rw [IntKind.wrap_i64]; omega)
  have W3 := Lib.hid (show IntKind.i64.wrap (1048576 + 2 * z - x - y) = 1048576 + 2 * z - x - y by rw [IntKind.wrap_i64]; omega)
  have W4 := Lib.hid (show IntKind.i64.wrap (1048576 + 2 * z - x - y + G) = 1048576 + 2 * z - x - y + G by rw [IntKind.wrap_i64]; omega)
  have W5 := Lib.hid (show IntKind.i64.wrap (1048576 + 2 * z - x - y + G + L) = K by rw [IntKind.wrap_i64]; omega)
  clear BX hK hK2
  go_enter Try.func9, Try.ntmps9
  go_wp2_with fail
  generalize w.alloc (.cells #[.int .u32 r, .int .u32 L, .int .u32 G] 26) = W at *
  clear c1 c2
  go_region_held3 (fun V => V.cell? ⟨w.heap.size, 1, none⟩ = some (.int .u32 L) ∧ V.cell? ⟨w.heap.size, 2, none⟩ = some (.int .u32 G)) (first | assumption | exact SK.out _ (keeps_drew _)) (first
    | (go_at_call 15; refine (C1.out _).mono ?_; rintro ee w1 ⟨rfl, rfl⟩; clear C1)
    | (go_at_call 15; refine (C2.out _).mono ?_; rintro ee w1 ⟨rfl, rfl⟩; clear C2)
    | (go_at_call 15; refine (C3.out _).mono ?_; rintro ee w1 ⟨rfl, rfl⟩; clear C3))
  simp only [WZ.out, WG.out, WL.out, W1.out, W2.out, W3.out, W4.out, W5.out]
  have k1 := keeps_drew W
  clear WZ WG WL W1 W2 W3 W4 W5
  generalize W.drew = w1 at *
  by_cases hK : K < 0
  · obtain rfl : R = 0 := by have := HR.out; omega
    go_wp2_with fail
    go_ret
    exact ⟨rfl, keeps_trans k0.out k1⟩
  · obtain rfl : K = (R : Int) := by have := HR.out; omega
    clear HR
    go_wp2_with fail
    go_ret
    exact ⟨rfl, keeps_trans k0.out k1⟩

/-- what a law has to come to -/
def Yes (w : World) (e : Ending) (w' : World) : Prop := e = .returned (.bool true) ∧ Keeps w w'
theorem works15 (w : World) : Calls Try.prog 10 #[] w (Yes w) := by
  have A1 := Lib.hid (fun W => pkey_any 0 0 0 0 0 0 (by decide) (by decide) W)
  have A2 := Lib.hid (fun W => pkey_any 3 2 4 0 5 1 (by decide) (by decide) W)
  have e1 : keyP 0 0 0 0 0 = 1048576 := by decide
  have e2 : keyP 3 2 4 5 1 = 1048585 := by decide
  rw [e1] at A1
  rw [e2] at A2
  clear e1 e2
  go_enter Try.func10, Try.ntmps10
  go_wp2_with fail
  refine (A1.out _).mono ?_
  rintro e w1 ⟨rfl, k1⟩
  go_wp2_with fail
  refine (A2.out _).mono ?_
  rintro e w2 ⟨rfl, k2⟩
  go_wp2_with fail
  go_ret
  exact ⟨rfl, keeps_trans k1 k2⟩
end Go.Proofs.Ytegckdhomkdegaa
