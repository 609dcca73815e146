/- Package input: rows. -/
import Derived.Test.YtbalejfloieiiaaDoorInErr
import Derived.Test.YtbalejfloieiiaaDoorOctetReads
import Derived.Test.YtbalejfloieiiaaDoorRefInput5
namespace Go.Proofs.YtbalejfloieiiaaDoor
open Go.RowKit
set_option linter.unusedSimpArgs false
set_option linter.unusedVariables false
set_option maxRecDepth 100000

theorem numI_front (l r : List UInt8) (p s : Nat) (h : p + s ≤ l.length) : numI (l ++ r) p s = numI l p s := by
  unfold numI
  rw [List.drop_append, List.take_append]
  have e : s - (l.drop p).length = 0 := by rw [List.length_drop]; omega
  rw [e]
  simp
theorem numI_behind (l : List UInt8) (k x : Nat) (hk : l.length = k) (s : Nat) (hx : x < 256 ^ s) : numI (l ++ nb s x) k s = x := by
  unfold numI
  rw [List.drop_left' hk, List.take_of_length_le (by rw [nb_length]; omega), le_nb]
  exact Nat.mod_eq_of_lt hx
def rowEd (l : List UInt8) : Ed := ⟨numI l 0 4, numI l 4 4, numI l 8 8, 4294967295⟩
set_option maxHeartbeats 4000000 in
theorem fromRow_any (A : Option Addr) (c : Nat) (l : List UInt8) (w : World) (hS : Sizes w) (hB : Bs w A l) (hl : l.length = 16) :
    Calls Tryd.prog 56 #[.slice A 16 c] w fun e w' => e = .returned (.agg (edA (rowEd l))) ∧ Keeps w w' := by
  have k0 := keeps_alloc w (.cells #[.int .u32 0, .int .u32 0, .int .u64 0, .int .u32 0] 31)
  have B0 := EdBox.new w 31 ⟨0, 0, 0, 0⟩
  have P := Lib.hid (put_any A 16 c l 4294967295 4 _ (hS.keep k0) (hB.keep k0) hl.symm (by decide) (by decide))
  have hlen : (l ++ if isSz 4 = true then nb (4 : Int).toNat 4294967295 else []).length = 20 := by rw [List.length_append, hl]; rfl
  have hcat : (l ++ if isSz 4 = true then nb (4 : Int).toNat 4294967295 else []) = l ++ nb 4 4294967295 := rfl
  rw [hcat] at hlen P
  have n0 := numI_front l (nb 4 4294967295) 0 4 (by omega)
  have n1 := numI_front l (nb 4 4294967295) 4 4 (by omega)
  have n2 := numI_front l (nb 4 4294967295) 8 8 (by omega)
  have n3 := numI_behind l 16 4294967295 hl 4 (by decide)
  have R := Lib.hid (fun W A' c' (hb : Bs W A' (l ++ nb 4 4294967295)) hc' => readEdge_yes A' c' (l ++ nb 4 4294967295) W hb hlen hc')
  have e : ∀ p s, numAt (l ++ nb 4 4294967295) p s = numI (l ++ nb 4 4294967295) p s := fun _ _ => rfl
  simp only [e, n0, n1, n2, n3] at R
  unfold rowEd
  have HL := Lib.hid hlen
  clear e n0 n1 n2 n3 hS hB hl hcat hlen
  generalize numI l 0 4 = x0 at *
  generalize numI l 4 4 = x1 at *
  generalize numI l 8 8 = x2 at *
  generalize l ++ nb 4 4294967295 = l2 at *
  go_enter Tryd.func56, Tryd.ntmps56
  go_wp2_with fail
  refine P.out.mono ?_
  rintro e w1 ⟨v1, rfl, o1, k1⟩
  obtain ⟨A1, c1, rfl, hc1, -⟩ := o1.form
  have b1 : Bs w1 A1 l2 := o1.at_
  rw [HL.out] at hc1
  simp only [HL.out]
  clear o1
  have B1 := B0.keep k1
  clear B0
  go_wp2_with fail
  refine (R.out _ _ _ b1 hc1).mono ?_
  rintro e w2 ⟨rfl, k2⟩
  have k3 := keeps_alloc w2 (.cells #[.int .u32 x0, .int .u32 x1, .int .u64 x2, .int .u32 4294967295] 31)
  have B2 := (B1.keep k2).keep k3
  obtain ⟨d0, d1, d2, d3⟩ := B2.cells
  obtain ⟨g0, g1, g2, g3⟩ := B2.free
  have K := Lib.hid (keeps_trans k0 (keeps_trans k1 (keeps_trans k2 k3)))
  clear B1 b1
  go_wp2_with fail
  have B3 := B2.put ⟨x0, x1, x2, 4294967295⟩
  have K4 := Lib.hid (putEd_below K.out (b := w.heap.size) (Nat.le_refl _) ⟨x0, x1, x2, 4294967295⟩)
  change bodyPost _ _ _ _ _ (putEd (w2.alloc (.cells #[.int .u32 x0, .int .u32 x1, .int .u64 x2, .int .u32 4294967295] 31)) w.heap.size ⟨x0, x1, x2, 4294967295⟩)
  generalize putEd (w2.alloc (.cells #[.int .u32 x0, .int .u32 x1, .int .u64 x2, .int .u32 4294967295] 31)) w.heap.size ⟨x0, x1, x2, 4294967295⟩ = W4 at *
  obtain ⟨d0, d1, d2, d3⟩ := B3.cells
  exact bodyPost_ret (v := .agg #[.int .u32 x0, .int .u32 x1, .int .u64 x2, .int .u32 4294967295]) (by simp [results, Tryd.results56, go_sem, d0, d1, d2, d3]) rfl ⟨rfl, K4.out⟩

theorem rowS_err {l : List UInt8} {n : Nat} (h : l.length = 16) : rowS l n = if (edErr n (rowEd l)).1 = 0 then ⟨rowEd l, 0, 0⟩ else ⟨zeroEd, (edErr n (rowEd l)).1, (edErr n (rowEd l)).2⟩ := by
  rw [rowS_at h]
  unfold edErr rowEd
  simp only
  by_cases c1 : n ≤ numI l 0 4
  · rw [if_pos c1, if_pos c1]; rfl
  · rw [if_neg c1, if_neg c1]
    by_cases c2 : n ≤ numI l 4 4
    · rw [if_pos c2, if_pos c2]; rfl
    · rw [if_neg c2, if_neg c2]
      by_cases c3 : fitB n (numI l 8 8) = false
      · rw [if_pos c3, if_pos c3]; rfl
      · rw [if_neg c3, if_neg c3]; rfl
/-- the answer of readRow -/
def rrowV (r : RRes) : Value := .tuple #[.agg (edA r.ed), errV r.e r.a]
theorem rowS_e0 (l : List UInt8) (n : Nat) : (rowS l n).e = 0 → (rowS l n).a = 0 := by
  by_cases h1 : l.length < 16
  · rw [rowS_short l n h1]; simp
  · by_cases h2 : 16 < l.length
    · rw [rowS_long h2]; simp
    · rw [rowS_err (by omega)]
      split <;> simp
      intro h
      exact absurd h (by assumption)
set_option maxHeartbeats 8000000 in
theorem readRow_any (A : Option Addr) (k c : Nat) (l : List UInt8) (n : Nat) (hn : n < 4294967296) (w : World) (hS : Sizes w) (hB : Bs w A l) (hkl : k = l.length) (hk : k ≤ 1000000000) :
    Calls Tryd.prog 35 #[.slice A k c, .int .u32 n] w fun e w' => e = .returned (rrowV (rowS l n)) ∧ Keeps w w' := by
  have HB := Lib.hid hB
  have HN := Lib.hid hkl
  have HS := Lib.hid hS
  have kz := keeps_alloc w (.cells #[.int .u32 0, .int .u32 0, .int .u64 0, .int .u32 0] 31)
  have B0 := EdBox.new w 31 ⟨0, 0, 0, 0⟩
  clear hB hkl hS
  by_cases h1 : k < 16
  · have HR := Lib.hid (show Ending.returned (.tuple #[.agg #[.int .u32 0, .int .u32 0, .int .u64 0, .int .u32 0], .iface 88 (.agg #[.int .i64 8, .int .i64 (k : Int)])]) = Ending.returned (rrowV (rowS l n)) by
      rw [rowS_short l n (by rw [← HN.out]; exact h1), ← HN.out]; rfl)
    go_enter Tryd.func35, Tryd.ntmps35
    go_wp2_with fail
    exact bodyPost_ret (v := .tuple #[.agg #[.int .u32 0, .int .u32 0, .int .u64 0, .int .u32 0], .iface 88 (.agg #[.int .i64 8, .int .i64 (k : Int)])]) (by simp [results, Tryd.results35, go_sem]) rfl ⟨HR.out, kz⟩
  · by_cases h2 : 16 < k
    · have HR := Lib.hid (show Ending.returned (.tuple #[.agg #[.int .u32 0, .int .u32 0, .int .u64 0, .int .u32 0], .iface 88 (.agg #[.int .i64 1, .int .i64 0])]) = Ending.returned (rrowV (rowS l n)) by
        rw [rowS_long (by rw [← HN.out]; exact h2)]; rfl)
      go_enter Tryd.func35, Tryd.ntmps35
      go_wp2_with fail
      exact bodyPost_ret (v := .tuple #[.agg #[.int .u32 0, .int .u32 0, .int .u64 0, .int .u32 0], .iface 88 (.agg #[.int .i64 1, .int .i64 0])]) (by simp [results, Tryd.results35, go_sem]) rfl ⟨HR.out, kz⟩
    · obtain rfl : k = 16 := by omega
      have FR := Lib.hid (fun W (q : Keeps w W) => fromRow_any A c l W (HS.out.keep q) (HB.out.keep q) HN.out.symm)
      have HH := Lib.hid (rowS_err (n := n) HN.out.symm)
      have oke : EdOk (rowEd l) := row_ed_ok l
      obtain ⟨x, hx⟩ : ∃ x, rowEd l = x := ⟨_, rfl⟩
      rw [hx] at HH oke FR
      have CE := Lib.hid (fun W => checkEdge_any n x.t x.h x.x x.m hn oke.t oke.h oke.x W)
      have e4 : (⟨x.t, x.h, x.x, x.m⟩ : Ed) = x := rfl
      rw [e4] at CE
      unfold edA at FR
      clear hx h1 h2 oke e4
      by_cases ce : (edErr n x).1 = 0
      · rw [ce, errV_zero] at CE
        have HR := Lib.hid (show Ending.returned (.tuple #[.agg #[.int .u32 (x.t : Int), .int .u32 (x.h : Int), .int .u64 (x.x : Int), .int .u32 (x.m : Int)], .nilIface]) = Ending.returned (rrowV (rowS l n)) by rw [HH.out, if_pos ce]; rfl)
        clear ce
        go_enter Tryd.func35, Tryd.ntmps35
        go_wp2_with fail
        refine (FR.out _ kz).mono ?_
        rintro e w1 ⟨rfl, k1⟩
        have k2 := keeps_alloc w1 (.cells #[.int .u32 x.t, .int .u32 x.h, .int .u64 x.x, .int .u32 x.m] 31)
        go_wp2_with fail
        refine (CE.out _).mono ?_
        rintro e w3 ⟨rfl, k3⟩
        have B1 := (EdBox.new w1 31 x).keep k3
        obtain ⟨c0, c1, c2, c3⟩ := B1.cells
        have B2 := ((B0.keep k1).keep k2).keep k3
        obtain ⟨d0, d1, d2, d3⟩ := B2.cells
        obtain ⟨g0, g1, g2, g3⟩ := B2.free
        have K := Lib.hid (keeps_trans kz (keeps_trans k1 (keeps_trans k2 k3)))
        clear B1
        go_wp2_with fail
        have B3 := B2.put x
        have K4 := Lib.hid (putEd_below K.out (b := w.heap.size) (Nat.le_refl _) x)
        change bodyPost _ _ _ _ _ (putEd w3 w.heap.size x)
        generalize putEd w3 w.heap.size x = W4 at *
        obtain ⟨d0, d1, d2, d3⟩ := B3.cells
        exact bodyPost_ret (v := .tuple #[.agg #[.int .u32 (x.t : Int), .int .u32 (x.h : Int), .int .u64 (x.x : Int), .int .u32 (x.m : Int)], .nilIface]) (by simp [results, Tryd.results35, go_sem, d0, d1, d2, d3]) rfl ⟨HR.out, K4.out⟩
      · rw [errV_some ce] at CE
        have HR0 := Lib.hid (show rowS l n = ⟨zeroEd, (edErr n x).1, (edErr n x).2⟩ by rw [HH.out, if_neg ce])
        generalize (edErr n x).1 = p at *
        generalize (edErr n x).2 = q at *
        have HR := Lib.hid (show Ending.returned (.tuple #[.agg #[.int .u32 0, .int .u32 0, .int .u64 0, .int .u32 0], .iface 88 (.agg #[.int .i64 p, .int .i64 q])]) = Ending.returned (rrowV (rowS l n)) by rw [HR0.out]; unfold rrowV; rw [errV_some ce]; rfl)
        clear ce HR0 HH
        go_enter Tryd.func35, Tryd.ntmps35
        go_wp2_with fail
        refine (FR.out _ kz).mono ?_
        rintro e w1 ⟨rfl, k1⟩
        have k2 := keeps_alloc w1 (.cells #[.int .u32 x.t, .int .u32 x.h, .int .u64 x.x, .int .u32 x.m] 31)
        go_wp2_with fail
        refine (CE.out _).mono ?_
        rintro e w3 ⟨rfl, k3⟩
        have B2 := ((B0.keep k1).keep k2).keep k3
        obtain ⟨d0, d1, d2, d3⟩ := B2.cells
        obtain ⟨g0, g1, g2, g3⟩ := B2.free
        have K := Lib.hid (keeps_trans kz (keeps_trans k1 (keeps_trans k2 k3)))
        go_wp2_with fail
        have B3 := B2.put ⟨0, 0, 0, 0⟩
        have K4 := Lib.hid (putEd_below K.out (b := w.heap.size) (Nat.le_refl _) ⟨0, 0, 0, 0⟩)
        change bodyPost _ _ _ _ _ (putEd w3 w.heap.size ⟨0, 0, 0, 0⟩)
        generalize putEd w3 w.heap.size ⟨0, 0, 0, 0⟩ = W4 at *
        obtain ⟨d0, d1, d2, d3⟩ := B3.cells
        exact bodyPost_ret (v := .tuple #[.agg #[.int .u32 0, .int .u32 0, .int .u64 0, .int .u32 0], .iface 88 (.agg #[.int .i64 p, .int .i64 q])]) (by simp [results, Tryd.results35, go_sem, d0, d1, d2, d3]) rfl ⟨HR.out, K4.out⟩

set_option maxHeartbeats 8000000 in
theorem row_any (A : Option Addr) (k c : Nat) (l : List UInt8) (n : Nat) (hn : n < 4294967296) (w : World) (hS : Sizes w) (hH : Handle w) (hB : Bs w A l) (hkl : k = l.length) (hk : k ≤ 1000000000) :
    Calls Tryd.prog 18 #[.slice A k c, .int .u32 n] w fun e w' => e = .returned (rowV (rowS l n)) ∧ Keeps w w' := by
  have kz := keeps_alloc w (.cells #[.int .u32 0, .int .u32 0, .int .u64 0, .int .u32 0] 31)
  have B0 := EdBox.new w 31 ⟨0, 0, 0, 0⟩
  have R := Lib.hid (readRow_any A k c l n hn _ (hS.keep kz) (hB.keep kz) hkl hk)
  have T := Lib.hid (fun W (k : Keeps w W) => told_any (rowS l n).e (rowS l n).a (rowS_e0 l n) W (hH.keep k))
  clear hS hH hB hkl
  unfold rrowV edA at R
  unfold rowV
  generalize (rowS l n).ed = x at *
  generalize (rowS l n).e = p at *
  generalize (rowS l n).a = q at *
  generalize errV p q = E at *
  go_enter Tryd.func18, Tryd.ntmps18
  go_wp2_with fail
  refine R.out.mono ?_
  rintro e w1 ⟨rfl, k1⟩
  have k2 := keeps_alloc w1 (.cells #[.int .u32 x.t, .int .u32 x.h, .int .u64 x.x, .int .u32 x.m] 31)
  have K2 := Lib.hid (keeps_trans kz (keeps_trans k1 k2))
  go_wp2_with fail
  refine (T.out _ K2.out).mono ?_
  rintro e w3 ⟨rfl, k3⟩
  have B1 := (EdBox.new w1 31 x).keep k3
  obtain ⟨c0, c1, c2, c3⟩ := B1.cells
  have B2 := ((B0.keep k1).keep k2).keep k3
  obtain ⟨d0, d1, d2, d3⟩ := B2.cells
  obtain ⟨g0, g1, g2, g3⟩ := B2.free
  have K := Lib.hid (keeps_trans K2.out k3)
  clear B1
  go_wp2_with fail
  have B3 := B2.put x
  have K4 := Lib.hid (putEd_below K.out (b := w.heap.size) (Nat.le_refl _) x)
  change bodyPost _ _ _ _ _ (putEd w3 w.heap.size x)
  generalize putEd w3 w.heap.size x = W4 at *
  obtain ⟨d0, d1, d2, d3⟩ := B3.cells
  exact bodyPost_ret (v := .tuple #[.agg #[.int .u32 (x.t : Int), .int .u32 (x.h : Int), .int .u64 (x.x : Int), .int .u32 (x.m : Int)], .int .i64 p, .int .i64 q]) (by simp [results, Tryd.results18, go_sem, d0, d1, d2, d3]) rfl ⟨rfl, K4.out⟩
end Go.Proofs.YtbalejfloieiiaaDoor
