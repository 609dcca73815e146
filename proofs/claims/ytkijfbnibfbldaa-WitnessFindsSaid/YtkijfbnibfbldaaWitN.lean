/- The net of layer 14's statements: its edges from a vertex, who is avoided. -/
import Derived.Test.YtkijfbnibfbldaaWitG
namespace Go.Proofs.Ytkijfbnibfbldaa
open Go.RowKit
set_option linter.unusedSimpArgs false
set_option linter.unusedVariables false
set_option maxRecDepth 100000

theorem info_edgeW : (Try.prog.info? 67).map (fun i => (i.zero, i.size, i.bytes)) = some (some (.agg #[.int .u32 0, .int .u32 0, .int .u64 0, .int .u32 0]), 4, 24) := by kernel_rfl
set_option maxHeartbeats 4000000 in
theorem inU_any (A : Option Addr) (n c : Nat) (l : List Nat) (v : Nat) (w : World) (hB : At w w.heap.size A (celU l)) (hn : n = l.length) (hm : n ≤ 1000) :
    Calls Try.prog 33 #[.slice A n c, .int .u32 (v : Int)] w fun e w' => e = .returned (.bool (decide (v ∈ l))) ∧ Keeps w w' := by
  have HN := Lib.hid hn
  have HM := Lib.hid hm
  have HB := Lib.hid hB
  clear hn hm hB
  go_enter Try.func33, Try.ntmps33
  go_wp2_with fail
  go_loopw [5] (fun i wr => ∃ k : Nat, k ≤ l.length ∧ i = .int .i64 (k : Int) ∧ v ∉ l.take k ∧ Keeps w wr) (fun i _ => l.length - (intOf i).toNat)
  case atStart => exact ⟨0, by omega, rfl, by simp, keeps_refl _⟩
  case round =>
    obtain ⟨k, hk, rfl, hnot, hks⟩ := hrel
    have KS := Lib.hid hks
    have HB2 := Lib.hid ((HB.out.keep hks).more hks.size)
    clear hks
    by_cases hkl : k < l.length
    · obtain ⟨ad, hA, -, hc⟩ := At.get HB2.out (k := k) (by rw [celU_len]; exact hkl)
      subst hA
      obtain ⟨y, hy⟩ : ∃ y, l[k]? = some y := ⟨_, List.getElem?_eq_getElem hkl⟩
      have hx := celU_get l hy
      rw [hx] at hc
      have hkn : (k : Int) < (n : Int) := by have := HN.out; omega
      have hk0 : (0 : Int) ≤ (k : Int) := by omega
      have hkm : (k : Int) < 1001 := by have := HM.out; omega
      have HK := Lib.hid hkl
      have HNOT := Lib.hid hnot
      have HG := Lib.hid hy
      clear hx hy
      by_cases hv : v = y
      · subst hv
        have HMEM := Lib.hid (show v ∈ l from List.mem_of_getElem? HG.out)
        clear hkl hk hnot hkm HM
        go_wp2_with fail
        go_ret
        exact ⟨by simp [HMEM.out], KS.out⟩
      · have HV := Lib.hid hv
        have h4 : ((y : Int) == (v : Int)) = false := by simp only [beq_eq_false_iff_ne, ne_eq, Int.natCast_inj]; exact fun e => hv e.symm
        clear hkl hk hnot hv
        go_wp2_with fail
        go_roundw
        case rel =>
          refine ⟨k + 1, by have := HK.out; omega, by go_num, ?_, KS.out⟩
          rw [List.take_add_one, HG.out]
          simp only [Option.toList_some, List.mem_append, List.mem_singleton, not_or]
          exact ⟨HNOT.out, HV.out⟩
        case measure => have := HK.out; simp [intOf]; omega
    · have hkn : ¬ ((k : Int) < (n : Int)) := by have := HN.out; omega
      have HK := Lib.hid (show k = l.length by omega)
      have HNOT := Lib.hid hnot
      clear hk hkl hnot
      go_wp2_with fail
      go_ret
      refine ⟨?_, KS.out⟩
      have h := HNOT.out
      rw [HK.out, List.take_length] at h
      simp [h]

/-- a net: edges, whose edges are not to be had, who is avoided; where they lie -/
structure WNet where
  Ae : Option Addr
  ce : Nat
  Ab : Option Addr
  cb : Nat
  As : Option Addr
  cs : Nat
  E : List Ed
  B : List Nat
  Z : List Nat
def WNet.cells (x : WNet) : Array Value := #[.slice x.Ae x.E.length x.ce, .slice x.Ab x.B.length x.cb, .slice x.As x.Z.length x.cs]
structure WNetOk (w : World) (x : WNet) : Prop where
  e : At w w.heap.size x.Ae (edsC x.E)
  b : At w w.heap.size x.Ab (celU x.B)
  z : At w w.heap.size x.As (celU x.Z)
  ok : ∀ e ∈ x.E, EdOk e
  okB : ∀ v ∈ x.B, v < 4294967296
  okZ : ∀ v ∈ x.Z, v < 4294967296
theorem WNetOk.keep {w w' : World} {x : WNet} (h : WNetOk w x) (k : Keeps w w') : WNetOk w' x := ⟨(h.e.keep k).more k.size, (h.b.keep k).more k.size, (h.z.keep k).more k.size, h.ok, h.okB, h.okZ⟩
/-- the edges from a vertex -/
def outW (v : Nat) (l : List Ed) : List Ed := l.filter fun e => decide (e.t = v)
theorem outW_next {v : Nat} {l : List Ed} {k : Nat} {x : Ed} (hx : l[k]? = some x) (h : x.t = v) : outW v (l.take (k + 1)) = outW v (l.take k) ++ [x] := by
  unfold outW
  rw [List.take_add_one, hx, Option.toList_some, List.filter_append, List.filter_cons_of_pos (by simpa using h)]
  rfl
theorem outW_skip {v : Nat} {l : List Ed} {k : Nat} {x : Ed} (hx : l[k]? = some x) (h : ¬ x.t = v) : outW v (l.take (k + 1)) = outW v (l.take k) := by
  unfold outW
  rw [List.take_add_one, hx, Option.toList_some, List.filter_append, List.filter_cons_of_neg (by simpa using h)]
  simp
theorem outW_len (v : Nat) (l : List Ed) : (outW v l).length ≤ l.length := List.length_filter_le _ _
theorem edsC_putW (l : List Ed) (x : Ed) : edsC (l ++ [x]) = edsC l ++ edC x := by simp [edsC]
theorem edsC_onesW (l : List Ed) : ∀ u ∈ edsC l, u.oneCell' = true := by
  intro u hu
  unfold edsC at hu
  obtain ⟨e, -, he⟩ := List.mem_flatMap.1 hu
  simp only [edC, List.mem_cons, List.not_mem_nil, or_false] at he
  rcases he with rfl | rfl | rfl | rfl <;> rfl
def outN (x : WNet) : Outs := fun v => if v ∈ x.B then (7, []) else (0, outW v x.E)
def avN (x : WNet) : Nat → Bool := fun v => decide (v ∈ x.Z)

set_option maxHeartbeats 8000000 in
theorem netOut_any {w : World} {g : Nat} {x : WNet} (hb : Box w g 25 x.cells) (hx : WNetOk w x) (hE : x.E.length ≤ 300) (hBl : x.B.length ≤ 50) (v : Nat) (hv : v < 4294967296) :
    Calls Try.prog 17 #[.pointer (some ⟨g, 0, none⟩), .int .u32 (v : Int)] w fun e w' => ∃ sv, e = .returned (.tuple #[sv, .int .i64 ((outN x v).1 : Int)]) ∧
      Own w' w.heap.size 67 4 sv (outN x v).2.length (edsC (outN x v).2) ∧ Keeps w w' := by
  obtain ⟨i0, hi, hz0, hz1, hz2⟩ := info_parts info_edgeW
  have BX := Lib.hid hb
  have HB := Lib.hid hx.e
  have HOK := Lib.hid hx.ok
  have INC := Lib.hid (inU_any x.Ab x.B.length x.cb x.B v w hx.b rfl (by omega))
  obtain ⟨Ae, ce, Ab, cb, As, cs, E, B, Z⟩ := x
  simp only [WNet.cells] at BX HB HOK INC hE hBl
  obtain ⟨n, hn⟩ : ∃ n, E.length = n := ⟨_, rfl⟩
  rw [hn] at BX hE
  have HNL := Lib.hid hn
  have c1 : w.cell? ⟨g, 1, none⟩ = some (.slice Ab B.length cb) := BX.out.cell 1 rfl
  have lg := BX.out.lt
  have hv1 : (v : Int) < 4294967296 := by omega
  have hv0 : (0 : Int) ≤ (v : Int) := by omega
  have HE := Lib.hid hE
  clear hb hx hn hE hBl
  by_cases hin : v ∈ B
  · rw [decide_eq_true hin] at INC
    have e0 : outN ⟨Ae, ce, Ab, cb, As, cs, E, B, Z⟩ v = (7, []) := if_pos hin
    rw [e0]
    clear hin e0
    go_enter Try.func17, Try.ntmps17
    go_wp2_with fail
    refine INC.out.mono ?_
    rintro e w1 ⟨rfl, k1⟩
    go_wp2_with fail
    go_returns
    exact ⟨_, rfl, Own.nil _ _ _ _, k1⟩
  · rw [decide_eq_false hin] at INC
    have e0 : outN ⟨Ae, ce, Ab, cb, As, cs, E, B, Z⟩ v = (0, outW v E) := if_neg hin
    rw [e0]
    clear hin e0
    go_enter Try.func17, Try.ntmps17
    go_wp2_with fail
    refine INC.out.mono ?_
    rintro e w1 ⟨rfl, k1⟩
    have K1 := Lib.hid k1
    clear c1 k1
    go_wp2_with fail
    go_loopw [6, 7] (fun u i wr => ∃ k : Nat, k ≤ n ∧ i = .int .i64 k ∧ Own wr w.heap.size 67 4 u (outW v (E.take k)).length (edsC (outW v (E.take k))) ∧ Keeps w wr) (fun _ i _ => n - (intOf i).toNat)
    case atStart => exact ⟨0, Nat.zero_le _, rfl, Own.nil _ _ _ _, K1.out⟩
    case round =>
      obtain ⟨k, hk, rfl, hO, hkp⟩ := hrel
      have HO := Lib.hid hO
      have HK := Lib.hid hkp
      obtain ⟨Ao, co, rfl, hco, -, -, -⟩ := hO.form
      clear hO hkp
      have lg2 : g < wr.heap.size := Nat.lt_of_lt_of_le lg HK.out.size
      by_cases hlt : k < n
      · obtain ⟨x, hx⟩ : ∃ x, E[k]? = some x := ⟨_, List.getElem?_eq_getElem (by have := HNL.out; omega)⟩
        have c0 : wr.cell? ⟨g, 0, none⟩ = some (.slice Ae n ce) := (BX.out.keep HK.out).cell 0 rfl
        obtain ⟨ad, hA, _, hEd⟩ := eds_at HB.out hx
        rw [hA] at c0
        clear hA
        obtain ⟨a0, a1, a2, a3⟩ := hEd.keep HK.out
        have okx := HOK.out _ (List.mem_of_getElem? hx)
        have b1 := okx.t
        have HX := Lib.hid hx
        have hkn : (k : Int) < (n : Int) := by omega
        have hn3 : (n : Int) ≤ 300 := by have := HE.out; omega
        have ML := Lib.hid (show (outW v (E.take k)).length ≤ k by have := outW_len v (E.take k); rw [List.length_take] at this; omega)
        clear hEd okx hx b1
        by_cases he : x.t = v
        · have ON := Lib.hid (outW_next (v := v) HX.out he)
          have AT := Lib.hid (show ∀ W : World, At (W.alloc (.cells #[.int .u32 (x.t : Int), .int .u32 (x.h : Int), .int .u64 (x.x : Int), .int .u32 (x.m : Int)] 67)) (W.alloc (.cells #[.int .u32 (x.t : Int), .int .u32 (x.h : Int), .int .u64 (x.x : Int), .int .u32 (x.m : Int)] 67)).heap.size (some ⟨W.heap.size, 0, none⟩) (edC x) from fun W => At.new _ _ _ _ (by simp))
          obtain ⟨z0, z1, z2, z3⟩ := (EdBox.new wr 67 x).cells
          have e1 : (((x.t : Nat) : Int) == (v : Int)) = true := by rw [he]; simp
          clear he
          have mli : ((outW v (E.take k)).length : Int) ≤ 300 := by have := ML.out; omega
          have ML' := ML.out
          obtain ⟨ml, hML⟩ : ∃ ml, (outW v (E.take k)).length = ml := ⟨_, rfl⟩
          rw [hML] at HO mli ML' hco ⊢
          have HML := Lib.hid hML
          clear hML
          go_wp2_with (at_builtin; refine wpList_app _ rfl _ _ 22 rfl w.heap.size 67 i0 (.agg #[.int .u32 0, .int .u32 0, .int .u64 0, .int .u32 0]) 4 24 Try.underlying22 hi hz0 hz1 hz2 rfl (by decide) _ ml (edsC (outW v (E.take k))) rfl ((HO.out).keep (keeps_alloc _ _)) _ _ 1 1 (edC x) rfl rfl (AT.out wr) (by intro u hu; exact edsC_onesW [x] u (by simpa [edsC] using hu)) (by unfold maxLen; omega) (by omega) (keeps_trans HK.out (keeps_alloc _ _)).size ?_)
          intro v8 w8 o8 g8 b8
          have kA := keeps_trans HK.out (keeps_alloc wr (.cells #[.int .u32 (x.t : Int), .int .u32 (x.h : Int), .int .u64 (x.x : Int), .int .u32 (x.m : Int)] 67))
          have k8 : Keeps w w8 := Below.grown kA g8 kA.size (fun g hg => (HO.out.lt g hg).1)
          have O8 := Lib.hid (show Own w8 w.heap.size 67 4 v8 (outW v (E.take (k + 1))).length (edsC (outW v (E.take (k + 1)))) by
            rw [ON.out, edsC_putW, List.length_append, HML.out]
            exact o8)
          clear o8 g8 b8 z0 z1 z2 z3
          go_wp2_with fail
          refine ⟨⟨k + 1, by omega, by go_num, O8.out, k8⟩, ?_⟩
          simp [intOf]; omega
        · have ON := Lib.hid (outW_skip (v := v) HX.out he)
          have e1 : (((x.t : Nat) : Int) == (v : Int)) = false := by rw [beq_eq_false_iff_ne]; omega
          go_wp2_with fail
          refine ⟨⟨k + 1, by omega, by go_num, by rw [ON.out]; exact HO.out, HK.out⟩, ?_⟩
          simp [intOf]; omega
      · obtain rfl : k = n := by omega
        have c0 : wr.cell? ⟨g, 0, none⟩ = some (.slice Ae k ce) := (BX.out.keep HK.out).cell 0 rfl
        have E1 := Lib.hid (show E.take k = E by rw [← HNL.out, List.take_length])
        rw [E1.out] at HO hco ⊢
        go_wp2_with fail
        go_returns
        exact ⟨_, rfl, HO.out, HK.out⟩
set_option maxHeartbeats 1000000 in
theorem netAvoid_any {w : World} {g : Nat} {x : WNet} (hb : Box w g 25 x.cells) (hx : WNetOk w x) (hZl : x.Z.length ≤ 50) (v : Nat) :
    Calls Try.prog 15 #[.pointer (some ⟨g, 0, none⟩), .int .u32 (v : Int)] w fun e w' => e = .returned (.bool (avN x v)) ∧ Keeps w w' := by
  have INC := Lib.hid (inU_any x.As x.Z.length x.cs x.Z v w hx.z rfl (by omega))
  have c2 : w.cell? ⟨g, 2, none⟩ = some (.slice x.As x.Z.length x.cs) := hb.cell 2 rfl
  have lg := hb.lt
  clear hb hx hZl
  go_enter Try.func15, Try.ntmps15
  go_wp2_with fail
  refine INC.out.mono ?_
  rintro e w1 ⟨rfl, k1⟩
  go_wp2_with fail
  go_ret
  exact ⟨rfl, k1⟩
theorem Own.below {w : World} {B : Nat} {e : TypeId} {size n : Nat} {v : Value} {xs : List Value} (h : Own w B e size v n xs) : ∃ A c, v = .slice A n c ∧ At w w.heap.size A xs ∧ ∀ ad, A = some ad → B ≤ ad.block ∧ ad.block < w.heap.size := by
  obtain ⟨A, c, rfl, -, -, -, h6⟩ := h.form
  exact ⟨A, c, rfl, h.at_, fun ad e => (h6 ad e).2⟩
/-- a net's functions, handed to a search -/
def netC (w0 : World) (g : Nat) (x : WNet) (hb : Box w0 g 25 x.cells) (hx : WNetOk w0 x) (hE : x.E.length ≤ 300) (hBl : x.B.length ≤ 50) (hZl : x.Z.length ≤ 50) : Caller (outN x) (avN x) where
  go := 17
  ro := .pointer (some ⟨g, 0, none⟩)
  ga := 15
  ra := .pointer (some ⟨g, 0, none⟩)
  J a D w := Keeps w0 w ∧ ∀ i, D i ↔ i < w0.heap.size
  eo := enters_of Try.func17 rfl rfl
  ea := enters_of Try.func15 rfl rfl
  lt := by
    rintro a D w ⟨k, hD⟩ i hi
    exact Nat.lt_of_lt_of_le ((hD i).1 hi) k.size
  same := by
    rintro a D w w' T ⟨k, hD⟩ o hT
    exact ⟨⟨o.os.trans k.os, o.tape.trans k.tape, o.output.trans k.output, Nat.le_trans k.size o.size, fun i hi => (o.block i (Nat.lt_of_lt_of_le hi k.size) (fun e => hT i e ((hD i).2 hi))).trans (k.block i hi)⟩, hD⟩
  out := by
    rintro a D w v ⟨k, hD⟩ hv hl
    refine (netOut_any (hb.keep k) (hx.keep k) hE hBl v hv).mono ?_
    rintro e w' ⟨sv, rfl, hO, k2⟩
    obtain ⟨A, c, rfl, hA, hB⟩ := hO.below
    exact ⟨D, A, _, c, rfl, ⟨keeps_trans k k2, hD⟩, Turns.of_keeps k2, rfl, hA, hB⟩
  avoid := by
    rintro a D w v ⟨k, hD⟩ hv
    exact netAvoid_any (hb.keep k) (hx.keep k) hZl v
  ok := by
    intro v hv
    unfold outN
    split
    · simp
    · refine ⟨?_, fun e he => hx.ok e (List.mem_filter.1 he).1⟩
      have := outW_len v x.E
      simp only
      omega
end Go.Proofs.Ytkijfbnibfbldaa
