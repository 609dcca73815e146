/- What is done with a stream: three cells each. (Written by mkops11.py.) -/
import Derived.Test.YtmholhjdpkfleaaDoorQLawDisk6
import Derived.Test.YtmholhjdpkfleaaDoorQPfStr
namespace Go.Proofs.YtmholhjdpkfleaaDoor
open Go.RowKit
set_option linter.unusedSimpArgs false
set_option linter.unusedVariables false
set_option maxRecDepth 100000

structure Op11 where
  kind : Int
  i : Int
  A : Option Addr
  len : Nat
  c : Nat
  b : List UInt8
def op11C (o : Op11) : List Value := [.int .i64 o.kind, .int .i64 o.i, .slice o.A o.len o.c]
theorem op11C_length (o : Op11) : (op11C o).length = 3 := rfl
structure Op11Ok (W : World) (o : Op11) : Prop where
  kind : IsI o.kind
  i : IsI o.i
  len : o.len = o.b.length
  c : o.len ≤ o.c
  m : o.c ≤ maxLen
  b : At W W.heap.size o.A (cel o.b)
theorem Op11Ok.keep_ {W W' : World} {o : Op11} (h : Op11Ok W o) (k : Keeps W W') : Op11Ok W' o := ⟨h.kind, h.i, h.len, h.c, h.m, h.b.low k⟩
structure Ops11At (W : World) (A : Option Addr) (l : List Op11) : Prop where
  cells : At W W.heap.size A (l.flatMap op11C)
  ok : ∀ o ∈ l, Op11Ok W o
theorem Ops11At.keep {W W' : World} {A : Option Addr} {l : List Op11} (h : Ops11At W A l) (k : Keeps W W') : Ops11At W' A l :=
  ⟨h.cells.low k, fun o ho => (h.ok o ho).keep_ k⟩
theorem Ops11At.cell0 {W : World} {A : Option Addr} {l : List Op11} (h : Ops11At W A l) {i : Nat} {o : Op11} (ho : l[i]? = some o) :
    ∃ ad, A = some ad ∧ ∀ j, j < 3 → W.cell? ((ad.add (i * 3)).add j) = (op11C o)[j]? := by
  have hi : i < l.length := (List.getElem?_eq_some_iff.1 ho).1
  have hlen := flatMap_length op11C 3 op11C_length l
  obtain ⟨ad, e, -, hc⟩ := At.get h.cells (k := i * 3) (by rw [hlen]; omega)
  refine ⟨ad, e, fun j hj => ?_⟩
  obtain ⟨ad', e', -, hc'⟩ := At.get h.cells (k := i * 3 + j) (by rw [hlen]; omega)
  obtain rfl := Option.some.inj (e.symm.trans e')
  rw [addr_add, hc', flatMap_get op11C 3 op11C_length l hj, ho]
  rfl
theorem Ops11At.cell {W : World} {A : Option Addr} {l : List Op11} (h : Ops11At W A l) {i j : Nat} {o : Op11} (ho : l[i]? = some o) (hj : j < 3) (h0 : 0 < j) :
    ∃ ad, A = some ad ∧ W.cell? ⟨(ad.add (i * 3)).block, (ad.add (i * 3)).off + j, none⟩ = (op11C o)[j]? := by
  obtain ⟨ad, e, hc⟩ := h.cell0 ho
  exact ⟨ad, e, by rw [← hc j hj, add_pos6 _ _ h0]⟩
theorem Ops11At.three {W : World} {A : Option Addr} {l : List Op11} (h : Ops11At W A l) {i : Nat} {o : Op11} (ho : l[i]? = some o) {ad : Addr} (e : A = some ad) :
    W.cell? (ad.add (i * 3)) = some (.int .i64 o.kind) ∧ W.cell? ⟨(ad.add (i * 3)).block, (ad.add (i * 3)).off + 1, none⟩ = some (.int .i64 o.i) ∧ W.cell? ⟨(ad.add (i * 3)).block, (ad.add (i * 3)).off + 2, none⟩ = some (.slice o.A o.len o.c) := by
  obtain ⟨ad', e', q⟩ := h.cell0 ho
  obtain rfl := Option.some.inj (e.symm.trans e')
  have c0 := q 0 (by decide)
  have c1 := q 1 (by decide)
  have c2 := q 2 (by decide)
  rw [add_pos6 _ _ (by decide)] at c1 c2
  exact ⟨by simpa [op11C, Addr.add] using c0, by simpa [op11C] using c1, by simpa [op11C] using c2⟩
/-- not much -/
structure Few11 (l : List Op11) : Prop where
  most : l.length ≤ 120
  each : ∀ o ∈ l, o.len ≤ 65536
def Vast11V (w : World) (fr : Int) (l : List Op11) (e : Ending) (w' : World) : Prop := ∃ v, e = .returned (.bool v) ∧ Keeps w w' ∧ (v = false → Few11 l ∧ fr ≤ 64)
set_option maxHeartbeats 8000000 in
theorem vast11_any (fr : Int) (A : Option Addr) (n c : Nat) (l : List Op11) (w : World) (h : Ops11At w A l) (hn : n = l.length) (hm : n ≤ 9223372036854775807) :
    Calls Tryd.prog 7 #[.int .i64 fr, .slice A n c] w (Vast11V w fr l) := by
  by_cases hb : 120 < n
  · have hbi : (120 : Int) < (n : Int) := by omega
    clear h hn hb
    go_enter Tryd.func7, Tryd.ntmps7
    go_wp2_with fail
    go_ret
    exact ⟨true, rfl, keeps_refl _, fun h => by cases h⟩
  · have hbi : (n : Int) ≤ 120 := by omega
    have hb1 : decide ((120 : Int) < (n : Int)) = false := decide_eq_false (by omega)
    have hb2 : decide (120 < n) = false := decide_eq_false hb
    by_cases hf : 64 < fr
    · clear h hn hb
      go_enter Tryd.func7, Tryd.ntmps7
      go_wp2_with fail
      go_ret
      exact ⟨true, rfl, keeps_refl _, fun h => by cases h⟩
    · have hf2 : decide (64 < fr) = false := decide_eq_false hf
      have H := Lib.hid h
      have HN := Lib.hid hn
      clear h hn hb
      go_enter Tryd.func7, Tryd.ntmps7
      go_wp2_with fail
      go_loopw [5, 6] (fun t i wr => ∃ (j s : Nat), j ≤ n ∧ i = .int .i64 j ∧ t = .int .i64 (s : Int) ∧ s ≤ 65536 ∧ (∀ o ∈ l.take j, o.len ≤ 65536) ∧ Keeps w wr) (fun _ i _ => n - (intOf i).toNat)
      case atStart => exact ⟨0, 0, Nat.zero_le _, rfl, rfl, by omega, by simp, keeps_refl _⟩
      case round =>
        obtain ⟨j, s, hj, rfl, rfl, hs, hpre, kr⟩ := hrel
        have HP := Lib.hid hpre
        have KR := Lib.hid kr
        clear hpre kr
        have hsi : (s : Int) ≤ 65536 := by omega
        by_cases hlt : j < n
        · have hjn : (j : Int) < (n : Int) := by omega
          obtain ⟨o, ho⟩ : ∃ o, l[j]? = some o := ⟨_, List.getElem?_eq_getElem (by have := HN.out; omega)⟩
          have HO := Lib.hid ho
          have G := H.out.keep KR.out
          obtain ⟨ad, rfl, q5⟩ := G.cell ho (j := 2) (by decide) (by decide)
          simp only [op11C, List.getElem?_cons_zero, List.getElem?_cons_succ] at q5
          obtain ⟨x5, hx5⟩ : ∃ x, min o.len 131072 = x := ⟨_, rfl⟩
          have hmin : ∀ (ts : Array TypeId) (t : TypeId) (w : World), (Builtin.min_ ts t #[.int .i64 (o.len : Int), .int .i64 131072]).run Tryd.prog w = .ok (.int .i64 (x5 : Int)) w := by
            intro ts t w
            rw [run_min_int2]
            congr 2
            rw [← hx5]
            split <;> omega
          have X5 := Lib.hid hx5
          have b5 : (x5 : Int) ≤ 131072 := by omega
          clear ho G hx5 hs
          by_cases big : 65536 < s + x5
          · have hbig : (65536 : Int) < (s : Int) + x5 := by omega
            clear big
            go_wp2_with fail
            go_ret
            exact ⟨true, rfl, by first | exact KR.out | exact keeps_trans KR.out (keeps_drewN _ _) | exact keeps_trans KR.out (keeps_drew _), fun h => by cases h⟩
          · have hbig : (s : Int) + x5 ≤ 65536 := by omega
            have hbd : decide ((65536 : Int) < (s : Int) + x5) = false := decide_eq_false (by omega)
            have hsm : (((s + x5 : Nat)) : Int) = (s : Int) + x5 := by omega
            have HSM := Lib.hid hsm
            have NXT := Lib.hid (show ∀ o' ∈ l.take (j + 1), o'.len ≤ 65536 from fun o' ho' => by
              rw [List.take_add_one, HO.out] at ho'
              simp only [Option.toList_some, List.mem_append, List.mem_singleton] at ho'
              rcases ho' with h1 | rfl
              · exact HP.out o' h1
              · have := X5.out; omega)
            clear big hsm
            go_wp2_with fail
            go_roundw
            case rel => exact ⟨j + 1, s + x5, by omega, by go_num, by rw [HSM.out], by omega, NXT.out, by first | exact KR.out | exact keeps_trans KR.out (keeps_drewN _ _) | exact keeps_trans KR.out (keeps_drew _)⟩
            case measure => simp [intOf] <;> omega
        · obtain rfl : j = n := by omega
          have FEW := Lib.hid (show Few11 l from ⟨by have := HN.out; omega, fun o ho => HP.out o (by rw [HN.out, List.take_length]; exact ho)⟩)
          have hf3 : fr ≤ 64 := by omega
          clear hlt hj
          go_wp2_with fail
          go_ret
          exact ⟨false, rfl, KR.out, fun _ => ⟨FEW.out, hf3⟩⟩
end Go.Proofs.YtmholhjdpkfleaaDoor
/- Arguments of type milepostlaw11.Op, and slices of such, opened. (Written by mkops11.py.) -/
namespace Go.Proofs.YtmholhjdpkfleaaDoor
open Go.RowKit
open Go.ChangeShapes Go.WideShapes Go.ChangeAt Go.Deep
set_option linter.unusedVariables false
set_option maxRecDepth 100000
set_option linter.unusedSimpArgs false

theorem flat_op11 : flat Tryd.prog 6 33 = some [3, 3, 31] := by kernel_rfl
theorem cells_op11 : Tryd.prog.cellsOf 33 = [3, 3, 31].length := by kernel_rfl
section
variable {H : Type} {enc : TypeId × Value → H} {W : World}
theorem op11_leaves {c0 c1 c2 : Value} (l0 : LeafT enc W 3 c0) (l1 : LeafT enc W 3 c1) (l2 : LeafT enc W 31 c2) :
    ∃ o : Op11, [c0, c1, c2] = op11C o ∧ Op11Ok W o := by
  obtain ⟨z0, rfl, q0⟩ := l0.int Tryd.underlying3
  obtain ⟨z1, rfl, q1⟩ := l1.int Tryd.underlying3
  obtain ⟨A3, n3, k3, rfl⟩ := leaf_slice Tryd.underlying31 l2
  obtain ⟨f3, y3, h3⟩ := l2
  obtain ⟨b3, x1, x2, x3, x4⟩ := came_of (d := y3.1) (p := y3.2) ⟨f3, h3⟩
  exact ⟨⟨z0, z1, A3, n3, k3, b3⟩, rfl, ⟨bounds_i64 q0, bounds_i64 q1, x1, x2, x3, x4⟩⟩
theorem op11_of {rc : Reach} {b0 : Nat} {v : Value} {d : DataW H} {p : List MemPlace} (hv : Value.okWide Tryd.prog W rc b0 33 v) (hT : DataW.Trod enc Tryd.prog W 0 (fun _ => true) true 33 v d p) :
    ∃ o : Op11, v = .agg (op11C o).toArray ∧ Op11Ok W o := by
  obtain ⟨cs, rfl, hl, hf⟩ := flat_agg Tryd.underlying33 flat_op11 cells_op11 hv hT
  match cs, hl with
  | [d0, d1, d2], _ =>
    obtain ⟨c0, hc0, lf0⟩ := hf 0 3 rfl
    obtain ⟨c1, hc1, lf1⟩ := hf 1 3 rfl
    obtain ⟨c2, hc2, lf2⟩ := hf 2 31 rfl
    obtain rfl := Option.some.inj hc0
    obtain rfl := Option.some.inj hc1
    obtain rfl := Option.some.inj hc2
    obtain ⟨o, ho, ok⟩ := op11_leaves lf0 lf1 lf2
    refine ⟨o, ?_, ok⟩
    rw [← ho]
theorem ops11_of {A : Option Addr} {n c : Nat} {d : DataW H} {p : List MemPlace} (hT : DataW.Trod enc Tryd.prog W 0 (fun _ => true) true 22 (.slice A n c) d p) :
    ∃ l : List Op11, n = l.length ∧ n ≤ c ∧ c ≤ maxLen ∧ Ops11At W A l ∧ True := by
  obtain ⟨fuel, hf⟩ := hT
  obtain ⟨h1, h2, h3, h4⟩ := flat_slice Tryd.underlying22 flat_op11 cells_op11 ⟨fuel, _, hf⟩
  obtain ⟨l, hl, hq⟩ := list_of (Q := fun i (o : Op11) => Op11Ok W o ∧ ∃ ad, A = some ad ∧ ∀ j u, (op11C o)[j]? = some u → W.cell? (ad.add (i * 3 + j)) = some u) n fun i hi => by
    obtain ⟨ad, rfl, hc⟩ := h4 i hi
    obtain ⟨c0, hc0, lf0⟩ := hc 0 3 rfl
    obtain ⟨c1, hc1, lf1⟩ := hc 1 3 rfl
    obtain ⟨c2, hc2, lf2⟩ := hc 2 31 rfl
    obtain ⟨o, ho, ok⟩ := op11_leaves lf0 lf1 lf2
    refine ⟨o, ok, ad, rfl, fun j u hu => ?_⟩
    have hj : j < 3 := by have := (List.getElem?_eq_some_iff.1 hu).1; rwa [op11C_length] at this
    rw [← ho] at hu
    rcases (show j = 0 ∨ j = 1 ∨ j = 2 by omega) with rfl | rfl | rfl
    · obtain rfl := Option.some.inj hu; exact hc0
    · obtain rfl := Option.some.inj hu; exact hc1
    · obtain rfl := Option.some.inj hu; exact hc2
  refine ⟨l, hl.symm, h1, h2, ⟨?_, fun o ho => ?_⟩, trivial⟩
  · rcases A with _ | ad
    · obtain ⟨rfl, _⟩ := h3 rfl
      left
      have : l = [] := List.eq_nil_of_length_eq_zero hl
      subst this
      rfl
    · refine at_rows op11C 3 op11C_length (by decide) l hl ad (fun _ => rfl) fun i x hx => ?_
      obtain ⟨_, ad', e', hc⟩ := hq i x hx
      obtain rfl := Option.some.inj e'
      exact hc
  · obtain ⟨i, hi⟩ := List.getElem?_of_mem ho
    exact (hq i o hi).1
end
end Go.Proofs.YtmholhjdpkfleaaDoor
