/- No pool. -/
import Derived.Test.YtamboappeahgpaaGreatDoorQPoolDo
import Derived.Test.YtamboappeahgpaaGreatDoorQLawDisk6
import Derived.Test.YtamboappeahgpaaGreatDoorQOpenInt
namespace Go.Proofs.YtamboappeahgpaaGreatDoor
open Go.RowKit
set_option linter.unusedSimpArgs false
set_option linter.unusedVariables false
set_option maxRecDepth 100000

/-- no state -/
def NoJ (w0 : World) (S : Nat → Prop) (w : World) : Prop := (∀ i, ¬ S i) ∧ Keeps w0 w
end Go.Proofs.YtamboappeahgpaaGreatDoor
/- What is done with a pool: four cells each. (Written by mkops10.py.) -/
namespace Go.Proofs.YtamboappeahgpaaGreatDoor
open Go.RowKit
set_option linter.unusedSimpArgs false
set_option linter.unusedVariables false
set_option maxRecDepth 100000

structure Op10 where
  kind : Int
  name : List UInt8
  k : Int
  A : Option Addr
  len : Nat
  c : Nat
  b : List UInt8
def op10C (o : Op10) : List Value := [.int .i64 o.kind, .string (str o.name), .int .i64 o.k, .slice o.A o.len o.c]
theorem op10C_length (o : Op10) : (op10C o).length = 4 := rfl
structure Op10Ok (W : World) (o : Op10) : Prop where
  kind : IsI o.kind
  name : o.name.length ≤ maxLen
  k : IsI o.k
  len : o.len = o.b.length
  c : o.len ≤ o.c
  m : o.c ≤ maxLen
  b : At W W.heap.size o.A (cel o.b)
theorem Op10Ok.keep_ {W W' : World} {o : Op10} (h : Op10Ok W o) (k : Keeps W W') : Op10Ok W' o := ⟨h.kind, h.name, h.k, h.len, h.c, h.m, h.b.low k⟩
structure Ops10At (W : World) (A : Option Addr) (l : List Op10) : Prop where
  cells : At W W.heap.size A (l.flatMap op10C)
  ok : ∀ o ∈ l, Op10Ok W o
theorem Ops10At.keep {W W' : World} {A : Option Addr} {l : List Op10} (h : Ops10At W A l) (k : Keeps W W') : Ops10At W' A l :=
  ⟨h.cells.low k, fun o ho => (h.ok o ho).keep_ k⟩
theorem Ops10At.cell0 {W : World} {A : Option Addr} {l : List Op10} (h : Ops10At W A l) {i : Nat} {o : Op10} (ho : l[i]? = some o) :
    ∃ ad, A = some ad ∧ ∀ j, j < 4 → W.cell? ((ad.add (i * 4)).add j) = (op10C o)[j]? := by
  have hi : i < l.length := (List.getElem?_eq_some_iff.1 ho).1
  have hlen := flatMap_length op10C 4 op10C_length l
  obtain ⟨ad, e, -, hc⟩ := At.get h.cells (k := i * 4) (by rw [hlen]; omega)
  refine ⟨ad, e, fun j hj => ?_⟩
  obtain ⟨ad', e', -, hc'⟩ := At.get h.cells (k := i * 4 + j) (by rw [hlen]; omega)
  obtain rfl := Option.some.inj (e.symm.trans e')
  rw [addr_add, hc', flatMap_get op10C 4 op10C_length l hj, ho]
  rfl
theorem Ops10At.cell {W : World} {A : Option Addr} {l : List Op10} (h : Ops10At W A l) {i j : Nat} {o : Op10} (ho : l[i]? = some o) (hj : j < 4) (h0 : 0 < j) :
    ∃ ad, A = some ad ∧ W.cell? ⟨(ad.add (i * 4)).block, (ad.add (i * 4)).off + j, none⟩ = (op10C o)[j]? := by
  obtain ⟨ad, e, hc⟩ := h.cell0 ho
  exact ⟨ad, e, by rw [← hc j hj, add_pos6 _ _ h0]⟩
/-- not much -/
structure Few10 (l : List Op10) : Prop where
  most : l.length ≤ 150
  each : ∀ o ∈ l, o.len ≤ 65536 ∧ o.name.length ≤ 65536
def Vast10V (w : World) (fr : Int) (l : List Op10) (e : Ending) (w' : World) : Prop := ∃ v, e = .returned (.bool v) ∧ Keeps w w' ∧ (v = false → Few10 l ∧ fr ≤ 64)
set_option maxHeartbeats 8000000 in
theorem vast10_any (fr : Int) (A : Option Addr) (n c : Nat) (l : List Op10) (w : World) (h : Ops10At w A l) (hn : n = l.length) (hm : n ≤ 9223372036854775807) :
    Calls Tryz.prog 19 #[.int .i64 fr, .slice A n c] w (Vast10V w fr l) := by
  by_cases hb : 150 < n
  · have hbi : (150 : Int) < (n : Int) := by omega
    clear h hn hb
    go_enter Tryz.func19, Tryz.ntmps19
    go_wp2_with fail
    go_ret
    exact ⟨true, rfl, keeps_refl _, fun h => by cases h⟩
  · have hbi : (n : Int) ≤ 150 := by omega
    have hb1 : decide ((150 : Int) < (n : Int)) = false := decide_eq_false (by omega)
    have hb2 : decide (150 < n) = false := decide_eq_false hb
    by_cases hf : 64 < fr
    · clear h hn hb
      go_enter Tryz.func19, Tryz.ntmps19
      go_wp2_with fail
      go_ret
      exact ⟨true, rfl, keeps_refl _, fun h => by cases h⟩
    · have hf2 : decide (64 < fr) = false := decide_eq_false hf
      have H := Lib.hid h
      have HN := Lib.hid hn
      clear h hn hb
      go_enter Tryz.func19, Tryz.ntmps19
      go_wp2_with fail
      go_loopw [5, 6] (fun t i wr => ∃ (j s : Nat), j ≤ n ∧ i = .int .i64 j ∧ t = .int .i64 (s : Int) ∧ s ≤ 65536 ∧ (∀ o ∈ l.take j, o.len ≤ 65536 ∧ o.name.length ≤ 65536) ∧ Keeps w wr) (fun _ i _ => n - (intOf i).toNat)
      case atStart => exact ⟨0, 0, Nat.zero_le _, rfl, rfl, by omega, by simp, keeps_refl _⟩
      case round =>
        obtain ⟨j, s, hj, rfl, rfl, hs, hpre, kr⟩ := hrel
        have HP := Lib.hid hpre
        have KR := Lib.hid kr
        clear hpre kr
        have hsi : (s : Int) ≤ 65536 := by omega
        by_cases hlt : j < n
        · have hjn : (j : Int) < (n : Int) := by omega
          obtain ⟨o, ho⟩ : ∃ o, l[j]? = some o := ⟨_, List.getElem?_eq_getElem (by have := HN.out; omega)⟩
          have HO := Lib.hid ho
          have G := H.out.keep KR.out
          obtain ⟨ad, rfl, q5⟩ := G.cell ho (j := 3) (by decide) (by decide)
          obtain ⟨a6, h6, q6⟩ := G.cell ho (j := 1) (by decide) (by decide)
          obtain rfl := Option.some.inj h6
          simp only [op10C, List.getElem?_cons_zero, List.getElem?_cons_succ] at q5 q6
          obtain ⟨x5, hx5⟩ : ∃ x, min o.len 131072 = x := ⟨_, rfl⟩
          obtain ⟨x6, hx6⟩ : ∃ x, min o.name.length 131072 = x := ⟨_, rfl⟩
          have m5 := min_nat o.len
          have m6 := min_nat o.name.length
          rw [hx5] at m5
          rw [hx6] at m6
          have hsz := str_size o.name
          have X5 := Lib.hid hx5
          have X6 := Lib.hid hx6
          have b5 : (x5 : Int) ≤ 131072 := by omega
          have b6 : (x6 : Int) ≤ 131072 := by omega
          clear ho G h6 hx5 hx6 hs
          generalize str o.name = sv at *
          go_wp2_with fail
          go_quiet (fail)
          have k2 := Lib.hid (keeps_trans KR.out (keeps_drewN wr nq))
          by_cases big : 65536 < s + x5 + x6
          · have hbig : (65536 : Int) < (s : Int) + x5 + x6 := by omega
            clear big
            go_wp2_with fail
            go_ret
            exact ⟨true, rfl, k2.out, fun h => by cases h⟩
          · have hbig : (s : Int) + x5 + x6 ≤ 65536 := by omega
            have hsm : (((s + x5 + x6 : Nat)) : Int) = (s : Int) + x5 + x6 := by omega
            have NXT := Lib.hid (show ∀ o' ∈ l.take (j + 1), o'.len ≤ 65536 ∧ o'.name.length ≤ 65536 from fun o' ho' => by
              rw [List.take_add_one, HO.out] at ho'
              simp only [Option.toList_some, List.mem_append, List.mem_singleton] at ho'
              rcases ho' with h1 | rfl
              · exact HP.out o' h1
              · have := X5.out; have := X6.out; omega)
            clear big
            go_wp2_with fail
            go_roundw
            case rel => exact ⟨j + 1, s + x5 + x6, by omega, by go_num, by rw [hsm], by omega, NXT.out, k2.out⟩
            case measure => simp [intOf] <;> omega
        · obtain rfl : j = n := by omega
          have FEW := Lib.hid (show Few10 l from ⟨by have := HN.out; omega, fun o ho => HP.out o (by rw [HN.out, List.take_length]; exact ho)⟩)
          have hf3 : fr ≤ 64 := by omega
          clear hlt hj
          go_wp2_with fail
          go_ret
          exact ⟨false, rfl, KR.out, fun _ => ⟨FEW.out, hf3⟩⟩
end Go.Proofs.YtamboappeahgpaaGreatDoor
/- Arguments of type milepostlaw10.Op, and slices of such, opened. (Written by mkops10.py.) -/
namespace Go.Proofs.YtamboappeahgpaaGreatDoor
open Go.RowKit
open Go.ChangeShapes Go.WideShapes Go.ChangeAt Go.Deep
set_option linter.unusedVariables false
set_option maxRecDepth 100000
set_option linter.unusedSimpArgs false

theorem flat_op10 : flat Tryz.prog 6 52 = some [3, 9, 3, 34] := by kernel_rfl
theorem cells_op10 : Tryz.prog.cellsOf 52 = [3, 9, 3, 34].length := by kernel_rfl
section
variable {H : Type} {enc : TypeId × Value → H} {W : World}
theorem op10_leaves {c0 c1 c2 c3 : Value} (l0 : LeafT enc W 3 c0) (l1 : LeafT enc W 9 c1) (l2 : LeafT enc W 3 c2) (l3 : LeafT enc W 34 c3) :
    ∃ o : Op10, [c0, c1, c2, c3] = op10C o ∧ Op10Ok W o := by
  obtain ⟨z0, rfl, q0⟩ := l0.int Tryz.underlying3
  obtain ⟨s1, rfl, m1⟩ := leaf_str l1
  obtain ⟨z2, rfl, q2⟩ := l2.int Tryz.underlying3
  obtain ⟨A3, n3, k3, rfl⟩ := leaf_slice Tryz.underlying34 l3
  obtain ⟨f3, y3, h3⟩ := l3
  obtain ⟨b3, x1, x2, x3, x4⟩ := came_of (d := y3.1) (p := y3.2) ⟨f3, h3⟩
  exact ⟨⟨z0, s1, z2, A3, n3, k3, b3⟩, rfl, ⟨bounds_i64 q0, m1, bounds_i64 q2, x1, x2, x3, x4⟩⟩
theorem ops10_of {A : Option Addr} {n c : Nat} {d : DataW H} {p : List MemPlace} (hT : DataW.Trod enc Tryz.prog W 0 (fun _ => true) true 54 (.slice A n c) d p) :
    ∃ l : List Op10, n = l.length ∧ n ≤ c ∧ c ≤ maxLen ∧ Ops10At W A l ∧ True := by
  obtain ⟨fuel, hf⟩ := hT
  obtain ⟨h1, h2, h3, h4⟩ := flat_slice Tryz.underlying54 flat_op10 cells_op10 ⟨fuel, _, hf⟩
  obtain ⟨l, hl, hq⟩ := list_of (Q := fun i (o : Op10) => Op10Ok W o ∧ ∃ ad, A = some ad ∧ ∀ j u, (op10C o)[j]? = some u → W.cell? (ad.add (i * 4 + j)) = some u) n fun i hi => by
    obtain ⟨ad, rfl, hc⟩ := h4 i hi
    obtain ⟨c0, hc0, lf0⟩ := hc 0 3 rfl
    obtain ⟨c1, hc1, lf1⟩ := hc 1 9 rfl
    obtain ⟨c2, hc2, lf2⟩ := hc 2 3 rfl
    obtain ⟨c3, hc3, lf3⟩ := hc 3 34 rfl
    obtain ⟨o, ho, ok⟩ := op10_leaves lf0 lf1 lf2 lf3
    refine ⟨o, ok, ad, rfl, fun j u hu => ?_⟩
    have hj : j < 4 := by have := (List.getElem?_eq_some_iff.1 hu).1; rwa [op10C_length] at this
    rw [← ho] at hu
    rcases (show j = 0 ∨ j = 1 ∨ j = 2 ∨ j = 3 by omega) with rfl | rfl | rfl | rfl
    · obtain rfl := Option.some.inj hu; exact hc0
    · obtain rfl := Option.some.inj hu; exact hc1
    · obtain rfl := Option.some.inj hu; exact hc2
    · obtain rfl := Option.some.inj hu; exact hc3
  refine ⟨l, hl.symm, h1, h2, ⟨?_, fun o ho => ?_⟩, trivial⟩
  · rcases A with _ | ad
    · obtain ⟨rfl, _⟩ := h3 rfl
      left
      have : l = [] := List.eq_nil_of_length_eq_zero hl
      subst this
      rfl
    · refine at_rows op10C 4 op10C_length (by decide) l hl ad (fun _ => rfl) fun i x hx => ?_
      obtain ⟨_, ad', e', hc⟩ := hq i x hx
      obtain rfl := Option.some.inj e'
      exact hc
  · obtain ⟨i, hi⟩ := List.getElem?_of_mem ho
    exact (hq i o hi).1
end
end Go.Proofs.YtamboappeahgpaaGreatDoor
