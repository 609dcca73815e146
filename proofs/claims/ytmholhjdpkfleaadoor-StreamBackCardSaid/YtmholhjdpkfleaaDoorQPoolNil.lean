/- No pool. -/
import Derived.Test.YtmholhjdpkfleaaDoorQPoolDo
import Derived.Test.YtmholhjdpkfleaaDoorQLawDisk6
namespace Go.Proofs.YtmholhjdpkfleaaDoor
open Go.RowKit
set_option linter.unusedSimpArgs false
set_option linter.unusedVariables false
set_option maxRecDepth 100000

theorem nil10_find (w : World) (sv : ByteArray) : Calls Tryd.prog 31 #[.pointer none, .string sv] w fun e w' => e = .returned (.tuple #[.pointer none, .int .i64 0, .int .i64 2]) ∧ Keeps w w' := by
  go_enter Tryd.func31, Tryd.ntmps31
  go_wp2_with fail
  go_returns
  exact ⟨rfl, keeps_refl _⟩
theorem nil10_get (w : World) (sv : ByteArray) (k : Int) : Calls Tryd.prog 35 #[.pointer none, .string sv, .int .i64 k] w fun e w' => e = .returned (.tuple #[.pointer none, .int .i64 2]) ∧ Keeps w w' := by
  have C := fun V => nil10_find V sv
  have CC := Lib.hid C
  clear C
  go_enter Tryd.func35, Tryd.ntmps35
  go_wp2_with fail
  refine (CC.out _).mono ?_
  rintro e w1 ⟨rfl, k1⟩
  have K1 := Lib.hid k1
  clear k1
  go_wp2_with fail
  go_returns
  exact ⟨rfl, K1.out⟩
theorem nil10_create (w : World) (sv : ByteArray) : Calls Tryd.prog 22 #[.pointer none, .string sv] w fun e w' => e = .returned (.int .i64 2) ∧ Keeps w w' := by
  go_enter Tryd.func22, Tryd.ntmps22
  go_wp2_with fail
  go_returns
  exact ⟨rfl, keeps_refl _⟩
theorem nil10_pages (w : World) (sv : ByteArray) : Calls Tryd.prog 14 #[.pointer none, .string sv] w fun e w' => e = .returned (.tuple #[.int .i64 0, .int .i64 2]) ∧ Keeps w w' := by
  have C := fun V => nil10_find V sv
  have CC := Lib.hid C
  clear C
  go_enter Tryd.func14, Tryd.ntmps14
  go_wp2_with fail
  refine (CC.out _).mono ?_
  rintro e w1 ⟨rfl, k1⟩
  have K1 := Lib.hid k1
  clear k1
  go_wp2_with fail
  go_returns
  exact ⟨rfl, K1.out⟩
theorem nil10_read (w : World) (sv : ByteArray) (k : Int) : Calls Tryd.prog 18 #[.pointer none, .string sv, .int .i64 k] w fun e w' => e = .returned (.tuple #[.slice none 0 0, .int .i64 2]) ∧ Keeps w w' := by
  have C := fun V => nil10_get V sv k
  have CC := Lib.hid C
  clear C
  go_enter Tryd.func18, Tryd.ntmps18
  go_wp2_with fail
  refine (CC.out _).mono ?_
  rintro e w1 ⟨rfl, k1⟩
  have K1 := Lib.hid k1
  clear k1
  go_wp2_with fail
  go_returns
  exact ⟨rfl, K1.out⟩
theorem nil10_write (w : World) (sv : ByteArray) (k : Int) (A : Option Addr) (m c : Nat) : Calls Tryd.prog 23 #[.pointer none, .string sv, .int .i64 k, .slice A m c] w fun e w' => e = .returned (.int .i64 2) ∧ Keeps w w' := by
  go_enter Tryd.func23, Tryd.ntmps23
  go_wp2_with fail
  go_returns
  exact ⟨rfl, keeps_refl _⟩
theorem nil10_flush (w : World) (sv : ByteArray) : Calls Tryd.prog 24 #[.pointer none, .string sv] w fun e w' => e = .returned (.int .i64 2) ∧ Keeps w w' := by
  have C := fun V => nil10_find V sv
  have CC := Lib.hid C
  clear C
  go_enter Tryd.func24, Tryd.ntmps24
  go_wp2_with fail
  refine (CC.out _).mono ?_
  rintro e w1 ⟨rfl, k1⟩
  have K1 := Lib.hid k1
  clear k1
  go_wp2_with fail
  go_returns
  exact ⟨rfl, K1.out⟩
theorem nil10_new (w : World) (k : Int) : Calls Tryd.prog 21 #[.pointer none, .int .i64 k] w fun e w' => e = .returned (.tuple #[.pointer none, .int .i64 2]) ∧ Keeps w w' := by
  go_enter Tryd.func21, Tryd.ntmps21
  go_wp2_with fail
  go_returns
  exact ⟨rfl, keeps_refl _⟩
/-- no state -/
def NoJ (w0 : World) (S : Nat → Prop) (w : World) : Prop := (∀ i, ¬ S i) ∧ Keeps w0 w
theorem stay_no (w0 : World) : Stay w0 (NoJ w0) := ⟨fun h o hT => ⟨h.1, Below.trans h.2 (o.below (fun i hi => (hT i hi).1) h.2.size)⟩, fun h i hi => (h.1 i hi).elim⟩
theorem nil_err {w0 W : World} {f : FuncId} {xs : Array Value} {E : Int} (kw : Keeps w0 W) (h : Calls Tryd.prog f xs W fun e w' => e = .returned (.int .i64 E) ∧ Keeps W w') : Calls Tryd.prog f xs W fun e w' => e = .returned (.int .i64 E) ∧ ∃ S', NoJ w0 S' w' ∧ Turns W w' (fun _ => False) S' :=
  h.mono fun e w' h => ⟨h.1, fun _ => False, ⟨fun _ h => h, keeps_trans kw h.2⟩, Turns.of_keeps h.2⟩
end Go.Proofs.YtmholhjdpkfleaaDoor
/- What is done with a pool: four cells each. (Written by mkops10.py.) -/
namespace Go.Proofs.YtmholhjdpkfleaaDoor
open Go.RowKit
set_option linter.unusedSimpArgs false
set_option linter.unusedVariables false
set_option maxRecDepth 100000

structure Op10 where
  kind : Int
  name : List UInt8
  k : Int
  A : Option Addr
  len : Nat
  c : Nat
  b : List UInt8
def op10C (o : Op10) : List Value := [.int .i64 o.kind, .string (str o.name), .int .i64 o.k, .slice o.A o.len o.c]
theorem op10C_length (o : Op10) : (op10C o).length = 4 := rfl
structure Op10Ok (W : World) (o : Op10) : Prop where
  kind : IsI o.kind
  name : o.name.length ≤ maxLen
  k : IsI o.k
  len : o.len = o.b.length
  c : o.len ≤ o.c
  m : o.c ≤ maxLen
  b : At W W.heap.size o.A (cel o.b)
theorem Op10Ok.keep_ {W W' : World} {o : Op10} (h : Op10Ok W o) (k : Keeps W W') : Op10Ok W' o := ⟨h.kind, h.name, h.k, h.len, h.c, h.m, h.b.low k⟩
structure Ops10At (W : World) (A : Option Addr) (l : List Op10) : Prop where
  cells : At W W.heap.size A (l.flatMap op10C)
  ok : ∀ o ∈ l, Op10Ok W o
theorem Ops10At.keep {W W' : World} {A : Option Addr} {l : List Op10} (h : Ops10At W A l) (k : Keeps W W') : Ops10At W' A l :=
  ⟨h.cells.low k, fun o ho => (h.ok o ho).keep_ k⟩
theorem Ops10At.cell0 {W : World} {A : Option Addr} {l : List Op10} (h : Ops10At W A l) {i : Nat} {o : Op10} (ho : l[i]? = some o) :
    ∃ ad, A = some ad ∧ ∀ j, j < 4 → W.cell? ((ad.add (i * 4)).add j) = (op10C o)[j]? := by
  have hi : i < l.length := (List.getElem?_eq_some_iff.1 ho).1
  have hlen := flatMap_length op10C 4 op10C_length l
  obtain ⟨ad, e, -, hc⟩ := At.get h.cells (k := i * 4) (by rw [hlen]; omega)
  refine ⟨ad, e, fun j hj => ?_⟩
  obtain ⟨ad', e', -, hc'⟩ := At.get h.cells (k := i * 4 + j) (by rw [hlen]; omega)
  obtain rfl := Option.some.inj (e.symm.trans e')
  rw [addr_add, hc', flatMap_get op10C 4 op10C_length l hj, ho]
  rfl
theorem Ops10At.cell {W : World} {A : Option Addr} {l : List Op10} (h : Ops10At W A l) {i j : Nat} {o : Op10} (ho : l[i]? = some o) (hj : j < 4) (h0 : 0 < j) :
    ∃ ad, A = some ad ∧ W.cell? ⟨(ad.add (i * 4)).block, (ad.add (i * 4)).off + j, none⟩ = (op10C o)[j]? := by
  obtain ⟨ad, e, hc⟩ := h.cell0 ho
  exact ⟨ad, e, by rw [← hc j hj, add_pos6 _ _ h0]⟩
/-- not much -/
structure Few10 (l : List Op10) : Prop where
  most : l.length ≤ 150
  each : ∀ o ∈ l, o.len ≤ 65536 ∧ o.name.length ≤ 65536
def Vast10V (w : World) (fr : Int) (l : List Op10) (e : Ending) (w' : World) : Prop := ∃ v, e = .returned (.bool v) ∧ Keeps w w' ∧ (v = false → Few10 l ∧ fr ≤ 64)
end Go.Proofs.YtmholhjdpkfleaaDoor
