/- Candidates in memory (api.Cand). -/
import Derived.Test.YtdfaogagadoooaaProg
import Derived.Test.YtdfaogagadoooaaPickMath
import Derived.Test.YtdfaogagadoooaaU32s
import Derived.Test.YtdfaogagadoooaaFlat
import Derived.Test.YtdfaogagadoooaaBox
namespace Go.Proofs.Ytdfaogagadoooaa
open Go.RowKit
set_option linter.unusedSimpArgs false
set_option linter.unusedVariables false
set_option maxRecDepth 100000

/-- a candidate as it lies: where its neighbours lie, and how much room there is -/
structure Cd where
  v : Nat
  key : Nat
  A : Option Addr
  c : Nat
  near : List Nat
def Cd.n (x : Cd) : Cn := ⟨x.v, x.key, x.near⟩
def cdC (x : Cd) : List Value := [.int .u32 (x.v : Int), .int .u64 (x.key : Int), .slice x.A x.near.length x.c]
def cdV (x : Cd) : Value := .agg #[.int .u32 (x.v : Int), .int .u64 (x.key : Int), .slice x.A x.near.length x.c]
def cdsC (l : List Cd) : List Value := l.flatMap cdC
theorem cdC_length (x : Cd) : (cdC x).length = 3 := rfl
theorem cdsC_length (l : List Cd) : (cdsC l).length = l.length * 3 := flatMap_length cdC 3 cdC_length l
theorem cdsC_put (l : List Cd) (x : Cd) : cdsC (l ++ [x]) = cdsC l ++ cdC x := by simp [cdsC]
theorem cdsC_ones (l : List Cd) : ∀ u ∈ cdsC l, u.oneCell' = true := by
  intro u hu
  obtain ⟨x, -, hx⟩ := List.mem_flatMap.1 hu
  simp only [cdC, List.mem_cons, List.mem_nil_iff, or_false] at hx
  rcases hx with rfl | rfl | rfl <;> rfl
theorem cdC_ones (x : Cd) : ∀ u ∈ cdC x, u.oneCell' = true := by
  intro u hu
  exact cdsC_ones [x] u (by simpa [cdsC] using hu)
structure CdOk (W : World) (x : Cd) : Prop where
  v : x.v < 4294967296
  key : x.key < 18446744073709551616
  c : x.near.length ≤ x.c
  m : x.c ≤ maxLen
  at_ : At W W.heap.size x.A (celU x.near)
  ok : ∀ y ∈ x.near, y < 4294967296
theorem CdOk.keep {W W' : World} {x : Cd} (h : CdOk W x) (k : Keeps W W') : CdOk W' x := ⟨h.v, h.key, h.c, h.m, (h.at_.keep k).more k.size, h.ok⟩
structure CdsAt (W : World) (A : Option Addr) (l : List Cd) : Prop where
  cells : At W W.heap.size A (cdsC l)
  ok : ∀ x ∈ l, CdOk W x
theorem CdsAt.keep {W W' : World} {A : Option Addr} {l : List Cd} (h : CdsAt W A l) (k : Keeps W W') : CdsAt W' A l := ⟨(h.cells.keep k).more k.size, fun x hx => (h.ok x hx).keep k⟩
/-- the three cells of a candidate -/
def CdIn (W : World) (p : Addr) (x : Cd) : Prop := W.cell? p = some (.int .u32 (x.v : Int)) ∧ W.cell? ⟨p.block, p.off + 1, none⟩ = some (.int .u64 (x.key : Int)) ∧ W.cell? ⟨p.block, p.off + 2, none⟩ = some (.slice x.A x.near.length x.c)
theorem CdIn.keep {W V : World} {p : Addr} {x : Cd} (h : CdIn W p x) (k : Keeps W V) : CdIn V p x := ⟨k.cellOf h.1, k.cellOf h.2.1, k.cellOf h.2.2⟩
theorem CdIn.lt {W : World} {p : Addr} {x : Cd} (h : CdIn W p x) : p.block < W.heap.size := by
  rcases Nat.lt_or_ge p.block W.heap.size with h' | h'
  · exact h'
  · have := h.2.1
    simp [World.cell?, Array.getElem?_eq_none (xs := W.heap) (show W.heap.size ≤ p.block from h')] at this
theorem cds_at {W : World} {B : Nat} {A : Option Addr} {l : List Cd} (h : At W B A (cdsC l)) {k : Nat} {x : Cd} (hk : l[k]? = some x) : ∃ ad, A = some ad ∧ ad.block < B ∧ CdIn W (ad.add (k * 3)) x := by
  have hl : k < l.length := (List.getElem?_eq_some_iff.1 hk).1
  have g : ∀ j, j < 3 → (cdsC l)[k * 3 + j]? = (cdC x)[j]? := fun j hj => by
    unfold cdsC
    rw [flatMap_get cdC 3 cdC_length l hj, hk]
    rfl
  have q : ∀ j, j < 3 → ∃ ad, A = some ad ∧ ad.block < B ∧ W.cell? ((ad.add (k * 3)).add j) = (cdC x)[j]? := fun j hj => by
    obtain ⟨ad, e, hb, hc⟩ := At.get h (k := k * 3 + j) (by rw [cdsC_length]; omega)
    exact ⟨ad, e, hb, by rw [addr_add, hc, g j hj]⟩
  obtain ⟨ad, e, hb, h0⟩ := q 0 (by decide)
  obtain ⟨a1, e1, -, h1⟩ := q 1 (by decide)
  obtain ⟨a2, e2, -, h2⟩ := q 2 (by decide)
  obtain rfl := Option.some.inj (e.symm.trans e1)
  obtain rfl := Option.some.inj (e.symm.trans e2)
  have p1 : ∀ (p : Addr) (k : Nat), 0 < k → p.add k = ⟨p.block, p.off + k, none⟩ := fun p k hk => by unfold Addr.add; rw [if_neg (by omega)]
  exact ⟨ad, e, hb, by simpa [Addr.add, cdC] using h0, by rw [← p1 _ 1 (by decide)]; exact h1, by rw [← p1 _ 2 (by decide)]; exact h2⟩
theorem cdBox (w : World) (t : TypeId) (x : Cd) : CdIn (w.alloc (.cells #[.int .u32 (x.v : Int), .int .u64 (x.key : Int), .slice x.A x.near.length x.c] t)) ⟨w.heap.size, 0, none⟩ x :=
  have b := Box.new w t #[.int .u32 (x.v : Int), .int .u64 (x.key : Int), .slice x.A x.near.length x.c]
  ⟨b.cell 0 rfl, b.cell 1 rfl, b.cell 2 rfl⟩
/-- numbers in a row: one of them -/
theorem celU_at {W : World} {B : Nat} {A : Option Addr} {l : List Nat} (h : At W B A (celU l)) {k : Nat} {x : Nat} (hk : l[k]? = some x) : ∃ ad, A = some ad ∧ ad.block < B ∧ W.cell? (ad.add k) = some (.int .u32 (x : Int)) := by
  obtain ⟨ad, e, hb, hc⟩ := At.get h (k := k) (by rw [celU_len]; exact (List.getElem?_eq_some_iff.1 hk).1)
  exact ⟨ad, e, hb, by rw [hc, celU_get l hk]⟩

/-! ### of each vertex the first one -/
def onceD (l : List Cd) : List Cd := l.foldl (fun a x => if x.v ∈ a.map Cd.v then a else a ++ [x]) []
theorem onceD_snoc (l : List Cd) (x : Cd) : onceD (l ++ [x]) = if x.v ∈ (onceD l).map Cd.v then onceD l else onceD l ++ [x] := by
  simp [onceD, List.foldl_append]
theorem onceD_next {l : List Cd} {k : Nat} {x : Cd} (hx : l[k]? = some x) : onceD (l.take (k + 1)) = if x.v ∈ (onceD (l.take k)).map Cd.v then onceD (l.take k) else onceD (l.take k) ++ [x] := by
  rw [List.take_add_one, hx]
  exact onceD_snoc _ _
theorem map_n_v (l : List Cd) : (l.map Cd.n).map Cn.v = l.map Cd.v := by simp [Cd.n, Function.comp_def]
theorem onceD_n (l : List Cd) : (onceD l).map Cd.n = onceC (l.map Cd.n) := by
  refine snocInd (P := fun l => (onceD l).map Cd.n = onceC (l.map Cd.n)) (by simp [onceD, onceC]) (fun l x ih => ?_) l
  rw [onceD_snoc, List.map_append]
  simp only [List.map_cons, List.map_nil]
  rw [onceC_snoc, ← ih, map_n_v]
  by_cases h : x.v ∈ (onceD l).map Cd.v
  · rw [if_pos h, if_pos (by simpa [Cd.n] using h)]
  · rw [if_neg h, if_neg (by simpa [Cd.n] using h), List.map_append]
    rfl
theorem onceD_sub {l : List Cd} {x : Cd} : x ∈ onceD l → x ∈ l := by
  refine snocInd (P := fun l => x ∈ onceD l → x ∈ l) (by simp [onceD]) (fun l y ih => ?_) l
  rw [onceD_snoc]
  split
  · intro h; exact List.mem_append_left _ (ih h)
  · intro h
    rcases List.mem_append.1 h with h | h
    · exact List.mem_append_left _ (ih h)
    · exact List.mem_append_right _ h
theorem onceD_len (l : List Cd) : (onceD l).length ≤ l.length := by
  have := onceC_len (l.map Cd.n)
  rw [← onceD_n, List.length_map, List.length_map] at this
  exact this
end Go.Proofs.Ytdfaogagadoooaa
