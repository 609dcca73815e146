/- The code of package journal: the records with which a file's bytes begin, found by ranging over its sectors. -/
import Derived.Test.YtiohijkelagloaaGreatDoorQAppZ
import Derived.Test.YtiohijkelagloaaGreatDoorQBase
import Derived.Test.YtiohijkelagloaaGreatDoorQLawDisk
import Derived.Test.YtiohijkelagloaaGreatDoorQIter
import Derived.RangeFuncBox
import Derived.RangeFuncNested
import Derived.RangeFuncLeaves
import Derived.Shelf.Abstract
import Derived.Maps.AppendAt
import Derived.BigRegionIn
namespace Go.Proofs.YtiohijkelagloaaGreatDoor
open Go.RowKit Go.Shelf
set_option linter.unusedSimpArgs false
set_option linter.unusedVariables false
set_option maxRecDepth 100000
attribute [local go_sem] Oper.semAt_some

/-- the chunk with that number, and the slice that holds it -/
def chunkB (b : List UInt8) (x : Nat) : List UInt8 := (b.drop (64 * x)).take 64
def chunkV (A : Option Addr) (n x : Nat) : Value := .slice (A.map (·.add (64 * x))) (min 64 (n - 64 * x)) (min 64 (n - 64 * x))
theorem chunkB_length (b : List UInt8) (x : Nat) : (chunkB b x).length = min 64 (b.length - 64 * x) := by simp [chunkB]
theorem chunk_bs {w : World} {A : Option Addr} {b : List UInt8} (h : Bs w A b) (x : Nat) : Bs w (A.map (·.add (64 * x))) (chunkB b x) := by
  rcases A with _ | ad
  · have : b = [] := by
      rcases b with _ | ⟨y, b⟩
      · rfl
      · obtain ⟨ad, e, _⟩ := h.at_ (k := 0) (by simp)
        cases e
    subst this
    simpa [chunkB] using Bs.nil _ _
  · exact (h.drop (64 * x)).take 64
theorem chunk_any (A : Option Addr) (n c : Nat) (w : World) : Calls Tryz.prog 106 #[.slice A n c, .int .i64 64] w fun e w' =>
    e = .returned (.func (.func 136) #[] #[.pointer (some ⟨w.heap.size, 0, none⟩), .pointer (some ⟨w.heap.size + 1, 0, none⟩)]) ∧ w' = (w.alloc (.cells #[.slice A n c] 40)).alloc (.cells #[.int .i64 64] 3) := by
  go_enter Tryz.func106, Tryz.ntmps106
  go_wp2_with fail
  go_ret
  exact ⟨rfl, by simp⟩
/-- what a round must leave: what lay there, and the iterator's own boxes -/
def KpC (W3 : World) (Bs' Bn : Nat) (W W' : World) : Prop := Below W3.heap.size W W' ∧ W'.cell? ⟨Bs', 0, none⟩ = W.cell? ⟨Bs', 0, none⟩ ∧ W'.cell? ⟨Bn, 0, none⟩ = W.cell? ⟨Bn, 0, none⟩
theorem run_lhm (t e : TypeId) (ht : Tryz.prog.underlying t = some (.slice e)) (he : (Tryz.prog.info? e).map (·.size) = some 1) (ad : Addr) (n c i k : Nat) (hi : i < k) (hk : k ≤ c) (w : World) :
    (Instr.sliceAt t (.slice (some ad) n c) (some (.int .i64 (i : Int))) (some (.int .i64 (k : Int))) (some (.int .i64 (k : Int)))).run Tryz.prog w = .ok (.slice (some (ad.add i)) (k - i) (k - i)) w := by
  have he' : Tryz.prog.elem t = e := by simp [Program.elem, ht]
  have ht' : Tryz.prog.underlying t = some (.slice (Tryz.prog.elem t)) := by rw [he']; exact ht
  obtain ⟨y, hy, hs⟩ := Option.map_eq_some_iff.1 he
  have hne : ¬ ((k : Int) - (i : Int) = 0) := by omega
  rw [run_sliceAt_slice (h := ht'), run_slice_lhm (ht := ht') (h0 := by omega) (h1 := by omega) (h2 := by omega) (h3 := by omega)]
  rw [he']
  have e1 : (k : Int).toNat - (i : Int).toNat = k - i := by omega
  have e2 : k - i ≠ 0 := by omega
  simp [sizeOf, typeInfo, hy, hs, sliced]
  omega
theorem hJs_keep {α : Type} {B : Nat} {J : List α → World → Prop} (hJ : AbidesFrom B J) {s : List α} {W W' : World} (h : J s W) (k : Keeps W W') : J s W' :=
  hJ s W W' none h ⟨k.os, k.tape, k.output, k.size, fun i hi _ => k.block i hi⟩ (fun r e => by cases e)
section
variable {W3 : World}
set_option maxHeartbeats 4000000 in
theorem chunk1_in (A : Option Addr) (n c : Nat) (hc : n ≤ c) (hn : n ≤ 16777216) (ha : A = none → n = 0) (q : Nat) (hq : q = (n + 63) / 64)
    (l Bs' Bn : Nat) (J Jx : List Nat → World → Prop)
    (hY : ∀ pre x W, J pre W → pre.length < q → YieldAt Fence.wide 3 Tryz.prog l #[chunkV A n x] W fun e W' =>
      (e = .returned (.bool true) ∧ J (pre ++ [x]) W' ∧ KpC W3 Bs' Bn W W') ∨ (e = .returned (.bool false) ∧ Jx (pre ++ [x]) W'))
    (W : World) (hp : W.cell? ⟨Bs', 0, none⟩ = some (.slice A n c)) (hb : W.cell? ⟨Bn, 0, none⟩ = some (.int .i64 64)) (kW : Keeps W3 W) (hJ : AbidesFrom W.heap.size J) (h0 : J [] W) :
    CallsIn Fence.wide 4 Tryz.prog 136 #[.func (.yield l) #[] #[], .pointer (some ⟨Bs', 0, none⟩), .pointer (some ⟨Bn, 0, none⟩)] W fun e W' => (∃ v, e = .returned v) ∧
      ((∃ ys, ys = List.range q ∧ J ys W') ∨ (∃ pre : List Nat, (pre = List.range pre.length ∧ pre.length ≤ q) ∧ Jx pre W')) := by
  have HY := Lib.hid hY
  have HJ := Lib.hid hJ
  have H0 := Lib.hid h0
  have KW := Lib.hid kW
  have HQ := Lib.hid hq
  have hni : (n : Int) ≤ 16777216 := by omega
  have R0 := Lib.hid (show List.range 0 = [] from rfl)
  clear hY hJ h0 kW hq hn
  refine callsIn_of_wp Tryz.func136 rfl trivial ?_ rfl
  simp only [Tryz.ntmps136, List.size_toArray, List.length_cons, List.length_nil, Nat.reduceAdd, Nat.reduceSub, Array.replicate_succ, Array.replicate_zero, List.push_toArray, List.append_toArray, List.nil_append, List.cons_append]
  gi_wp2
  gi_loopw [4] (fun i wr => ∃ j : Nat, j ≤ q ∧ i = .int .i64 ((64 * j : Nat) : Int) ∧ J (List.range j) wr ∧ Keeps W3 wr ∧ wr.cell? ⟨Bs', 0, none⟩ = some (.slice A n c) ∧ wr.cell? ⟨Bn, 0, none⟩ = some (.int .i64 64) ∧ W.heap.size ≤ wr.heap.size) (fun i _ => 64 * q - (intOf i).toNat)
  case atStart => exact ⟨0, Nat.zero_le _, rfl, by rw [R0.out]; exact H0.out, KW.out, hp, hb, Nat.le_refl _⟩
  case round =>
    obtain ⟨j, hj, rfl, hJs, kr, hpr, hbr, hsz⟩ := hrel
    have HS := Lib.hid hJs
    have KR := Lib.hid kr
    clear hJs kr
    obtain ⟨o, ho⟩ : ∃ o, 64 * j = o := ⟨_, rfl⟩
    have HO := Lib.hid ho
    rw [ho]
    by_cases hlt : j < q
    · have hon : o < n := by have := HQ.out; omega
      have hoi : (o : Int) < (n : Int) := by omega
      obtain ⟨ad, rfl⟩ : ∃ ad, A = some ad := by
        rcases A with _ | ad
        · have := ha rfl; omega
        · exact ⟨ad, rfl⟩
      obtain ⟨d, hd⟩ : ∃ d, min 64 (n - o) = d := ⟨_, rfl⟩
      have hd1 : d ≤ 64 := by omega
      have hd0 : 0 < d := by omega
      obtain ⟨o2, ho2⟩ : ∃ o2, o + d = o2 := ⟨_, rfl⟩
      have hsum : (o : Int) + (d : Int) = (o2 : Int) := by omega
      have ho2c : o2 ≤ c := by omega
      have ho2i : (o2 : Int) ≤ (c : Int) := by omega
      have ho2b : (o2 : Int) ≤ 16777300 := by omega
      have hoo : (o : Int) ≤ (o2 : Int) := by omega
      have SF := run_from (P := Tryz.prog) 40 5 Tryz.underlying40 (by kernel_rfl) (some ad) n c o (by omega)
      have SH := run_lhm 40 5 Tryz.underlying40 (by kernel_rfl) ad n c o o2 (by omega) ho2c
      have hmn : ∀ (ts : Array TypeId) (t : TypeId) (w : World), (Builtin.min_ ts t #[.int .i64 64, .int .i64 ((n - o : Nat) : Int)]).run Tryz.prog w = .ok (.int .i64 (d : Int)) w := by
        intro ts t w
        rw [run_min_int2]
        congr 2
        split <;> omega
      have HYj := Lib.hid (fun (V : World) (h : J (List.range j) V) => HY.out (List.range j) j V h (by rw [List.length_range]; exact hlt))
      have HC := Lib.hid (show chunkV (some ad) n j = .slice (some (ad.add o)) (o2 - o) (o2 - o) by
        unfold chunkV
        rw [ho, hd, show o2 - o = d by omega]
        rfl)
      have HR := Lib.hid (show List.range (j + 1) = List.range j ++ [j] from List.range_succ)
      have JA := Lib.hid (fun (V : World) (k2 : Keeps wr V) => hJs_keep (B := wr.heap.size) (fun ss A B row a1 a2 a3 => HJ.out ss A B row a1 a2 (fun r e => ⟨Nat.le_trans hsz (a3 r e).1, (a3 r e).2⟩)) HS.out k2)
      clear hd ho2 ho
      gi_wp2
      gi_region
      have JD := Lib.hid (JA.out _ (keeps_drew wr))
      have kd := keeps_drew wr
      have hpd := kd.cellOf hpr
      have hbd := kd.cellOf hbr
      obtain ⟨fn, tmps, assign, body, hy, hR⟩ := HYj.out wr.drew JD.out
      rw [HC.out] at hy
      gi_wp2
      refine hR.mono ?_
      rintro e W4 (⟨rfl, hJ4, hk4, hc4, hc5⟩ | ⟨rfl, hJx4⟩)
      · have KR4 := Lib.hid (show Keeps W3 W4 from Below.trans (keeps_trans KR.out kd) hk4)
        have hp4 := hc4.trans hpd
        have hb4 := hc5.trans hbd
        have hsz4 : W.heap.size ≤ W4.heap.size := Nat.le_trans (Nat.le_trans hsz kd.size) hk4.size
        have J4 := Lib.hid (show J (List.range (j + 1)) W4 by rw [HR.out]; exact hJ4)
        clear hk4 hc4 hc5 hJ4 hpr hbr hpd hbd
        gi_wp2
        go_roundw
        case rel => exact ⟨j + 1, by omega, by have := HO.out; go_num, J4.out, KR4.out, hp4, hb4, hsz4⟩
        case measure => simp [intOf]; have := HO.out; omega
      · have SP := Lib.hid (show List.range j ++ [j] = List.range (List.range j ++ [j]).length ∧ (List.range j ++ [j]).length ≤ q by simp; rw [← List.range_succ]; exact ⟨rfl, hlt⟩)
        gi_wp2
        refine bodyPost_ret (results_none rfl _ _ _) rfl ?_
        exact ⟨⟨_, rfl⟩, .inr ⟨_, SP.out, hJx4⟩⟩
    · obtain rfl : j = q := by omega
      have hoi : ¬ (o : Int) < (n : Int) := by have := HQ.out; omega
      clear hlt hj ho
      gi_wp2
      go_end0
      first
        | exact ⟨⟨_, rfl⟩, .inl ⟨_, rfl, HS.out⟩⟩
        | exact ⟨⟨_, rfl⟩, .inl HS.out⟩
end
end Go.Proofs.YtiohijkelagloaaGreatDoor
/- The code of package journal: recordsOf. -/
namespace Go.Proofs.YtiohijkelagloaaGreatDoor
open Go.RowKit Go.Shelf
set_option linter.unusedSimpArgs false
set_option linter.unusedVariables false
set_option maxRecDepth 100000
attribute [local go_sem] Oper.semAt_some

theorem infoRec : (Tryz.prog.info? 38).map (fun i => (i.zero, i.size, i.bytes)) = some (some (.agg #[.int .u32 0, .int .u32 0, .int .u32 0]), 3, 12) := by kernel_rfl
/-- the records that so many chunks say -/
def rowsTo (b : List UInt8) (pre : List Nat) : List RecS := pre.map fun x => saidR (chunkB b x)
def GoodTo (b : List UInt8) (pre : List Nat) : Prop := pre.length ≤ 65536 ∧ ∀ i x, pre[i]? = some x → IsRec (chunkB b x) (i + 1)
theorem GoodTo.nil (b : List UInt8) : GoodTo b [] := ⟨by simp, fun i x h => by simp at h⟩
theorem GoodTo.snoc {b : List UInt8} {pre : List Nat} {x : Nat} (h : GoodTo b pre) (hl : pre.length < 65536) (hx : IsRec (chunkB b x) (pre.length + 1)) : GoodTo b (pre ++ [x]) := by
  refine ⟨by simp; omega, fun i y hy => ?_⟩
  by_cases hi : i < pre.length
  · rw [List.getElem?_append_left hi] at hy
    exact h.2 i y hy
  · rw [List.getElem?_append_right (by omega)] at hy
    have : i - pre.length = 0 := by
      rcases Nat.eq_zero_or_pos (i - pre.length) with e | e
      · exact e
      · rw [List.getElem?_eq_none (by simp; omega)] at hy; cases hy
    rw [this] at hy
    simp at hy
    subst hy
    rw [show i + 1 = pre.length + 1 by omega]
    exact hx
theorem rowsTo_snoc (b : List UInt8) (pre : List Nat) (x : Nat) : rowsTo b (pre ++ [x]) = rowsTo b pre ++ [saidR (chunkB b x)] := by simp [rowsTo]
theorem range_get (k i : Nat) (h : i < k) : (List.range k)[i]? = some i := by rw [List.getElem?_range h]
/-- the first chunks are records: so they are the first records -/
theorem recsOf_range (b : List UInt8) (k : Nat) (h : GoodTo b (List.range k)) : recsOf b = rowsTo b (List.range k) ++ recsJ (65536 - k) (1 + k) (b.drop (64 * k)) := by
  induction k with
  | zero => simp [rowsTo, recsOf]
  | succ k ih =>
    have hk := h.1
    rw [List.length_range] at hk
    have h2 : GoodTo b (List.range k) := ⟨by rw [List.length_range]; omega, fun i x hx => by
      have hi : i < k := by have := (List.getElem?_eq_some_iff.1 hx).1; simpa using this
      rw [range_get _ _ hi] at hx
      exact h.2 i x (by rw [range_get _ _ (by omega)]; exact hx)⟩
    rw [ih h2, List.range_succ, rowsTo_snoc, List.append_assoc]
    congr 1
    obtain ⟨m, hm⟩ : ∃ m, 65536 - k = m + 1 := ⟨65536 - k - 1, by omega⟩
    have hr := h.2 k k (range_get _ _ (by omega))
    rw [hm, recsJ, if_pos (by rw [Nat.add_comm 1]; exact hr), show 65536 - (k + 1) = m by omega, List.drop_drop]
    have e1 : 64 * k + 64 = 64 * (k + 1) := by omega
    have e2 : 1 + k + 1 = 1 + (k + 1) := by omega
    rw [e1, e2, List.singleton_append]
    congr 1
theorem recsOf_stop (b : List UInt8) (k : Nat) (h : GoodTo b (List.range k)) (hx : ¬ IsRec (chunkB b k) (k + 1) ∨ k = 65536) : recsOf b = rowsTo b (List.range k) := by
  rw [recsOf_range b k h]
  rcases hx with hx | hx
  · rw [recsJ_none _ _ _ (by rw [Nat.add_comm 1]; exact hx), List.append_nil]
  · rw [hx, show 65536 - 65536 = 0 from rfl, recsJ, List.append_nil]
theorem recsOf_end (b : List UInt8) (k : Nat) (h : GoodTo b (List.range k)) (hb : b.length ≤ 64 * k) : recsOf b = rowsTo b (List.range k) := by
  rw [recsOf_range b k h, recsJ_short _ _ _ (by rw [List.length_drop]; omega), List.append_nil]
theorem range_snoc {pre : List Nat} {x : Nat} (h : pre ++ [x] = List.range (pre ++ [x]).length) : pre = List.range pre.length ∧ x = pre.length := by
  simp only [List.length_append, List.length_cons, List.length_nil] at h
  rw [List.range_succ] at h
  have := List.append_inj h (by simp)
  exact ⟨this.1, by simpa using this.2⟩
def rowsC (l : List RecS) : List Value := l.flatMap recC
theorem rowsC_length (l : List RecS) : (rowsC l).length = 3 * l.length := by
  induction l with
  | nil => rfl
  | cons r l ih => simp only [rowsC, List.flatMap_cons, List.length_append, recC_length, List.length_cons] at ih ⊢; omega
theorem rowsC_snoc (l : List RecS) (r : RecS) : rowsC (l ++ [r]) = rowsC l ++ recC r := by simp [rowsC]
theorem recC_one (r : RecS) : ∀ u ∈ recC r, u.oneCell' = true := by
  intro u hu
  simp only [recC, List.mem_cons, List.not_mem_nil, or_false] at hu
  rcases hu with rfl | rfl | rfl <;> rfl
theorem cells_new (w : World) (cs : List Value) (t : TypeId) : ∀ j u, cs[j]? = some u → (w.alloc (.cells cs.toArray t)).cell? ((⟨w.heap.size, 0, none⟩ : Addr).add j) = some u := fun j u hu => by
  rcases At.new w cs t (w.heap.size + 1) (by omega) with h | ⟨ad, e, -, h⟩
  · rw [h] at hu; simp at hu
  · obtain rfl := Option.some.inj e
    exact h j u hu
theorem owns_keep {w w' : World} {base : Nat} {e : TypeId} {size : Nat} {v : Value} {n : Nat} {xs : List Value} (h : w.ownsRow base e size v n xs) (k : Keeps w w') : w'.ownsRow base e size v n xs :=
  h.kept (row := none) ⟨k.os, k.tape, k.output, k.size, fun i hi _ => k.block i hi⟩ (by cases v.ownBlock <;> simp)
theorem keeps_others {w w' : World} (k : Keeps w w') : KeepsOthers w w' := ⟨k.size, fun i o hi _ => (k.block i (Array.getElem?_eq_some_iff.1 hi).1).trans hi⟩
/-- the last one of them is none: all ahead are -/
def StopTo (b : List UInt8) (pre : List Nat) : Prop := GoodTo b (pre.take (pre.length - 1)) ∧ ∃ p x, pre = p ++ [x] ∧ (¬ IsRec (chunkB b x) (p.length + 1) ∨ p.length = 65536)
def StopI (w : World) (b : List UInt8) (pre : List Nat) (W : World) : Prop :=
  (∃ v, Boxed W w.heap.size 46 v ∧ W.ownsRow w.heap.size 38 3 v (pre.length - 1) (rowsC (rowsTo b (pre.take (pre.length - 1)))) ∧ StopTo b pre) ∧ Below w.heap.size w W
theorem stopI_own (w : World) (b : List UInt8) {B : Nat} (hB : w.heap.size ≤ B) (c : Code) : OwnFrom B (fun pre W => c = .exit 0 ∧ StopI w b pre W) :=
  OwnFrom.and (fun _ _ _ _ hs _ _ => hs) (OwnFrom.and (Own.from (holdsRow_own w.heap.size w.heap.size 46 38 3 (fun pre : List Nat => pre.length - 1) (fun pre => rowsC (rowsTo b (pre.take (pre.length - 1)))) (fun pre _ => StopTo b pre)) _) (ownFrom_below (Nat.le_refl _) hB))
/-- the loop is left at a chunk that is none, or where there are enough -/
theorem stop_is {w W5 : World} {b : List UInt8} {pre : List Nat} {x N : Nat} {A' : Option Addr} {c' : Nat} (hN : pre.length = N) (hg : GoodTo b pre) (hx : ¬ IsRec (chunkB b x) (N + 1) ∨ N = 65536)
    (hv : Boxed W5 w.heap.size 46 (.slice A' N c')) (hr : W5.ownsRow w.heap.size 38 3 (.slice A' N c') N (rowsC (rowsTo b pre))) (hB : Below w.heap.size w W5) : StopI w b (pre ++ [x]) W5 := by
  have e1 : (pre ++ [x]).length - 1 = N := by simp [hN]
  have e2 : (pre ++ [x]).take N = pre := by rw [← hN]; exact List.take_left
  refine ⟨⟨_, hv, ?_, ?_, pre, x, rfl, by rw [hN]; exact hx⟩, hB⟩
  · rw [e1, e2]; exact hr
  · rw [e1, e2]; exact hg
theorem stop_end {b : List UInt8} {pre : List Nat} (h : StopTo b pre) (hp : pre = List.range pre.length) : rowsTo b (pre.take (pre.length - 1)) = recsOf b ∧ (recsOf b).length = pre.length - 1 := by
  obtain ⟨hg, p, x, rfl, hx⟩ := h
  obtain ⟨h1, h2⟩ := range_snoc hp
  have e1 : (p ++ [x]).length - 1 = p.length := by simp
  have e2 : (p ++ [x]).take p.length = p := List.take_left
  rw [e1, e2] at hg ⊢
  rw [h2] at hx
  rw [h1] at hg
  have e3 := recsOf_stop b p.length hg hx
  rw [← h1] at e3
  exact ⟨e3.symm, by rw [e3]; simp [rowsTo]⟩
set_option maxHeartbeats 8000000 in
theorem jrecords_any {w : World} (A : Option Addr) (n c : Nat) (b : List UInt8) (hS : Sizes w) (hB : Bs w A b) (hn : n = b.length) (hc : n ≤ c) (hnx : n ≤ 16777216) (ha : A = none → n = 0) :
    Calls Tryz.prog 67 #[.slice A n c] w fun e w' => ∃ v, e = .returned v ∧ Own w' w.heap.size 38 3 v (recsOf b).length (rowsC (recsOf b)) ∧ Keeps w w' := by
  obtain ⟨i0, hi, hz0, hz1, hz2⟩ := info_parts infoRec
  obtain ⟨q, hq⟩ : ∃ q, q = (n + 63) / 64 := ⟨_, rfl⟩
  have kB0 := keeps_alloc w (.cells #[.slice none 0 0] 46)
  have CK := Lib.hid (chunk_any A n c (w.alloc (.cells #[.slice none 0 0] 46)))
  have STP := Lib.hid (fun (l Bs' Bn : Nat) (J Jx : List Nat → World → Prop) (W3 : World) hY (W : World) hp hb kW hJ h0 => chunk1_in (W3 := W3) A n c hc hnx ha q hq l Bs' Bn J Jx hY W hp hb kW hJ h0)
  have RY := Lib.hid (fun (V : World) (k : Keeps w V) (x num : Nat) (hx : num < 4294967296) (h : IsRec (chunkB b x) num) => jrecord_yes (A.map (·.add (64 * x))) (min 64 (n - 64 * x)) (min 64 (n - 64 * x)) (chunkB b x) num V (hS.keep k) (chunk_bs (hB.keep k) x) (by rw [chunkB_length, hn]) (Nat.le_refl _) (Nat.min_le_left _ _) hx h)
  have RN := Lib.hid (fun (V : World) (k : Keeps w V) (x num : Nat) (hx : num < 4294967296) (h : ¬ IsRec (chunkB b x) num) => jrecord_no (A.map (·.add (64 * x))) (min 64 (n - 64 * x)) (min 64 (n - 64 * x)) (chunkB b x) num V (hS.keep k) (chunk_bs (hB.keep k) x) (by rw [chunkB_length, hn]) (Nat.le_refl _) (Nat.min_le_left _ _) hx h)
  have BB := Lib.hid (Boxed.new w 46 (.slice none 0 0))
  have HN := Lib.hid (And.intro hn hq)
  clear hB hS hnx ha hn hq
  refine (callsIn_wide (n := 5)).1 ?_
  refine callsIn_of_wp_marks Tryz.func67 rfl trivial ?_ rfl
  simp only [Tryz.ntmps67, List.size_toArray, List.length_cons, List.length_nil, Nat.reduceAdd, Nat.reduceSub, Array.replicate_succ, Array.replicate_zero, List.push_toArray, List.append_toArray, List.nil_append, List.cons_append]
  gi_wp2_with (refine ⟨trivial, ?_⟩; gi_at_call 106; refine (callsIn_wide.2 CK.out).mono ?_; rintro e w3 ⟨rfl, rfl⟩)
  have hn2 : (w.alloc (.cells #[.slice none 0 0] 46)).heap.size = w.heap.size + 1 := by simp
  have bB := (BB.out.alloc (.cells #[.slice A n c] 40)).alloc (.cells #[.int .i64 64] 3)
  have bS := (Boxed.new (w.alloc (.cells #[.slice none 0 0] 46)) 40 (.slice A n c)).alloc (.cells #[.int .i64 64] 3)
  have bN := Boxed.new ((w.alloc (.cells #[.slice none 0 0] 46)).alloc (.cells #[.slice A n c] 40)) 3 (.int .i64 64)
  rw [World.size_alloc, World.size_alloc] at bN
  rw [World.size_alloc] at bS
  have kB : Keeps w (((w.alloc (.cells #[.slice none 0 0] 46)).alloc (.cells #[.slice A n c] 40)).alloc (.cells #[.int .i64 64] 3)) := keeps_trans (keeps_trans (keeps_alloc _ _) (keeps_alloc _ _)) (keeps_alloc _ _)
  generalize hWL : ((w.alloc (.cells #[.slice none 0 0] 46)).alloc (.cells #[.slice A n c] 40)).alloc (.cells #[.int .i64 64] 3) = WL at *
  have sWL : WL.heap.size = w.heap.size + 3 := by rw [← hWL]; simp
  have ST : SeqStopsK Fence.wide 4 Tryz.prog 136 #[.pointer (some ⟨w.heap.size + 1, 0, none⟩), .pointer (some ⟨w.heap.size + 1 + 1, 0, none⟩)] (fun x : Nat => #[chunkV A n x]) (KpC w (w.heap.size + 1) (w.heap.size + 1 + 1)) (fun ys => ys = List.range q) (fun pre => pre = List.range pre.length ∧ pre.length ≤ q) q WL := fun l J Jx W hW hJ _ hY h0 =>
    STP.out l (w.heap.size + 1) (w.heap.size + 1 + 1) J Jx w hY W (Keeps.cellOf hW bS.cell) (Keeps.cellOf hW bN.cell) (keeps_trans kB hW) hJ h0
  refine wpIn_rangeFunc_ownG rfl (by decide) (gf := 136) (lb := #[.pointer (some ⟨w.heap.size + 1, 0, none⟩), .pointer (some ⟨w.heap.size + 1 + 1, 0, none⟩)]) (by simp [Act.eval, hn2]) trivial (enters_of Tryz.func136 (by kernel_rfl) rfl)
    ST (fun h k => ⟨Below.trans h.1 k.1, k.2.1.trans h.2.1, k.2.2.trans h.2.2⟩)
    (fun W l o o' hl ho hc hw => ⟨belowK_b (w := WL) (by omega) W l o o' hl ho hc hw, by
      unfold World.cell?
      rw [World.putObj_heap_other (show w.heap.size + 1 ≠ l by omega)], by
      unfold World.cell?
      rw [World.putObj_heap_other (show w.heap.size + 1 + 1 ≠ l by omega)]⟩)
    (Below.refl _ _) (fun _ => rfl)
    (fun pre W => (((∃ v, Boxed W w.heap.size 46 v ∧ W.ownsRow w.heap.size 38 3 v pre.length (rowsC (rowsTo b pre)) ∧ GoodTo b pre) ∧ Boxed W (w.heap.size + 1) 40 (.slice A n c)) ∧ Boxed W (w.heap.size + 1 + 1) 3 (.int .i64 64)) ∧ Below w.heap.size w W)
    (fun c pre W => c = .exit 0 ∧ StopI w b pre W)
    (OwnFrom.and (OwnFrom.and (OwnFrom.and (Own.from (holdsRow_own w.heap.size w.heap.size 46 38 3 (fun pre : List Nat => pre.length) (fun pre => rowsC (rowsTo b pre)) (fun pre _ => GoodTo b pre)) _) (Own.from (boxed_own _ _ (fun _ => Value.slice A n c)) _)) (Own.from (boxed_own _ _ (fun _ => Value.int .i64 64)) _)) (ownFrom_below (Nat.le_refl _) (by omega)))
    (fun c => stopI_own w b (by omega) c)
    ⟨⟨⟨⟨_, bB, World.ownsRow_nil _ _ _ _, GoodTo.nil b⟩, bS⟩, bN⟩, kB⟩
    ?a1 ?assign ?body ?done ?stop
  case assign =>
    intro l x W K hK
    gi_wp2
    exact hK
  case body =>
    rintro l pre x W ⟨⟨⟨⟨v, hv, hrow, hgood⟩, hbs⟩, hbn⟩, hB⟩ hlt
    obtain ⟨A', c', rfl, -⟩ := (Own.of_row hrow).form
    have hc0 := hv.cell
    have hpl := hgood.1
    obtain ⟨N, hN⟩ : ∃ N, pre.length = N := ⟨_, rfl⟩
    rw [hN] at hc0 hpl hv hrow
    have hNi : (N : Int) ≤ 65536 := by omega
    have HG := Lib.hid (And.intro hv (And.intro hrow (And.intro hgood (And.intro hbs (And.intro hbn hB)))))
    have HNN := Lib.hid hN
    rw [hN] at hlt
    unfold chunkV
    clear hv hrow hgood hbs hbn hB hN
    by_cases hr : IsRec (chunkB b x) (N + 1)
    · have RC := RY.out W HG.out.2.2.2.2.2 x (N + 1) (by omega) hr
      rw [show ((N + 1 : Nat) : Int) = (N : Int) + 1 by omega] at RC
      have RCH := Lib.hid RC
      have KS := fun (W5 : World) (K5 : Keeps W W5) => (keeps_others K5).from WL.heap.size
      have HRH := Lib.hid hr
      have HX := Lib.hid (show recC (saidR (chunkB b x)) = [.int .u32 ((saidR (chunkB b x)).kind : Int), .int .u32 ((saidR (chunkB b x)).a : Int), .int .u32 ((saidR (chunkB b x)).b : Int)] from rfl)
      clear RC hr
      by_cases h65 : N = 65536
      · have heq : ((N : Int) == 65536) = true := by rw [beq_iff_eq]; omega
        have H65 := Lib.hid h65
        clear h65
        gi_wp2_with (refine ⟨trivial, ?_⟩; gi_at_call 107; refine (callsIn_wide.2 RCH.out).mono ?_; rintro e w4 ⟨rfl, k4⟩; have cc : ∀ o, (w4.alloc o).cell? ⟨w.heap.size, 0, none⟩ = some (.slice A' N c') := fun o => (keeps_alloc w4 o).cellOf (k4.cellOf hc0))
        have K5 := keeps_trans k4 (keeps_alloc w4 (.cells #[.int .u32 ((saidR (chunkB b x)).kind : Int), .int .u32 ((saidR (chunkB b x)).a : Int), .int .u32 ((saidR (chunkB b x)).b : Int)] 38))
        exact ⟨(keeps_others K5).from _, rfl, stop_is HNN.out HG.out.2.2.1 (.inr H65.out) (Box.keep (show Box W _ _ _ from HG.out.1) K5) (owns_keep HG.out.2.1 K5) (HG.out.2.2.2.2.2.trans (K5.mono HG.out.2.2.2.2.2.size))⟩
      · have heq : ((N : Int) == 65536) = false := by rw [beq_eq_false_iff_ne]; omega
        gi_wp2_with (first
          | (refine ⟨trivial, ?_⟩; gi_at_call 107; refine (callsIn_wide.2 RCH.out).mono ?_; rintro e w4 ⟨rfl, k4⟩; have cc : ∀ o, (w4.alloc o).cell? ⟨w.heap.size, 0, none⟩ = some (.slice A' N c') := fun o => (keeps_alloc w4 o).cellOf (k4.cellOf hc0); have K5 := Lib.hid (keeps_trans k4 (keeps_alloc w4 (.cells #[.int .u32 ((saidR (chunkB b x)).kind : Int), .int .u32 ((saidR (chunkB b x)).a : Int), .int .u32 ((saidR (chunkB b x)).b : Int)] 38))); have CN := Lib.hid (cells_new (w4.alloc (.cells #[.int .u32 ((saidR (chunkB b x)).kind : Int), .int .u32 ((saidR (chunkB b x)).a : Int), .int .u32 ((saidR (chunkB b x)).b : Int)] 38)) (recC (saidR (chunkB b x))) 38); have ROW5 := Lib.hid (owns_keep HG.out.2.1 K5.out); have BX5 := Lib.hid (Box.keep (t := 46) (cs := #[.slice A' N c']) HG.out.1 K5.out); have BS5 := Lib.hid (Box.keep (show Box W _ _ _ from HG.out.2.2.2.1) K5.out); have BN5 := Lib.hid (Box.keep (show Box W _ _ _ from HG.out.2.2.2.2.1) K5.out))
          | (gi_at_builtin; refine wpListIn_append_own _ rfl _ _ 46 rfl w.heap.size 38 i0 (.agg #[.int .u32 0, .int .u32 0, .int .u32 0]) 3 12 Tryz.underlying46 hi hz0 hz1 hz2 rfl (by decide) _ N (rowsC (rowsTo b pre)) rfl (ROW5.out.alloc _) ⟨w4.heap.size + 1, 0, none⟩ 1 1 (recC (saidR (chunkB b x))) rfl rfl ((by have h := CN.out; rw [World.size_alloc] at h; exact h)) (recC_one _) (by unfold maxLen; omega) (by omega) (by have := K5.out.size; have := HG.out.2.2.2.2.2.size; simp at *; omega) ?_; intro v' w9 hown' hgrow _; obtain ⟨g', cap', rfl⟩ := ownsRow_succ hown'; obtain ⟨hv1, hv2, hr2, hk2, hb2⟩ := Boxed.appended (B := w.heap.size) (BX5.out) (by decide) ROW5.out ((Nat.le_trans HG.out.2.2.2.2.2.size K5.out.size)) (Nat.le_refl _) hown' hgrow; have hc9 := hv1.cell; have hf9 := hv1.frozen))
        have hB := HG.out.2.2.2.2.2
        have bs9 := ((Boxed.alloc (show Boxed _ _ _ _ from BS5.out) (.cells (recC (saidR (chunkB b x))).toArray 38)).kept hgrow (Boxed.not_row (show Boxed _ _ _ _ from BS5.out) (by decide) ROW5.out)).other (show w.heap.size + 1 ≠ w.heap.size by omega) (.slice (some ⟨g', 0, none⟩) (N + 1) cap')
        have bn9 := ((Boxed.alloc (show Boxed _ _ _ _ from BN5.out) (.cells (recC (saidR (chunkB b x))).toArray 38)).kept hgrow (Boxed.not_row (show Boxed _ _ _ _ from BN5.out) (by decide) ROW5.out)).other (show w.heap.size + 1 + 1 ≠ w.heap.size by omega) (.slice (some ⟨g', 0, none⟩) (N + 1) cap')
        have hb9 := Below.trans (K5.out.mono hB.size) hb2
        refine ⟨((keeps_others K5.out).trans hk2).from _, ⟨hb9, bs9.cell.trans (Boxed.cell HG.out.2.2.2.1).symm, bn9.cell.trans (Boxed.cell HG.out.2.2.2.2.1).symm⟩, ⟨⟨⟨_, hv2, ?_, HG.out.2.2.1.snoc (by have := HNN.out; omega) (by rw [HNN.out]; exact HRH.out)⟩, bs9⟩, bn9⟩, hB.trans hb9⟩
        rw [rowsTo_snoc, rowsC_snoc, List.length_append, HNN.out]
        exact hr2
    · have RC := RN.out W HG.out.2.2.2.2.2 x (N + 1) (by omega) hr
      rw [show ((N + 1 : Nat) : Int) = (N : Int) + 1 by omega] at RC
      have RCH := Lib.hid RC
      clear RC
      first
        | (
          gi_wp2_with (refine ⟨trivial, ?_⟩; gi_at_call 107; refine (callsIn_wide.2 RCH.out).mono ?_; rintro e w4 ⟨rfl, k4⟩; have cc : ∀ o, (w4.alloc o).cell? ⟨w.heap.size, 0, none⟩ = some (.slice A' N c') := fun o => (keeps_alloc w4 o).cellOf (k4.cellOf hc0))
          have K5 := keeps_trans k4 (keeps_alloc w4 (.cells #[.int .u32 0, .int .u32 0, .int .u32 0] 38))
          exact ⟨(keeps_others K5).from _, rfl, stop_is HNN.out HG.out.2.2.1 (.inl hr) (Box.keep (show Box W _ _ _ from HG.out.1) K5) (owns_keep HG.out.2.1 K5) (HG.out.2.2.2.2.2.trans (K5.mono HG.out.2.2.2.2.2.size))⟩)
  case done =>
    rintro D ys W hD rfl ⟨⟨⟨⟨v, hv, hrow, hg⟩, hbs⟩, hbn⟩, hB⟩ hK
    have hc := hv.cell
    gi_wp2
    refine ⟨by simp, .inl ⟨_, _, rfl, run_takeDeferred hK, ?_⟩⟩
    refine ⟨v, by simp [results, Tryz.results67, go_sem], v, rfl, ?_, ?_⟩
    · have e := recsOf_end b q hg (by have := HN.out; omega)
      have := Own.of_row (ownsRow_putObj hrow (.deferred none) hK rfl)
      rw [e, show (rowsTo b (List.range q)).length = (List.range q).length by simp [rowsTo]]
      exact this
    · exact hB.trans (belowK_b (w := w) (Nat.le_refl _) W D _ _ (by omega) hK rfl rfl)
  case stop =>
    rintro D c pre W hD ⟨hp, hpq⟩ ⟨rfl, ⟨v, hv, hrow, hst⟩, hB⟩ hK
    have hc := hv.cell
    gi_wp2
    refine ⟨by simp, .inl ⟨_, _, rfl, run_takeDeferred hK, ?_⟩⟩
    refine ⟨v, by simp [results, Tryz.results67, go_sem], v, rfl, ?_, ?_⟩
    · obtain ⟨e1, e2⟩ := stop_end hst hp
      have := Own.of_row (ownsRow_putObj hrow (.deferred none) hK rfl)
      rw [e1] at this
      rw [e2]
      exact this
    · exact hB.trans (belowK_b (w := w) (Nat.le_refl _) W D _ _ (by omega) hK rfl rfl)
end Go.Proofs.YtiohijkelagloaaGreatDoor
