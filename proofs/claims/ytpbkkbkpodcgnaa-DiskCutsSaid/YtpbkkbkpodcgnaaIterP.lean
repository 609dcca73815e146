/- maps.Keys and slices.Collect at a map whose keys are places: what comes is each key once, in some order. -/
import Derived.Test.YtpbkkbkpodcgnaaIter
import Derived.Test.YtpbkkbkpodcgnaaDk3
import Derived.Shelf.Abstract
namespace Go.Proofs.Ytpbkkbkpodcgnaa
open Go.RowKit Go.Shelf
set_option linter.unusedSimpArgs false
set_option linter.unusedVariables false
set_option maxRecDepth 100000

def encP (x : List UInt8 × Nat) : Value := (.agg #[.string (str x.1), .int .i64 (x.2 : Int)])
def celP (x : List UInt8 × Nat) : List Value := [.string (str x.1), .int .i64 (x.2 : Int)]
theorem infoP : (Try.prog.info? 63).map (fun i => (i.zero, i.size, i.bytes)) = some (some (.agg #[.string ⟨#[]⟩, .int .i64 0]), 2, 24) := by kernel_rfl
theorem own_mapP {W W' : World} {b : Nat} {es : List ((List UInt8 × Nat) × Unit)} (h : MapW plV unV W b es) (k : Below W.heap.size W W') : MapW plV unV W' b es := h.keep k

set_option maxHeartbeats 4000000 in
/-- the iterator: each key comes, once, in some order -/
theorem keys1P (l Bm b : Nat) (es : List ((List UInt8 × Nat) × Unit)) (J : List (List UInt8 × Nat) → World → Prop) (W : World)
    (hY : ∀ pre x W1, J pre W1 → pre.length < es.length → YieldAt Fence.wide 0 Try.prog l #[(.agg #[.string (str x.1), .int .i64 (x.2 : Int)])] W1 fun e W' => e = .returned (.bool true) ∧ J (pre ++ [x]) W' ∧ KeepsWalks W1 W')
    (hJ : AbidesFrom W.heap.size J) (hm : W.cell? ⟨Bm, 0, none⟩ = some (.map (some b))) (hown : MapW plV unV W b es) (h0 : J [] W) :
    Calls Try.prog 66 #[.func (.yield l) #[] #[], .pointer (some ⟨Bm, 0, none⟩)] W fun e W' => (∃ v, e = .returned v) ∧ ∃ ss : List (List UInt8 × Nat), ss.Perm (es.map Prod.fst) ∧ J ss W' := by
  refine (callsIn_wide (n := 1)).1 ?_
  have OW := Lib.hid hown
  have HY := Lib.hid hY
  have HJ := Lib.hid hJ
  have H0 := Lib.hid h0
  clear hown hY hJ h0
  refine callsIn_of_wp Try.func66 rfl trivial ?_ rfl
  simp only [Try.ntmps66, List.size_toArray, List.length_cons, List.length_nil, Nat.reduceAdd, Nat.reduceSub, Array.replicate_succ, Array.replicate_zero, List.push_toArray, List.append_toArray, List.nil_append, List.cons_append]
  gi_wp2_with (first
    | (gi_at_range; refine wpListIn_rangeV _ rfl _ rfl looseT b es rfl OW.out ?_; intro w0 hi0 hk0 hs0)
    | gi_in)
  go_frame
  have HI0 := Lib.hid hi0
  have HK0 := Lib.hid hk0
  clear hi0 hk0 hs0
  gi_loopw [3] (fun _ wr => ∃ (lf : List ((List UInt8 × Nat) × Unit)) (ss : List (List UInt8 × Nat)), IterV plV unV wr b W.heap.size es lf ∧ (ss ++ lf.map Prod.fst).Perm (es.map Prod.fst) ∧ J ss wr)
    (fun _ wr => wr.rangeLeft b W.heap.size)
  case atStart => exact ⟨es, [], HI0.out, by simp, HJ.out [] W w0 none H0.out ⟨HK0.out.os, HK0.out.tape, HK0.out.output, HK0.out.size, fun k hk _ => HK0.out.block k hk⟩ (fun r e => by cases e)⟩
  case round =>
    obtain ⟨lf, ss, hI, hP, hJs⟩ := hrel
    have HP := Lib.hid hP
    have HS := Lib.hid hJs
    have HI := Lib.hid hI
    clear hP hJs
    gi_wp2_with (first
      | (gi_at_next; refine wpListIn_nextV _ rfl _ rfl looseT b W.heap.size es lf rfl HI.out (fun p : List UInt8 × Nat => Value.agg #[.string (str p.1), .int .i64 (p.2 : Int)]) rfl (fun _ : Unit => Value.agg #[]) rfl ?_ ?_)
      | gi_in)
    · intro hd
      have HD := Lib.hid hd
      clear hd
      gi_wp2
      go_end0
      exact ⟨⟨_, rfl⟩, ss, by have := HP.out; rw [HD.out] at this; simpa using this, HS.out⟩
    · rintro xa xb y lf' w2 hp hI2 ho2 hen
      have hJ2 : J ss w2 := HJ.out ss wr w2 (some W.heap.size) HS.out (Only.grownBy ho2) (fun r e => by cases e; exact ⟨Nat.le_refl _, HI.out.walk⟩)
      have hlen : ss.length < es.length := by
        have h1 := HP.out.length_eq
        have h2 := hp.length_eq
        simp only [List.length_append, List.length_map, List.length_cons] at h1 h2
        omega
      have HPP := Lib.hid hp
      obtain ⟨fn, tmps, assign, body, hy, hR⟩ := HY.out ss (xa, xb) (w2.alloc (.cells #[.string (str xa), .int .i64 (xb : Int)] 63)) (HJ.out ss w2 _ none hJ2 ⟨rfl, rfl, rfl, by simp, fun k hk _ => Below.heap_alloc _ _ k hk⟩ (fun r e => by cases e)) hlen
      have HI2 := Lib.hid (hI2.keep (keeps_alloc w2 (.cells #[.string (str xa), .int .i64 (xb : Int)] 63)))
      clear hp hI2 ho2 hJ2 hlen
      gi_wp2
      refine hR.mono ?_
      rintro e W3 ⟨rfl, hJ3, hk3⟩
      gi_wp2
      have hI3 := HI2.out.walks hk3
      go_roundw
      case rel =>
        refine ⟨lf', ss ++ [(xa, xb)], hI3, ?_, hJ3⟩
        have h1 := HPP.out.map Prod.fst
        have h2 : (ss ++ lf.map Prod.fst).Perm ((ss ++ [(xa, xb)]) ++ lf'.map Prod.fst) := by
          rw [List.append_assoc]
          exact List.Perm.append_left ss (by simpa using h1)
        exact h2.symm.trans HP.out
      case measure =>
        rw [hI3.left_eq, HI.out.left_eq]
        have := HPP.out.length_eq
        simp at this
        omega
/-- maps.Keys(m): the map in a box of its own -/
theorem keysP (mb : Option Nat) (w : World) : Calls Try.prog 42 #[.map mb] w fun e w' => e = .returned (.func (.func 66) #[] #[.pointer (some ⟨w.heap.size, 0, none⟩)]) ∧ w' = w.alloc (.cells #[.map mb] 81) := by
  go_enter Try.func42, Try.ntmps42
  go_wp2_with fail
  go_ret
  exact ⟨rfl, rfl⟩

/-! ### slices.AppendSeq(nil, seq) -/
def apAP : Code := Code.region 2 #[{ dst := some 5, op := Op.alloc 63, type := 0, pos := "iter.go:51", after := #[], guard := none }, { dst := none, op := Op.store 63 (Operand.tmp 5) (Operand.tmp 7), type := 0, pos := "iter.go:51", after := #[{ on := 0, ground := Ground.data }, { on := 0, ground := Ground.phase }], guard := none }] false
def apBP : Code := Code.block 1 (Code.region 3 #[{ dst := some 8, op := Op.load 37 (Operand.tmp 2), type := 37, pos := "iter.go:52", after := #[], guard := none }, { dst := some 9, op := Op.load 63 (Operand.tmp 5), type := 63, pos := "iter.go:52", after := #[], guard := none }, { dst := some 10, op := Op.buildSlice 37 1 #[(0, Operand.tmp 9)], type := 37, pos := "iter.go:52", after := #[{ on := 1, ground := Ground.data }], guard := none }, { dst := some 11, op := Op.call { callee := Callee.builtin Builtin.append, args := #[Operand.tmp 8, Operand.tmp 10], argTypes := #[37, 37] }, type := 37, pos := "iter.go:52", after := #[{ on := 0, ground := Ground.data }, { on := 2, ground := Ground.data }], guard := none }, { dst := none, op := Op.store 37 (Operand.tmp 2) (Operand.tmp 11), type := 0, pos := "iter.go:52", after := #[{ on := 3, ground := Ground.data }, { on := 3, ground := Ground.chain }, { on := 0, ground := Ground.phase }, { on := 1, ground := Ground.phase }, { on := 2, ground := Ground.phase }, { on := 3, ground := Ground.phase }], guard := none }] false)
def apRP (fn : FuncId) (sv : Value) (Bs D : Nat) (st : LoopState) : Loop :=
  { state := st, pending := none, fn, tmps := #[.slice none 0 0, sv, .pointer (some ⟨Bs, 0, none⟩), undef, .slice none 0 0, undef, sv, undef, undef, undef, undef, undef, undef], params := #[7], assign := apAP, body := apBP, defers := D }
/-- between two rounds -/
structure ApAtP (w0 : World) (fn : FuncId) (sv : Value) (Bs l D : Nat) (ss : List (List UInt8 × Nat)) (W : World) : Prop where
  box : ∃ v, W.heap[Bs]? = some (.cells #[v] 37 (0, 0)) ∧ W.ownsRow w0.heap.size 63 2 v ss.length (ss.flatMap celP)
  L : W.heap[l]? = some (.loop (apRP fn sv Bs D .ready))
  K : W.heap[D]? = some (.deferred (some []))
  below : Keeps w0 W
theorem ap_abidesP (w0 : World) (fn : FuncId) (sv : Value) (Bs l D B : Nat) (hB : w0.heap.size ≤ B) : AbidesFrom B (ApAtP w0 fn sv Bs l D) := fun s W W' row h hg hrow => by
  have hrow' : ∀ r, row = some r → ∃ o : Obj, W.heap[r]? = some o ∧ o.isWalk = true := fun r e => (hrow r e).2
  obtain ⟨v, hv, hr⟩ := h.box
  exact ⟨⟨v, (grownBy_keeps hg hrow' hv rfl).trans hv, ownsRow_walked hr hg hrow'⟩, (grownBy_keeps hg hrow' h.L rfl).trans h.L, (grownBy_keeps hg hrow' h.K rfl).trans h.K, h.below.grown hg h.below.size (fun k e => Nat.le_trans hB (hrow k e).1)⟩
set_option maxHeartbeats 8000000 in
theorem apYieldP (w0 : World) (fn : FuncId) (sv : Value) (Bs l D : Nat) (hBl : Bs ≠ l) (hDl : D ≠ l) (hDB : D ≠ Bs) (h0B : w0.heap.size ≤ Bs) (h0l : w0.heap.size ≤ l)
    (N : Nat) (hN : N ≤ 1000000000) (ss : List (List UInt8 × Nat)) (x : List UInt8 × Nat) (W : World) (h : ApAtP w0 fn sv Bs l D ss W) (hlen : ss.length < N) :
    YieldAt Fence.wide 0 Try.prog l #[(.agg #[.string (str x.1), .int .i64 (x.2 : Int)])] W fun e W' => e = .returned (.bool true) ∧ ApAtP w0 fn sv Bs l D (ss ++ [x]) W' ∧ KeepsWalks W W' := by
  obtain ⟨i0, hi, hz0, hz1, hz2⟩ := info_parts infoP
  have hlW : l < W.heap.size := (Array.getElem?_eq_some_iff.1 h.L).1
  obtain ⟨Wa, hWa⟩ : ∃ Wa, W.alloc (.cells #[.string (str x.1), .int .i64 (x.2 : Int)] 63) = Wa := ⟨_, rfl⟩
  have hA : ApAtP w0 fn sv Bs l D ss Wa := by rw [← hWa]; exact ap_abidesP w0 fn sv Bs l D w0.heap.size (Nat.le_refl _) ss W _ none h ⟨rfl, rfl, rfl, by simp, fun k hk _ => Below.heap_alloc _ _ k hk⟩ (fun r e => by cases e)
  have hkw : KeepsWalks W Wa := by rw [← hWa]; exact KeepsWalks.alloc _ _
  have qb : Box Wa W.heap.size 63 #[.string (str x.1), .int .i64 (x.2 : Int)] := by rw [← hWa]; exact Box.new _ _ _
  obtain ⟨v, hv, hrow⟩ := hA.box
  have hne : 37 ≠ 63 := by decide
  refine ⟨fn, #[.slice none 0 0, sv, .pointer (some ⟨Bs, 0, none⟩), undef, .slice none 0 0, undef, sv, (.agg #[.string (str x.1), .int .i64 (x.2 : Int)]), undef, undef, undef, undef, undef], apAP, apBP, by simpa [apRP] using run_yield (P := Try.prog) (args := #[(.agg #[.string (str x.1), .int .i64 (x.2 : Int)])]) h.L rfl, roundIn_of_wpIn trivial ?_⟩
  have hl : l < Wa.heap.size := (Array.getElem?_eq_some_iff.1 hA.L).1
  have hbr := run_beginRound (P := Try.prog) hA.L rfl
  obtain ⟨W2, hW2⟩ : ∃ W2, Wa.putObj l (.loop { apRP fn sv Bs D .ready with state := .busy }) = W2 := ⟨_, rfl⟩
  rw [hW2] at hbr
  have hg2 : Wa.grownBy W2 (some l) := by rw [← hW2]; exact grownBy_obj _ _ _
  have hk2 : KeepsWalks W W2 := hkw.trans (by rw [← hW2]; exact KeepsWalks.putObj _ hA.L rfl)
  have hv2 : W2.heap[Bs]? = some (.cells #[v] 37 (0, 0)) := by rw [← hW2]; exact (World.putObj_heap_other hBl).trans hv
  have hK2 : W2.heap[D]? = some (.deferred (some [])) := by rw [← hW2]; exact (World.putObj_heap_other hDl).trans hA.K
  have hL2 : W2.heap[l]? = some (.loop (apRP fn sv Bs D .busy)) := by rw [← hW2]; exact World.putObj_heap_same hl
  have hrow2 : W2.ownsRow w0.heap.size 63 2 v ss.length (ss.flatMap celP) := hrow.kept hg2 (ownsRow_apart hrow hA.L (fun cur e => by cases e))
  have hb2 : Keeps w0 W2 := hA.below.grown hg2 hA.below.size (fun k e => by cases e; exact h0l)
  obtain ⟨hc2, hf2⟩ := box_cell hv2
  have hBlt : Bs < W2.heap.size := (Array.getElem?_eq_some_iff.1 hv2).1
  have hl2 : l < W2.heap.size := (Array.getElem?_eq_some_iff.1 hL2).1
  have hDlt : D < W2.heap.size := (Array.getElem?_eq_some_iff.1 hK2).1
  have no1 : ∀ cur : Array Value, Obj.cells #[v] 37 (0, 0) ≠ .cells cur 63 (0, 0) := fun cur e => hne (Obj.cells.inj e).2.1
  have ne_of : ∀ {j : Nat} {o : Obj}, W2.heap[j]? = some o → (∀ cur, o ≠ .cells cur 63 (0, 0)) → some j ≠ v.ownBlock := fun hj hno => by
    rcases ownsRow_apart hrow2 hj hno with e | e
    · rw [e]; simp
    · exact fun e' => e e'.symm
  have HB2 := Lib.hid hb2
  have HR2 := Lib.hid hrow2
  have HK2 := Lib.hid hk2
  have qb2 : Box W2 W.heap.size 63 #[.string (str x.1), .int .i64 (x.2 : Int)] := (hg2.block _ qb.lt (fun e => by cases e; omega)).trans qb
  have q0 : W2.cell? ⟨W.heap.size, 0, none⟩ = some (.string (str x.1)) := qb2.cell 0 rfl
  have q1 : W2.cell? ⟨W.heap.size, 1, none⟩ = some (.int .i64 (x.2 : Int)) := qb2.cell 1 rfl
  clear qb qb2
  clear hW2 hb2 hrow2 hk2 hg2 hrow hv hA hkw h
  unfold apAP
  gi_wp2_with (rw [Oper.semAt_eq _ _ _ (fun c h => by cases h)]; go_simp; try go_bits)
  refine ⟨W2, hbr, ?_⟩
  unfold apBP
  gi_wp2_with (first
    | (gi_at_builtin; refine wpListIn_append_own _ rfl _ _ 37 rfl w0.heap.size 63 i0 (.agg #[.string ⟨#[]⟩, .int .i64 0]) 2 24 Try.underlying37 hi hz0 hz1 hz2 rfl (by decide) _ _ _ rfl (HR2.out.alloc _) ⟨W2.heap.size, 0, none⟩ 1 1 (celP x) rfl rfl (by intro j u hu; have := (Box.new W2 63 #[.string (str x.1), .int .i64 (x.2 : Int)]).cell j (v := u) (by simpa [celP] using hu); simpa [Addr.add_lit] using this) (by intro u hu; simp only [celP, List.mem_cons, List.not_mem_nil, or_false] at hu; rcases hu with rfl | rfl <;> rfl) (by unfold maxLen; omega) (by omega) (by have := HB2.out.size; simp; omega) ?_; intro v' w3 hown' hg3 hnil3
       have hv3 : w3.heap[Bs]? = some (.cells #[v] 37 (0, 0)) := (hg3.block Bs (by simp; omega) (ne_of hv2 no1)).trans ((Below.heap_alloc _ _ Bs hBlt).trans hv2)
       obtain ⟨hc3, hf3⟩ := box_cell hv3
       obtain ⟨g', cap', cur', rfl, hbase', hgb', hr1, hr2, hr3, hr4⟩ : ∃ g' cap' cur', v' = .slice (some ⟨g', 0, none⟩) (ss.length + 1) cap' ∧ w0.heap.size ≤ g' ∧ w3.heap[g']? = some (.cells cur' 63 (0, 0)) ∧ ss.length + 1 ≤ cap' ∧ cap' ≤ maxLen ∧ cur'.size = cap' * 2 ∧ cur'.toList.take ((ss.length + 1) * 2) = ss.flatMap celP ++ celP x := by
         rcases hown'.2 with ⟨_, h0⟩ | h'
         · exact absurd h0 (by omega)
         · exact h'
       go_frame)
    | (rw [Oper.semAt_eq _ _ _ (fun c h => by cases h)]; go_simp; try go_bits))
  have hL3 : w3.heap[l]? = some (.loop (apRP fn sv Bs D .busy)) := (hg3.block l (by simp; omega) (ne_of hL2 (fun cur e => by cases e))).trans ((Below.heap_alloc _ _ l hl2).trans hL2)
  have hK3 : w3.heap[D]? = some (.deferred (some [])) := (hg3.block D (by simp; omega) (ne_of hK2 (fun cur e => by cases e))).trans ((Below.heap_alloc _ _ D hDlt).trans hK2)
  obtain ⟨w4, hw4⟩ : ∃ w4, w3.setCell ⟨Bs, 0, none⟩ (.slice (some ⟨g', 0, none⟩) (ss.length + 1) cap') = w4 := ⟨_, rfl⟩
  rw [hw4]
  have hg4 : w3.grownBy w4 (some Bs) := by rw [← hw4]; exact grownBy_cell0 _ _ _
  have hv4 : w4.heap[Bs]? = some (.cells #[.slice (some ⟨g', 0, none⟩) (ss.length + 1) cap'] 37 (0, 0)) := by rw [← hw4]; exact box_setCell _ hv3
  have hL4 : w4.heap[l]? = some (.loop (apRP fn sv Bs D .busy)) := (hg4.block l (Array.getElem?_eq_some_iff.1 hL3).1 (fun e => hBl (by cases e; rfl))).trans hL3
  have hK4 : w4.heap[D]? = some (.deferred (some [])) := (hg4.block D (Array.getElem?_eq_some_iff.1 hK3).1 (fun e => hDB (by cases e; rfl))).trans hK3
  have hrow4 := hown'.kept hg4 (ownsRow_apart hown' hv3 no1)
  have hl4 : l < w4.heap.size := (Array.getElem?_eq_some_iff.1 hL4).1
  have hb3 : Keeps w0 w3 := Below.grown (Below.alloc HB2.out HB2.out.size _) hg3 (by have := HB2.out.size; simp; omega) (fun k e => (HR2.out.lt k e).1)
  have hb4 : Keeps w0 w4 := hb3.grown hg4 hb3.size (fun k e => by cases e; exact h0B)
  have hk4 : KeepsWalks W w4 := ((HK2.out.trans (KeepsWalks.alloc _ _)).trans (KeepsWalks.of_grownBy hg3 (ownsRow_no_walk (HR2.out.alloc _)))).trans (by rw [← hw4]; exact KeepsWalks.setCell _ _ _)
  clear hw4
  refine ⟨_, _, run_endRound none hL4, rfl, ⟨⟨_, (World.putObj_heap_other hBl).trans hv4, ?_⟩, World.putObj_heap_same hl4, (World.putObj_heap_other hDl).trans hK4, hb4.grown (grownBy_obj _ _ _) hb4.size (fun k e => by cases e; exact h0l)⟩, hk4.trans (KeepsWalks.putObj _ hL4 rfl)⟩
  have := hrow4.kept (grownBy_obj w4 l (.loop { apRP fn sv Bs D .busy with state := if (none : Option Code).isNone then .ready else .done, pending := none })) (ownsRow_apart hrow4 hL4 (fun cur e => by cases e))
  simpa using this
set_option maxHeartbeats 8000000 in
/-- slices.AppendSeq(nil, maps.Keys(m)) -/
theorem appendSeqP (Bm b : Nat) (es : List ((List UInt8 × Nat) × Unit)) (w : World) (hm : w.cell? ⟨Bm, 0, none⟩ = some (.map (some b))) (hown : MapW plV unV w b es) (hN : es.length ≤ 1000000000) :
    Calls Try.prog 73 #[.slice none 0 0, .func (.func 66) #[] #[.pointer (some ⟨Bm, 0, none⟩)]] w fun e w' => ∃ (v : Value) (ss : List (List UInt8 × Nat)), e = .returned v ∧ ss.Perm (es.map Prod.fst) ∧ w'.ownsRow w.heap.size 63 2 v ss.length (ss.flatMap celP) ∧ Keeps w w' := by
  have hBm : Bm < w.heap.size := block_lt_of_cell hm
  have eg : ∀ args w, (callFunc 66 args).run Try.prog w = .ok (.enter 66 args) w := enters_of Try.func66 (by kernel_rfl) rfl
  refine (callsIn_wide (n := 2)).1 ?_
  refine callsIn_of_wp_marks Try.func73 rfl trivial ?_ rfl
  simp only [Try.ntmps73, List.size_toArray, List.length_cons, List.length_nil, Nat.reduceAdd, Nat.reduceSub, Array.replicate_succ, Array.replicate_zero, List.push_toArray, List.append_toArray, List.nil_append, List.cons_append]
  gi_wp2
  refine wpIn_rangeFunc ?_
  intro fn hfn
  rw [wide_round]
  obtain ⟨W0, hW0⟩ : ∃ W0, w.alloc (.cells #[.slice none 0 0] 37) = W0 := ⟨_, rfl⟩
  have hs0 : W0.heap.size = w.heap.size + 1 := by rw [← hW0]; simp
  have hv0 : W0.heap[w.heap.size]? = some (.cells #[.slice none 0 0] 37 (0, 0)) := by rw [← hW0]; exact World.alloc_heap_new w _
  have hb0 : Keeps w W0 := by rw [← hW0]; exact keeps_alloc _ _
  rw [hW0]
  obtain ⟨sv, hsv⟩ : ∃ sv, Value.func (.func 66) #[] #[.pointer (some ⟨Bm, 0, none⟩)] = sv := ⟨_, rfl⟩
  obtain ⟨W1, hW1⟩ : ∃ W1, (W0.alloc (.deferred (some []))).alloc (.loop (apRP fn (.func (.func 66) #[] #[.pointer (some ⟨Bm, 0, none⟩)]) w.heap.size W0.heap.size .ready)) = W1 := ⟨_, rfl⟩
  have hold : ∀ k, k < W0.heap.size → W1.heap[k]? = W0.heap[k]? := fun k hk => by
    rw [← hW1]; exact (Below.heap_alloc _ _ k (by simp; omega)).trans (Below.heap_alloc _ _ k hk)
  have hb1 : Keeps w W1 := by rw [← hW1]; exact keeps_trans (keeps_trans hb0 (keeps_alloc _ _)) (keeps_alloc _ _)
  have hs1 : W1.heap.size = W0.heap.size + 2 := by rw [← hW1]; simp
  have hM : ApAtP w fn (.func (.func 66) #[] #[.pointer (some ⟨Bm, 0, none⟩)]) w.heap.size (W0.heap.size + 1) W0.heap.size [] W1 :=
    ⟨⟨_, (hold w.heap.size (by omega)).trans hv0, ⟨rfl, .inl ⟨rfl, rfl⟩⟩⟩,
     by rw [← hW1]; have := World.alloc_heap_new (W0.alloc (.deferred (some []))) (.loop (apRP fn (.func (.func 66) #[] #[.pointer (some ⟨Bm, 0, none⟩)]) w.heap.size W0.heap.size .ready)); rwa [World.size_alloc] at this,
     by rw [← hW1]; exact (Below.heap_alloc _ _ _ (by simp)).trans (World.alloc_heap_new W0 _), hb1⟩
  refine ⟨W0.heap.size + 1, [{ target := .collected W0.heap.size, args := #[] }], W1, { target := .fn (.func 66) #[.pointer (some ⟨Bm, 0, none⟩)], args := #[.func (.yield (W0.heap.size + 1)) #[] #[]] }, W1, 66,
    #[.func (.yield (W0.heap.size + 1)) #[] #[]] ++ #[.pointer (some ⟨Bm, 0, none⟩)], W1, ?_, ?_, fun _ _ => trivial, ?_, fun e => (by cases e), ?_⟩
  · rw [← hW1]; exact run_enterLoop_outer _ _ _ _ _
  · simp [resolve, go_sem]
  · simp [invoke, go_sem, eg]
  · refine callsIn_wide.2 ((keys1P (W0.heap.size + 1) Bm b es (ApAtP w fn (.func (.func 66) #[] #[.pointer (some ⟨Bm, 0, none⟩)]) w.heap.size (W0.heap.size + 1) W0.heap.size) W1
      (fun pre x W hJ hl => apYieldP w fn _ w.heap.size (W0.heap.size + 1) W0.heap.size (by omega) (by omega) (by omega) (Nat.le_refl _) (by omega) es.length hN pre x W hJ hl) (ap_abidesP _ _ _ _ _ _ _ hb1.size) (hb1.cellOf hm) (hown.keep hb1) hM).mono ?_)
    rintro e W2 ⟨⟨v0, rfl⟩, ss, hS, h2⟩
    obtain ⟨v, hv, hrow⟩ := h2.box
    have hend := run_endLoop (P := Try.prog) h2.L (by simp [apRP])
    obtain ⟨W3, hW3⟩ : ∃ W3, W2.putObj (W0.heap.size + 1) (.loop { apRP fn (.func (.func 66) #[] #[.pointer (some ⟨Bm, 0, none⟩)]) w.heap.size W0.heap.size .ready with state := .exhausted }) = W3 := ⟨_, rfl⟩
    rw [hW3] at hend
    have hg3 : W2.grownBy W3 (some (W0.heap.size + 1)) := by rw [← hW3]; exact grownBy_obj _ _ _
    have hv3 : W3.heap[w.heap.size]? = some (.cells #[v] 37 (0, 0)) := by rw [← hW3]; exact (World.putObj_heap_other (by omega)).trans hv
    have hK3 : W3.heap[W0.heap.size]? = some (.deferred (some [])) := by rw [← hW3]; exact (World.putObj_heap_other (by omega)).trans h2.K
    have hrow3 := hrow.kept hg3 (ownsRow_apart hrow h2.L (fun cur e => by cases e))
    have hb3 : Keeps w W3 := h2.below.grown hg3 h2.below.size (fun k e => by cases e; omega)
    obtain ⟨hc3, hf3⟩ := box_cell hv3
    clear hW3
    refine ⟨none, W3, hend, ?_⟩
    gi_wp2
    rw [← hs0]
    refine ⟨by simp, .inl ⟨_, _, rfl, run_takeDeferred hK3, ?_⟩⟩
    exact ⟨_, results_tmp rfl _ _ _, v, ss, rfl, hS, hrow3.kept (grownBy_obj _ _ _) (ownsRow_apart hrow3 hK3 (fun cur e => by cases e)), hb3.grown (grownBy_obj _ _ _) hb3.size (fun k e => by cases e; omega)⟩
set_option maxHeartbeats 4000000 in
/-- slices.Collect(maps.Keys(m)) -/
theorem collectP (Bm b : Nat) (es : List ((List UInt8 × Nat) × Unit)) (w : World) (hm : w.cell? ⟨Bm, 0, none⟩ = some (.map (some b))) (hown : MapW plV unV w b es) (hN : es.length ≤ 1000000000) :
    Calls Try.prog 64 #[.func (.func 66) #[] #[.pointer (some ⟨Bm, 0, none⟩)]] w fun e w' => ∃ (v : Value) (ss : List (List UInt8 × Nat)), e = .returned v ∧ ss.Perm (es.map Prod.fst) ∧ w'.ownsRow w.heap.size 63 2 v ss.length (ss.flatMap celP) ∧ Keeps w w' := by
  have AP := Lib.hid (appendSeqP Bm b es w hm hown hN)
  clear hm hown
  go_enter Try.func64, Try.ntmps64
  go_wp2_with (go_at_call 73; refine AP.out.mono ?_; rintro e w' ⟨v, ss, rfl, hS, hrow, hb⟩)
  go_ret
  exact ⟨v, ss, rfl, hS, hrow, hb⟩
end Go.Proofs.Ytpbkkbkpodcgnaa
