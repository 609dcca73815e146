/- The contracts of package heap: New, Push, Pop, Len; HeapOk. -/
import Derived.Test.YtkijfbnibfbldaaHeap
namespace Go.Proofs.Ytkijfbnibfbldaa
open Go.RowKit
set_option linter.unusedSimpArgs false
set_option linter.unusedVariables false
set_option maxRecDepth 100000

theorem heapLen_any {w : World} {b : Nat} {v : Value} {l : List It} (h : TreeAt w b v l) (hl : l.length ≤ 65536) :
    Calls Try.prog 42 #[.pointer (some ⟨b, 0, none⟩)] w fun e w' => e = .returned (.int .i64 (l.length : Int)) ∧ Keeps w w' := by
  obtain ⟨A, cap, rfl, _⟩ := h.own.form
  have c0 := h.box.cell 0 rfl
  have lb := h.box.lt
  clear h
  go_enter Try.func42, Try.ntmps42
  go_wp2
  go_ret
  exact ⟨rfl, keeps_refl _⟩
theorem heapLen_nil (w : World) : Calls Try.prog 42 #[.pointer none] w fun e w' => e = .returned (.int .i64 0) ∧ Keeps w w' := by
  go_enter Try.func42, Try.ntmps42
  go_wp2
  go_ret
  exact ⟨rfl, keeps_refl _⟩
theorem heapNew_any (w : World) : Calls Try.prog 36 #[] w fun e w' => ∃ b, e = .returned (.pointer (some ⟨b, 0, none⟩)) ∧ TreeAt w' b (.slice none 0 0) [] ∧ w.heap.size ≤ b ∧ Keeps w w' := by
  have k0 := keeps_alloc w (.cells #[.slice none 0 0, .func (.func 41) #[] #[]] 94)
  have B0 := Box.new w 94 #[.slice none 0 0, .func (.func 41) #[] #[]]
  go_enter Try.func36, Try.ntmps36
  go_wp2
  go_ret
  exact ⟨_, rfl, ⟨B0, Own.nil _ _ _ _, by simp [Value.ownBlock]⟩, Nat.le_refl _, k0⟩
theorem heapPush_nil (x : It) (w : World) : Calls Try.prog 44 #[.pointer none, .agg #[.int .u64 (x.k : Int), .int .u32 (x.i : Int)]] w fun e w' => e = .returned (.int .i64 2) ∧ Keeps w w' := by
  have k0 := keeps_alloc w (.cells #[.int .u64 (x.k : Int), .int .u32 (x.i : Int)] 71)
  go_enter Try.func44, Try.ntmps44
  go_wp2
  go_ret
  exact ⟨rfl, k0⟩
theorem heapPop_nil (w : World) : Calls Try.prog 38 #[.pointer none] w fun e w' => e = .returned (.tuple #[.agg #[.int .u64 0, .int .u32 0], .bool false]) ∧ Keeps w w' := by
  have k0 := keeps_alloc w (.cells #[.int .u64 0, .int .u32 0] 71)
  go_enter Try.func38, Try.ntmps38
  go_wp2
  exact bodyPost_ret (v := .tuple #[.agg #[.int .u64 0, .int .u32 0], .bool false]) (by simp [results, Try.results38, go_sem]) rfl ⟨rfl, k0⟩

set_option maxHeartbeats 1000000 in
theorem heapFull_any {w : World} {b : Nat} {v : Value} {l : List It} (x : It) (h : TreeAt w b v l) (hl : l.length = 65536) :
    Calls Try.prog 44 #[.pointer (some ⟨b, 0, none⟩), .agg #[.int .u64 (x.k : Int), .int .u32 (x.i : Int)]] w fun e w' => e = .returned (.int .i64 9) ∧ Keeps w w' := by
  have k0 := keeps_alloc w (.cells #[.int .u64 (x.k : Int), .int .u32 (x.i : Int)] 71)
  have L := Lib.hid (heapLen_any (h.keep k0) (by omega))
  rw [hl] at L
  have hb : decide ((65536 : Int) ≤ 65536) = true := by decide
  clear h hl
  go_enter Try.func44, Try.ntmps44
  go_wp2_with fail
  refine L.out.mono ?_
  rintro e w1 ⟨rfl, k1⟩
  go_wp2_with fail
  go_ret
  exact ⟨rfl, keeps_trans k0 k1⟩

set_option maxHeartbeats 4000000 in
theorem heapPush_any {w : World} {b : Nat} {v : Value} {l : List It} (x : It) (h : TreeAt w b v l) (ho : Ord l) (hl : l.length < 65536) :
    Calls Try.prog 44 #[.pointer (some ⟨b, 0, none⟩), .agg #[.int .u64 (x.k : Int), .int .u32 (x.i : Int)]] w fun e w' => ∃ v' m, e = .returned (.int .i64 0) ∧ TreeAt w' b v' m ∧ m.Perm (x :: l) ∧ Ord m ∧ Turns w w' (RS b v) (RS b v') := by
  have k0 := keeps_alloc w (.cells #[.int .u64 (x.k : Int), .int .u32 (x.i : Int)] 71)
  have BX := Lib.hid (Box.new w 71 #[.int .u64 (x.k : Int), .int .u32 (x.i : Int)])
  have L := Lib.hid (heapLen_any (h.keep k0) (by omega))
  have H := Lib.hid (h.keep k0)
  have HO := Lib.hid ho
  have HL := Lib.hid hl
  have K0 := Lib.hid k0
  have hb : decide ((65536 : Int) ≤ (l.length : Int)) = false := decide_eq_false (by omega)
  clear h hl ho k0
  go_enter Try.func44, Try.ntmps44
  go_wp2_with fail
  generalize w.alloc (.cells #[.int .u64 (x.k : Int), .int .u32 (x.i : Int)] 71) = W0 at *
  refine L.out.mono ?_
  rintro e w1 ⟨rfl, k1⟩
  have h1 := H.out.keep k1
  have b1 := BX.out.keep k1
  have c0 := h1.box.cell 0 rfl
  have lb := h1.box.lt
  have x0 := b1.cell 0 rfl
  have x1 := b1.cell 1 rfl
  have xl := b1.lt
  have P := Lib.hid (fun V (k : Keeps w1 V) => put_any x (h1.keep k) (by have := HL.out; omega) HO.out)
  have SS := Lib.hid (fun (V : World) (kk : Keeps w1 V) => And.intro ((h1.box.keep kk).cell 0 rfl) (And.intro ((b1.keep kk).cell 0 rfl) ((b1.keep kk).cell 1 rfl)))
  have K1 := Lib.hid k1
  clear h1 b1 k1
  go_wp2_with fail
  go_region_with (go_at_call 48; refine (P.out _ (keeps_drew _)).mono ?_; rintro ee w2 ⟨v', m, rfl, t2, p2, o2, u2⟩)
  all_goals
    go_wp2_with fail
    go_ret
    exact ⟨v', m, rfl, t2, p2, o2, (Turns.of_keeps (keeps_trans K0.out (keeps_trans K1.out (keeps_drew _)))).trans u2⟩

set_option maxHeartbeats 4000000 in
theorem heapPop_none {w : World} {b : Nat} {v : Value} (h : TreeAt w b v []) :
    Calls Try.prog 38 #[.pointer (some ⟨b, 0, none⟩)] w fun e w' => e = .returned (.tuple #[.agg #[.int .u64 0, .int .u32 0], .bool false]) ∧ Keeps w w' := by
  have k0 := keeps_alloc w (.cells #[.int .u64 0, .int .u32 0] 71)
  have B0 := Lib.hid (Box.new w 71 #[.int .u64 0, .int .u32 0])
  have T := Lib.hid (take_none (h.keep k0))
  have lb := h.box.lt
  have K0 := Lib.hid k0
  clear h k0
  go_enter Try.func38, Try.ntmps38
  go_wp2_with fail
  generalize w.alloc (.cells #[.int .u64 0, .int .u32 0] 71) = W0 at *
  refine T.out.mono ?_
  rintro e w1 ⟨rfl, k1⟩
  have B1 := B0.out.keep k1
  have y0 := B1.cell 0 rfl
  have y1 := B1.cell 1 rfl
  have g0 := B1.frozen 0
  have g1 := B1.frozen 1
  have l1 := B1.lt
  have EE : Box ((w1.setCell ⟨w.heap.size, 0, none⟩ (.int .u64 0)).setCell ⟨w.heap.size, 1, none⟩ (.int .u32 0)) w.heap.size 71 #[.int .u64 0, .int .u32 0] := by
    simpa using (B1.set 0 (.int .u64 0)).set 1 (.int .u32 0)
  have FK := Lib.hid (show Keeps w ((w1.setCell ⟨w.heap.size, 0, none⟩ (.int .u64 0)).setCell ⟨w.heap.size, 1, none⟩ (.int .u32 0)) from by
    have k2 := keeps_trans K0.out k1
    refine ⟨k2.os, k2.tape, k2.output, by simpa using k2.size, fun i hi => ?_⟩
    have hne : i ≠ w.heap.size := by omega
    rw [Below.heap_setCell _ ⟨w.heap.size, 1, none⟩ _ i hne, Below.heap_setCell _ ⟨w.heap.size, 0, none⟩ _ i hne]
    exact k2.block i hi)
  have EH := Lib.hid EE
  clear EE B1 k1
  go_wp2_with fail
  clear y0 y1 g0 g1
  have q0 := EH.out.cell 0 rfl
  have q1 := EH.out.cell 1 rfl
  have FK' := FK.out
  generalize (w1.setCell ⟨w.heap.size, 0, none⟩ (.int .u64 0)).setCell ⟨w.heap.size, 1, none⟩ (.int .u32 0) = w8 at *
  exact bodyPost_ret (v := .tuple #[.agg #[.int .u64 0, .int .u32 0], .bool false]) (by simp [results, Try.results38, go_sem, q0, q1]) rfl ⟨rfl, FK'⟩

set_option maxHeartbeats 4000000 in
theorem heapPop_some {w : World} {b : Nat} {v : Value} {l : List It} (h : TreeAt w b v l) (ho : Ord l) (hl : l.length ≤ 65536) (hpos : 0 < l.length) :
    Calls Try.prog 38 #[.pointer (some ⟨b, 0, none⟩)] w fun e w' => ∃ v' m, e = .returned (.tuple #[.agg #[.int .u64 ((it l 0).k : Int), .int .u32 ((it l 0).i : Int)], .bool true]) ∧ TreeAt w' b v' m ∧ (it l 0 :: m).Perm l ∧ Ord m ∧ Turns w w' (RS b v) (RS b v') := by
  have k0 := keeps_alloc w (.cells #[.int .u64 0, .int .u32 0] 71)
  have B0 := Lib.hid (Box.new w 71 #[.int .u64 0, .int .u32 0])
  have T := Lib.hid (take_some (h.keep k0) hl hpos ho)
  have lb := h.box.lt
  have K0 := Lib.hid k0
  have H := Lib.hid h
  clear h k0
  generalize it l 0 = x at *
  go_enter Try.func38, Try.ntmps38
  go_wp2_with fail
  generalize w.alloc (.cells #[.int .u64 0, .int .u32 0] 71) = W0 at *
  refine T.out.mono ?_
  rintro e w1 ⟨v', m, rfl, t1, p1, o1, u1⟩
  have hnb : ∀ c, RS b v c → c ≠ w.heap.size := fun c hc => by have := H.out.lt c hc; omega
  have hnb' : ∀ c, RS b v' c → c ≠ w.heap.size := fun c hc => by
    rcases u1.next c hc with e | e
    · exact hnb c e
    · have := B0.out.lt
      omega
  have B1 : Box w1 w.heap.size 71 #[.int .u64 0, .int .u32 0] := (u1.only.block _ B0.out.lt (fun e => hnb _ e rfl)).trans B0.out
  have y0 := B1.cell 0 rfl
  have y1 := B1.cell 1 rfl
  have g0 := B1.frozen 0
  have g1 := B1.frozen 1
  have l1 := B1.lt
  have EE : Box ((w1.setCell ⟨w.heap.size, 0, none⟩ (.int .u64 (x.k : Int))).setCell ⟨w.heap.size, 1, none⟩ (.int .u32 (x.i : Int))) w.heap.size 71 #[.int .u64 (x.k : Int), .int .u32 (x.i : Int)] := by
    simpa using (B1.set 0 (.int .u64 (x.k : Int))).set 1 (.int .u32 (x.i : Int))
  have FK := Lib.hid (show TreeAt ((w1.setCell ⟨w.heap.size, 0, none⟩ (.int .u64 (x.k : Int))).setCell ⟨w.heap.size, 1, none⟩ (.int .u32 (x.i : Int))) b v' m ∧ Turns w ((w1.setCell ⟨w.heap.size, 0, none⟩ (.int .u64 (x.k : Int))).setCell ⟨w.heap.size, 1, none⟩ (.int .u32 (x.i : Int))) (RS b v) (RS b v') from by
    have hs : ∀ i, i ≠ w.heap.size → ((w1.setCell ⟨w.heap.size, 0, none⟩ (.int .u64 (x.k : Int))).setCell ⟨w.heap.size, 1, none⟩ (.int .u32 (x.i : Int))).heap[i]? = w1.heap[i]? := fun i hi => by
      rw [Below.heap_setCell _ ⟨w.heap.size, 1, none⟩ _ i hi, Below.heap_setCell _ ⟨w.heap.size, 0, none⟩ _ i hi]
    have u2 := (Turns.of_keeps (S := RS b v) K0.out).trans u1
    exact ⟨t1.same fun c hc => hs c (hnb' c hc), ⟨u2.only.os, u2.only.tape, u2.only.output, by simpa using u2.only.size, fun i hi hn => (hs i (by omega)).trans (u2.only.block i hi hn)⟩, u2.next⟩)
  have EH := Lib.hid EE
  have HB := Lib.hid (And.intro hnb hnb')
  clear EE B1 t1 u1 hnb hnb'
  go_wp2_with fail
  clear y0 y1 g0 g1
  have q0 := EH.out.cell 0 rfl
  have q1 := EH.out.cell 1 rfl
  obtain ⟨TF, UF⟩ := FK.out
  generalize (w1.setCell ⟨w.heap.size, 0, none⟩ (.int .u64 (x.k : Int))).setCell ⟨w.heap.size, 1, none⟩ (.int .u32 (x.i : Int)) = w8 at *
  exact bodyPost_ret (v := .tuple #[.agg #[.int .u64 (x.k : Int), .int .u32 (x.i : Int)], .bool true]) (by simp [results, Try.results38, go_sem, q0, q1]) rfl ⟨v', m, rfl, TF, p1, o1, UF⟩

/-! ### All of it -/
/-- a heap of the items l, in whatever order -/
def HAt (w : World) (p : Addr) (F : Nat → Prop) (l : List It) : Prop := ∃ b v m, p = ⟨b, 0, none⟩ ∧ F = RS b v ∧ TreeAt w b v m ∧ Ord m ∧ m.Perm l
def heapOk : HeapOk where
  H := HAt
  lt := by
    rintro w p F l ⟨b, v, m, rfl, rfl, t, o, q⟩ c hc
    exact t.lt c hc
  same := by
    rintro w w' p F l ⟨b, v, m, rfl, rfl, t, o, q⟩ k
    exact ⟨b, v, m, rfl, rfl, t.same k, o, q⟩
  perm := by
    rintro w p F l m' ⟨b, v, m, rfl, rfl, t, o, q⟩ hp
    exact ⟨b, v, m, rfl, rfl, t, o, q.trans hp⟩
  new := by
    intro w
    refine (heapNew_any w).mono ?_
    rintro e w' ⟨b, rfl, t, hb, k⟩
    refine ⟨_, _, rfl, ⟨b, _, _, rfl, rfl, t, Ord.nil, List.Perm.refl _⟩, fun c hc => ?_, k⟩
    rcases hc with rfl | hc
    · exact hb
    · simp [Value.ownBlock] at hc
  push := by
    rintro w p F l x ⟨b, v, m, rfl, rfl, t, o, q⟩ hx hl
    refine (heapPush_any x t o (by rw [q.length_eq]; exact hl)).mono ?_
    rintro e w' ⟨v', m', rfl, t', p', o', u'⟩
    exact ⟨_, rfl, ⟨b, v', m', rfl, rfl, t', o', p'.trans (q.cons x)⟩, u'⟩
  full := by
    rintro w p F l x ⟨b, v, m, rfl, rfl, t, o, q⟩ hx hl
    refine (heapFull_any x t (by rw [q.length_eq]; exact hl)).mono ?_
    rintro e w' ⟨rfl, k⟩
    exact ⟨_, rfl, ⟨b, v, m, rfl, rfl, t.keep k, o, q⟩, Turns.of_keeps k⟩
  pop := by
    rintro w p F l x ⟨b, v, m, rfl, rfl, t, o, q⟩ hx hok hl
    have hpos : 0 < m.length := by
      rw [q.length_eq]
      exact List.length_pos_of_mem hx.mem
    have e0 : it m 0 = x := ((o.first hpos).perm q).eq hx
    refine (heapPop_some t o (by rw [q.length_eq]; exact hl) hpos).mono ?_
    rintro e w' ⟨v', m', rfl, t', p', o', u'⟩
    rw [e0] at p' ⊢
    exact ⟨_, rfl, ⟨b, v', m', rfl, rfl, t', o', (List.cons_perm_iff_perm_erase.1 (p'.trans q)).2⟩, u'⟩
  empty := by
    rintro w p F ⟨b, v, m, rfl, rfl, t, o, q⟩
    obtain rfl : m = [] := List.eq_nil_of_length_eq_zero (by simpa using q.length_eq)
    refine (heapPop_none t).mono ?_
    rintro e w' ⟨rfl, k⟩
    exact ⟨_, rfl, ⟨b, v, [], rfl, rfl, t.keep k, o, q⟩, Turns.of_keeps k⟩
  len := by
    rintro w p F l ⟨b, v, m, rfl, rfl, t, o, q⟩ hl
    have := heapLen_any t (by rw [q.length_eq]; exact hl)
    rw [q.length_eq] at this
    exact this
  pushNil := fun x w _ => heapPush_nil x w
  popNil := heapPop_nil
  lenNil := heapLen_nil
end Go.Proofs.Ytkijfbnibfbldaa
