/- Package disk: maps where the order is drawn; which sectors are loose no more. -/
import Derived.Test.YtpbkkbkpodcgnaaDkMem
import Derived.Shelf.Abstract
namespace Go.Proofs.Ytpbkkbkpodcgnaa
open Go.RowKit Go.Shelf
set_option linter.unusedSimpArgs false
set_option linter.unusedVariables false
set_option maxRecDepth 100000

section
variable {κ ε : Type} [DecidableEq κ] {P : Program} {M K V : TypeId} {kv : κ → Value} {ev : ε → Value} (w : World) {ops : Array Oper} {o : Oper} {a : Act} {KK : Act → World → Prop} {Q : Exit → Act → World → Prop} {E : Prop}
theorem step_putV (hg : o.guard = none) (m x v : Operand) (hop : o.op = Op.mapUpdate M m x v) (T : MapV P M K V kv ev) (b : Nat) (l : List (κ × ε)) (hm : a.eval m = .map (some b)) (h : MapW kv ev w b l) (k : κ) (hx : a.eval x = kv k) (y : ε) (hv : a.eval v = ev y)
    (hK : ∀ w', MapW kv ev w' b (putM l k y) → Only w w' (fun c => c = b) → KK (a.put o.dst undef) w') : if Region.wanted o (yielded ops a.tmps) = true then Oper.wp P o a w KK Q else E := by
  have hw : Region.wanted o (yielded ops a.tmps) = true := by simp [Region.wanted, hg]
  rw [if_pos hw]
  obtain ⟨w', hrun, r1, r2⟩ := run_putV T h k y
  unfold Oper.wp
  simp [execOp, hop, hm, hx, hv, hrun, Result.andThen]
  exact hK w' r1 r2
theorem step_delV (hg : o.guard = none) (m x : Operand) (hop : o.op = Op.call { callee := Callee.builtin Builtin.delete, args := #[m, x], argTypes := #[M, K] }) (T : MapV P M K V kv ev) (b : Nat) (l : List (κ × ε)) (hm : a.eval m = .map (some b)) (h : MapW kv ev w b l) (k : κ) (hx : a.eval x = kv k)
    (hK : ∀ w', MapW kv ev w' b (delM l k) → Only w w' (fun c => c = b) → KK (a.put o.dst (.tuple #[])) w') : if Region.wanted o (yielded ops a.tmps) = true then Oper.wp P o a w KK Q else E := by
  have hw : Region.wanted o (yielded ops a.tmps) = true := by simp [Region.wanted, hg]
  rw [if_pos hw]
  obtain ⟨w', hrun, r1, r2⟩ := run_delV T h k o.type
  unfold Oper.wp
  simp [execOp, hop, resolve, invoke, builtin, hm, hx, hrun, Result.andThen]
  exact hK w' r1 r2
theorem step_delIter (hg : o.guard = none) (m x : Operand) (hop : o.op = Op.call { callee := Callee.builtin Builtin.delete, args := #[m, x], argTypes := #[M, K] }) (T : MapV P M K V kv ev) (b r : Nat) (l lf : List (κ × ε)) (hm : a.eval m = .map (some b)) (h : IterV kv ev w b r l lf) (k : κ) (hx : a.eval x = kv k)
    (hK : ∀ w', IterV kv ev w' b r (delM l k) (delM lf k) → Only w w' (fun c => c = b) → KK (a.put o.dst (.tuple #[])) w') : if Region.wanted o (yielded ops a.tmps) = true then Oper.wp P o a w KK Q else E := by
  have hw : Region.wanted o (yielded ops a.tmps) = true := by simp [Region.wanted, hg]
  rw [if_pos hw]
  obtain ⟨w', hrun, r1, r2⟩ := run_delIter T h k o.type
  unfold Oper.wp
  simp [execOp, hop, resolve, invoke, builtin, hm, hx, hrun, Result.andThen]
  exact hK w' r1 r2
end
/-! ### forget -/
abbrev Pl := List UInt8 × Nat
def keepL (l : List (Pl × Unit)) (pq : Pl → Bool) (ss : List Pl) : List (Pl × Unit) := l.filter fun p => !(decide (p.1 ∈ ss) && pq p.1)
theorem keepL_nil (l : List (Pl × Unit)) (pq : Pl → Bool) : keepL l pq [] = l := by
  unfold keepL
  rw [List.filter_eq_self]
  intro p hp
  simp
theorem keepL_all {l : List (Pl × Unit)} {pq : Pl → Bool} {ss : List Pl} (h : ss.Perm (l.map Prod.fst)) : keepL l pq ss = l.filter fun p => !pq p.1 := by
  unfold keepL
  apply List.filter_congr
  intro p hp
  have : p.1 ∈ ss := h.mem_iff.2 (List.mem_map_of_mem hp)
  simp [this]
theorem keepL_del (l : List (Pl × Unit)) (pq : Pl → Bool) (ss : List Pl) (x : Pl) (hx : pq x = true) : delM (keepL l pq ss) x = keepL l pq (ss ++ [x]) := by
  unfold keepL delM
  rw [List.filter_filter]
  apply List.filter_congr
  intro p hp
  by_cases e : p.1 = x
  · simp [e, hx]
  · simp [e]
theorem keepL_stay (l : List (Pl × Unit)) (pq : Pl → Bool) (ss : List Pl) (x : Pl) (hx : pq x = false) : keepL l pq ss = keepL l pq (ss ++ [x]) := by
  unfold keepL
  apply List.filter_congr
  intro p hp
  by_cases e : p.1 = x
  · simp [e, hx]
  · simp [e]
theorem delM_lf {l2 : List (Pl × Unit)} {ss : List Pl} {lf lf' : List (Pl × Unit)} {x : Pl} {y : Unit} (hn : (l2.map Prod.fst).Nodup) (hP : (ss ++ lf.map Prod.fst).Perm (l2.map Prod.fst)) (hp : lf.Perm ((x, y) :: lf')) : delM lf' x = lf' := by
  apply delM_absent
  have h1 : (ss ++ lf.map Prod.fst).Nodup := hP.nodup_iff.2 hn
  have h2 := (List.nodup_append.1 h1).2.1
  have h3 := ((hp.map Prod.fst).nodup_iff).1 h2
  rw [List.map_cons, List.nodup_cons] at h3
  exact h3.1
set_option maxHeartbeats 8000000 in
theorem forget_any {w : World} {b mf ml q armed : Nat} {off : Bool} (h : Box w b 83 (dkC mf ml q armed off)) {l2 : List (Pl × Unit)} (hm : LooseM w ml l2) (g : FuncId) (lb : Array Value) (eg : ∀ args w, (callFunc g args).run Try.prog w = .ok (.enter g args) w)
    (pq : Pl → Bool) (J : List Pl → (Nat → Prop) → World → Prop) (T0 : Nat → Prop) (hT : ∀ c, T0 c → c < w.heap.size ∧ c ≠ b ∧ c ≠ ml) (h0 : J [] T0 w)
    (hJs : ∀ pre T W W', J pre T W → (∀ c, T c → W'.heap[c]? = W.heap[c]?) → W.heap.size ≤ W'.heap.size → J pre T W')
    (hJl : ∀ pre T W, J pre T W → ∀ c, T c → c < W.heap.size)
    (hq : ∀ pre T (x : Pl) W, J pre T W → pre.length < l2.length → Calls Try.prog g (#[.agg #[.string (str x.1), .int .i64 (x.2 : Int)]] ++ lb) W fun e W' => e = .returned (.bool (pq x)) ∧ ∃ T', J (pre ++ [x]) T' W' ∧ Turns W W' T T') :
    Calls Try.prog 49 #[.pointer (some ⟨b, 0, none⟩), .func (.func g) #[] lb] w fun e w' => e = .returned (.tuple #[]) ∧ ∃ ss T', ss.Perm (l2.map Prod.fst) ∧ J ss T' w' ∧ LooseM w' ml (l2.filter fun p => !pq p.1) ∧ Only w w' (fun c => c = ml ∨ T0 c) ∧ (∀ c, T' c → T0 c ∨ w.heap.size ≤ c) := by
  have c1 : w.cell? ⟨b, 1, none⟩ = some (.map (some ml)) := h.cell 1 rfl
  have OM := Lib.hid hm
  have HB := Lib.hid h
  have HNE := Lib.hid (hm.ne h)
  have HT := Lib.hid hT
  have H0 := Lib.hid h0
  have JS := Lib.hid hJs
  have JL := Lib.hid hJl
  have HQ := Lib.hid hq
  clear h hm hT h0 hJs hJl hq
  go_enter Try.func49, Try.ntmps49
  go_wp2_with (at_range; refine wpList_rangeV _ rfl _ rfl looseT ml l2 rfl OM.out ?_; intro w0 hi0 hk0 hs0)
  go_frame
  have HI0 := Lib.hid hi0
  have HK0 := Lib.hid hk0
  clear hi0 hk0 hs0
  go_loopw [4] (fun _ wr => ∃ (lf : List (Pl × Unit)) (ss : List Pl) (T : Nat → Prop), IterV plV unV wr ml w.heap.size (keepL l2 pq ss) lf ∧ (ss ++ lf.map Prod.fst).Perm (l2.map Prod.fst) ∧ J ss T wr ∧ Only w wr (fun c => c = ml ∨ T0 c) ∧ (∀ c, T c → T0 c ∨ w.heap.size < c))
    (fun _ wr => wr.rangeLeft ml w.heap.size)
  case atStart =>
    refine ⟨l2, [], T0, by rw [keepL_nil]; exact HI0.out, by simp, JS.out [] T0 w w0 H0.out (fun c hc => HK0.out.block c (HT.out c hc).1) HK0.out.size, ⟨HK0.out.os, HK0.out.tape, HK0.out.output, HK0.out.size, fun i hi _ => HK0.out.block i hi⟩, fun c hc => .inl hc⟩
  case round =>
    obtain ⟨lf, ss, T, hI, hP, hJ, hO, hTT⟩ := hrel
    have HI := Lib.hid hI
    have HP := Lib.hid hP
    have HJ := Lib.hid hJ
    have HO := Lib.hid hO
    have HTT := Lib.hid hTT
    clear hI hP hJ hO hTT
    go_wp2_with (at_next; refine wpList_nextV _ rfl _ rfl looseT ml w.heap.size (keepL l2 pq ss) lf rfl HI.out (fun p : List UInt8 × Nat => Value.agg #[.string (str p.1), .int .i64 (p.2 : Int)]) rfl (fun _ : Unit => Value.agg #[]) rfl ?_ ?_)
    · intro hd
      have hS : ss.Perm (l2.map Prod.fst) := by have := HP.out; rw [hd] at this; simpa using this
      have HS := Lib.hid hS
      have HM := Lib.hid (by have := HI.out.map; rw [keepL_all hS] at this; exact this)
      clear hd hS
      go_wp2
      go_returns
      exact ⟨rfl, ss, T, HS.out, HJ.out, HM.out, HO.out, fun c hc => by
        rcases HTT.out c hc with e | e
        · exact .inl e
        · exact .inr (Nat.le_of_lt e)⟩
    · rintro xa xb y lf' w2 hp hI2 ho2 hen
      have hlen : ss.length < l2.length := by
        have h1 := HP.out.length_eq
        have h2 := hp.length_eq
        simp only [List.length_append, List.length_map, List.length_cons] at h1 h2
        omega
      have hlt2 := HI.out.lt
      obtain ⟨w3, hw3⟩ : ∃ w3, w2.alloc (.cells #[.string (str xa), .int .i64 (xb : Int)] 63) = w3 := ⟨_, rfl⟩
      have k3 : Keeps w2 w3 := by rw [← hw3]; exact keeps_alloc _ _
      have hTr : ∀ c, T c → c ≠ w.heap.size := fun c hc e => by
        rcases HTT.out c hc with h1 | h1
        · have := (HT.out c h1).1; omega
        · omega
      have hTl : ∀ c, T c → c < wr.heap.size := JL.out _ _ _ HJ.out
      have J3 : J ss T w3 := JS.out ss T wr w3 HJ.out (fun c hc => by
        have e1 := ho2.block c (hTl c hc) (hTr c hc)
        exact (k3.block c (Nat.lt_of_lt_of_le (hTl c hc) ho2.size)).trans e1) (Nat.le_trans ho2.size k3.size)
      have I3 := hI2.keep k3
      have B3 : Box w3 w2.heap.size 63 #[.string (str xa), .int .i64 (xb : Int)] := by rw [← hw3]; exact Box.new _ _ _
      have HQ3' := HQ.out ss T (xa, xb) w3 J3 hlen
      have O3 : Only w w3 (fun c => c = ml ∨ T0 c) := (HO.out.trans (S1 := fun c => c = w.heap.size) ho2 (fun i hi => .inr (by omega))).keep k3
      have hwl : w.heap.size < w3.heap.size := by have := hlt2.2; have := ho2.size; have := k3.size; omega
      have HB3 := Lib.hid B3
      have HI3 := Lib.hid I3
      have HJ3 := Lib.hid J3
      have HO3 := Lib.hid O3
      have HPP := Lib.hid hp
      have HTL := Lib.hid hTl
      have HW := Lib.hid (show wr.heap.size ≤ w2.heap.size from ho2.size)
      have HTR := Lib.hid hTr
      have b0 : w3.cell? ⟨w2.heap.size, 0, none⟩ = some (.string (str xa)) := B3.cell 0 rfl
      have b1 : w3.cell? ⟨w2.heap.size, 1, none⟩ = some (.int .i64 (xb : Int)) := B3.cell 1 rfl
      clear hp hI2 ho2 hlt2 k3 J3 I3 O3 B3 hTl hTr hlen
      have FIN := Lib.hid (show ∀ w4 T4, J (ss ++ [(xa, xb)]) T4 w4 → Turns w3 w4 T T4 → IterV plV unV w4 ml w.heap.size (keepL l2 pq ss) lf' ∧ Only w w4 (fun c => c = ml ∨ T0 c) ∧ (∀ c, T4 c → T0 c ∨ w.heap.size < c) ∧ Box w4 w2.heap.size 63 #[.string (str xa), .int .i64 (xb : Int)] ∧ Box w4 b 83 (dkC mf ml q armed off) from fun w4 T4 hJ4 hT4 => by
        have hTm : ∀ c, c < w.heap.size → ¬ T0 c → ¬ T c := fun c hc hn hh => by
          rcases HTT.out c hh with e | e
          · exact hn e
          · omega
        have I4 := HI3.out.same (w' := w4) (hT4.only.block ml HI3.out.lt.1 (hTm ml OM.out.lt (fun e => (HT.out ml e).2.2 rfl))) (hT4.only.block _ HI3.out.lt.2 (fun e => HTR.out _ e rfl))
        have O4 : Only w w4 (fun c => c = ml ∨ T0 c) := HO3.out.trans hT4.only (fun i hi => by
          rcases HTT.out i hi with e | e
          · exact .inl (.inr e)
          · exact .inr (Nat.le_of_lt e))
        refine ⟨I4, O4, fun c hc => ?_, ?_, ?_⟩
        · rcases hT4.next c hc with e | e
          · exact HTT.out c e
          · exact .inr (Nat.lt_of_lt_of_le hwl e)
        · exact (hT4.only.block _ HB3.out.lt (fun e => by have := HTL.out _ e; have := HW.out; omega)).trans HB3.out
        · exact (O4.block b HB.out.lt (fun e => by
            rcases e with e | e
            · exact HNE.out e
            · exact (HT.out b e).2.1 rfl)).trans HB.out)
      have PERM := Lib.hid (show ((ss ++ [(xa, xb)]) ++ lf'.map Prod.fst).Perm (l2.map Prod.fst) by
        have h1 := HPP.out.map Prod.fst
        have h2 : (ss ++ lf.map Prod.fst).Perm ((ss ++ [(xa, xb)]) ++ lf'.map Prod.fst) := by
          rw [List.append_assoc]
          exact List.Perm.append_left ss (by simpa using h1)
        exact h2.symm.trans HP.out)
      have LEN := Lib.hid (show lf.length = lf'.length + 1 by have := HPP.out.length_eq; simpa using this)
      cases hx : pq (xa, xb) with
      | false =>
        rw [hx] at HQ3'
        have HQ3 := Lib.hid HQ3'
        clear HQ3'
        go_wp2_with (go_at_fn g; refine HQ3.out.mono ?_; rintro e w4 ⟨rfl, T4, hJ4, hT4⟩)
        obtain ⟨I4, O4, T4c, -, -⟩ := FIN.out w4 T4 hJ4 hT4
        rw [keepL_stay l2 pq ss (xa, xb) hx] at I4
        exact ⟨⟨lf', ss ++ [(xa, xb)], T4, I4, PERM.out, hJ4, O4, T4c⟩, by rw [I4.left_eq, HI.out.left_eq, LEN.out]; omega⟩
      | true =>
        rw [hx] at HQ3'
        have HQ3 := Lib.hid HQ3'
        have DL := Lib.hid (delM_lf OM.out.once HP.out HPP.out)
        have KD := Lib.hid (keepL_del l2 pq ss (xa, xb) hx)
        clear HQ3' hx
        go_wp2_with (go_at_fn g; refine HQ3.out.mono ?_; rintro e w4 ⟨rfl, T4, hJ4, hT4⟩)
        obtain ⟨I4, O4, T4c, B4, D4⟩ := FIN.out w4 T4 hJ4 hT4
        have d1 : w4.cell? ⟨b, 1, none⟩ = some (.map (some ml)) := D4.cell 1 rfl
        have p0 : w4.cell? ⟨w2.heap.size, 0, none⟩ = some (.string (str xa)) := B4.cell 0 rfl
        have p1 : w4.cell? ⟨w2.heap.size, 1, none⟩ = some (.int .i64 (xb : Int)) := B4.cell 1 rfl
        have HI4 := Lib.hid I4
        have HO4 := Lib.hid O4
        have HT4 := Lib.hid T4c
        have HJ4 := Lib.hid hJ4
        have HML := Lib.hid (show ∀ c, T4 c → c ≠ ml from fun c hc e => by
          rcases T4c c hc with h1 | h1
          · exact (HT.out c h1).2.2 e
          · have := OM.out.lt; omega)
        clear I4 O4 T4c B4 D4 hJ4 hT4 b0 b1 c1
        go_region_law ((refine step_delIter _ rfl (.tmp 20) (.tmp 21) rfl looseT ml w.heap.size (keepL l2 pq ss) lf' (by simp [Act.eval, Act.put]) (HI4.out.keep (keeps_drew _)) (xa, xb) (by simp [Act.eval, Act.put, plV]) ?_); intro w5 hI5 hO5)
        all_goals
          rw [KD.out, DL.out] at hI5
          have k4 : Keeps w4 w4.drew := keeps_drew _
          have O5 : Only w w5 (fun c => c = ml ∨ T0 c) := (HO4.out.keep k4).trans hO5 (fun i hi => .inl (.inl hi))
          have J5 : J (ss ++ [(xa, xb)]) T4 w5 := JS.out _ T4 w4 w5 HJ4.out (fun c hc => hO5.block c (JL.out _ _ _ HJ4.out c hc) (HML.out c hc)) hO5.size
          have LE := Lib.hid (show w5.rangeLeft ml w.heap.size < wr.rangeLeft ml w.heap.size by rw [hI5.left_eq, HI.out.left_eq, LEN.out]; omega)
          have I5 := Lib.hid hI5
          have O5h := Lib.hid O5
          have J5h := Lib.hid J5
          clear hI5 hO5 O5 J5 k4
          go_wp2_with fail
          exact ⟨⟨lf', ss ++ [(xa, xb)], T4, I5.out, PERM.out, J5h.out, O5h.out, HT4.out⟩, LE.out⟩
end Go.Proofs.Ytpbkkbkpodcgnaa
