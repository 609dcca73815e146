/- Package pick: ahead, the map of candidates, counted. -/
import Derived.Test.YtdfaogagadoooaaPickE
import Derived.Test.YtdfaogagadoooaaMapV
import Derived.Laws.EntriesVeiled
namespace Go.Proofs.Ytdfaogagadoooaa
open Go.RowKit
set_option linter.unusedSimpArgs false
set_option linter.unusedVariables false
set_option maxRecDepth 100000

set_option maxHeartbeats 4000000 in
theorem aheadP_any (x y : Cd) (w : World) : Calls Try.prog 21 #[cdV x, cdV y] w fun e w' => e = .returned (.bool (aheadC x.n y.n)) ∧ Keeps w w' := by
  have BX := (cdBox w 33 x).keep (keeps_alloc _ (.cells #[.int .u32 (y.v : Int), .int .u64 (y.key : Int), .slice y.A y.near.length y.c] 33))
  have BY := cdBox (w.alloc (.cells #[.int .u32 (x.v : Int), .int .u64 (x.key : Int), .slice x.A x.near.length x.c] 33)) 33 y
  have K0 := Lib.hid (keeps_trans (keeps_alloc w (.cells #[.int .u32 (x.v : Int), .int .u64 (x.key : Int), .slice x.A x.near.length x.c] 33)) (keeps_alloc _ (.cells #[.int .u32 (y.v : Int), .int .u64 (y.key : Int), .slice y.A y.near.length y.c] 33)))
  simp only [World.size_alloc] at BY
  obtain ⟨b0, b1, b2⟩ := BX
  obtain ⟨d0, d1, d2⟩ := BY
  unfold aheadC Cd.n
  obtain ⟨xv, xk, XA, xc, xn⟩ := x
  obtain ⟨yv, yk, YA, yc, yn⟩ := y
  unfold cdV
  simp only at *
  by_cases h1 : xk < yk
  · have e1 : decide (xk < yk) = true := decide_eq_true h1
    have e2 : decide ((xk : Int) < (yk : Int)) = true := decide_eq_true (by omega)
    simp only [e1, Bool.true_or]
    clear h1
    go_enter Try.func21, Try.ntmps21
    go_wp2_with fail
    go_ret
    exact ⟨rfl, K0.out⟩
  · have e1 : decide (xk < yk) = false := decide_eq_false h1
    have e2 : decide ((xk : Int) < (yk : Int)) = false := decide_eq_false (by omega)
    by_cases h2 : xk = yk
    · subst h2
      by_cases h3 : xv < yv
      · have e3 : decide (xv < yv) = true := decide_eq_true h3
        have e4 : decide ((xv : Int) < (yv : Int)) = true := decide_eq_true (by omega)
        simp only [e1, e3, decide_true, Bool.false_or, Bool.true_and]
        clear h1 h3
        go_enter Try.func21, Try.ntmps21
        go_wp2_with fail
        go_ret
        exact ⟨rfl, K0.out⟩
      · have e3 : decide (xv < yv) = false := decide_eq_false h3
        have e4 : decide ((xv : Int) < (yv : Int)) = false := decide_eq_false (by omega)
        simp only [e1, e3, decide_true, Bool.false_or, Bool.true_and]
        clear h1 h3
        go_enter Try.func21, Try.ntmps21
        go_wp2_with fail
        go_ret
        exact ⟨rfl, K0.out⟩
    · have e3 : decide (xk = yk) = false := decide_eq_false h2
      have e4 : ((xk : Int) == (yk : Int)) = false := by simp only [beq_eq_false_iff_ne, ne_eq, Int.natCast_inj]; exact h2
      simp only [e1, e3, Bool.false_or, Bool.false_and]
      clear h1 h2
      go_enter Try.func21, Try.ntmps21
      go_wp2_with fail
      go_ret
      exact ⟨rfl, K0.out⟩


/-! ### a map from numbers to candidates -/
structure Ce where
  v : Nat
  key : Nat
  A : Option Addr
  n : Nat
  c : Nat
def Cd.ce (x : Cd) : Ce := ⟨x.v, x.key, x.A, x.near.length, x.c⟩
def ceV (x : Ce) : Value := .agg #[.int .u32 (x.v : Int), .int .u64 (x.key : Int), .slice x.A x.n x.c]
theorem ceV_ce (x : Cd) : ceV x.ce = cdV x := rfl
theorem findNow_intP (kd : IntKind) (k : Nat) : ∀ (es : List MapEntry) (ks : List Nat) (i : Nat), es.map (·.key) = ks.map (fun s : Nat => Value.int kd (s : Int)) →
    Instr.findNow (.int kd) (.int kd (k : Int)) es i = some ((ks.findIdx? fun x => decide (x = k)).bind fun j => (es[j]?).map fun e => (i + j, e.val)) := by
  intro es
  induction es with
  | nil =>
    intro ks i h
    cases ks with
    | nil => simp [Instr.findNow]
    | cons => simp at h
  | cons e es ih =>
    intro ks i h
    cases ks with
    | nil => simp at h
    | cons s ks =>
      simp only [List.map_cons, List.cons.injEq] at h
      obtain ⟨h1, h2⟩ := h
      simp only [Instr.findNow, h1, Instr.sameNow, List.findIdx?_cons]
      by_cases hs : s = k
      · subst hs
        simp
      · have e1 : ((k : Int) == (s : Int)) = false := by
          simp only [beq_eq_false_iff_ne, ne_eq, Int.natCast_inj]
          exact fun e => hs e.symm
        simp only [e1, decide_eq_false hs, Bool.false_eq_true, if_false]
        rw [ih ks (i + 1) h2]
        congr 1
        cases hf : ks.findIdx? (fun x => decide (x = k)) with
        | none => simp
        | some j => simp [Nat.add_assoc, Nat.add_comm 1 j]
theorem candT : MapV Try.prog 40 30 33 u32V ceV where
  m := Try.underlying40
  check em k w := MapKept.run_checkKey Try.underlying30 (by simp [MapKept.IsKey, u32V]) em 9999
  find w k es ks h := by
    simp only [Instr.findKey, Sem.run_bind, run_underlying Try.underlying30, Result.andThen_ok]
    have := findNow_intP .u32 k es ks 0 h
    unfold u32V
    rw [this]
    simp
  bits k := MapKept.sameBits_self (d := .int .u32) (by simp [MapKept.IsKey, u32V]) 10000
  inv := ⟨fun v => match v with
    | .int _ s => s.toNat
    | _ => 0, fun k => by simp [u32V]⟩
  einv := ⟨fun v => match v with
    | .agg vs => match vs.toList with
      | [.int _ a, .int _ b, .slice A n c] => ⟨a.toNat, b.toNat, A, n, c⟩
      | _ => ⟨0, 0, none, 0, 0⟩
    | _ => ⟨0, 0, none, 0, 0⟩, fun x => by cases x; simp [ceV]⟩
def candZ : Value := .agg #[.int .u32 0, .int .u64 0, .slice none 0 0]
theorem zero_cand (w : World) : (zeroValue 33).run Try.prog w = .ok candZ w := by kernel_rfl
section
variable {P : Program} {M K V : TypeId} {κ ε : Type} [DecidableEq κ] {kv : κ → Value} {ev : ε → Value} (w : World) {ops : Array Oper} {rest : List Oper} {o : Oper} {a : Act} {Q : Exit → Act → World → Prop}
theorem wpList_look2V (hg : o.guard = none) (m x : Operand) (hop : o.op = Op.lookup M m x true) (T : MapV P M K V kv ev) {z : Value} (hz : ∀ w, (zeroValue V).run P w = .ok z w) (b : Nat) (l : List (κ × ε)) (hm : a.eval m = .map (some b)) (h : MapW kv ev w b l) (k : κ) (hx : a.eval x = kv k) (r : Value) (q : Bool) (hr : ((lookM l k).map ev).getD z = r) (hq : (lookM l k).isSome = q)
    (hK : wpList P ops Q rest (a.put o.dst (.tuple #[r, .bool q])) w) : wpList P ops Q (o :: rest) a w := by
  refine wpList_plain hg fun K' hK' => ?_
  have hrun := run_lookV T hz h k true
  rw [hr, hq] at hrun
  unfold Oper.wp
  simp [execOp, hop, hm, hx, hrun, Result.andThen]
  exact hK' _ _ hK
end
def prD (x : Cd) : Nat × Ce := (x.v, x.ce)
def pe (p : Nat × Cd) : Nat × Ce := (p.1, p.2.ce)
theorem look_pr (l : List Cd) (v : Nat) : lookM (l.map prD) v = (l.find? fun x => decide (x.v = v)).map Cd.ce := by
  unfold lookM
  rw [List.find?_map, Option.map_map]
  rfl
theorem look_pe (F : List (Nat × Cd)) (v : Nat) : lookM (F.map pe) v = (lookM F v).map Cd.ce := by
  unfold lookM
  rw [List.find?_map, Option.map_map, Option.map_map]
  rfl
theorem put_pe (F : List (Nat × Cd)) (v : Nat) (x : Cd) : putM (F.map pe) v x.ce = (putM F v x).map pe := by
  unfold putM delM
  rw [List.filter_map]
  rfl
theorem find_none {l : List Cd} {v : Nat} (h : v ∉ l.map Cd.v) : l.find? (fun x => decide (x.v = v)) = none := by
  rw [List.find?_eq_none]
  intro x hx hv
  exact h (List.mem_map.2 ⟨x, hx, by simpa using hv⟩)
theorem find_someC {l : List Cd} {v : Nat} (h : v ∈ l.map Cd.v) : ∃ x ∈ l, x.v = v ∧ l.find? (fun x => decide (x.v = v)) = some x := by
  cases hf : l.find? (fun x => decide (x.v = v)) with
  | none =>
    obtain ⟨x, hx, hv⟩ := List.mem_map.1 h
    have := List.find?_eq_none.1 hf x hx
    simp [hv] at this
  | some x => exact ⟨x, List.mem_of_find?_eq_some hf, by simpa using List.find?_some hf, rfl⟩
theorem put_pr {l : List Cd} {x : Cd} (h : x.v ∉ l.map Cd.v) : (putM (l.map prD) x.v x.ce).Perm ((l ++ [x]).map prD) := by
  unfold putM
  rw [delM_absent (by rw [List.map_map]; exact h), List.map_append]
  exact (List.perm_append_comm (l₁ := [prD x]))
def CountV (w : World) (l : List Cd) (e : Ending) (w' : World) : Prop := ∃ b, e = .returned (.map (some b)) ∧ w.heap.size ≤ b ∧ MapW u32V ceV w' b ((onceD l).map prD) ∧ Keeps w w'
set_option maxHeartbeats 8000000 in
theorem counted_any (A : Option Addr) (n c : Nat) (l : List Cd) (w : World) (hl : CdsAt w A l) (hn : n = l.length) (hm : n ≤ 1000) :
    Calls Try.prog 18 #[.slice A n c] w (CountV w l) := by
  have HL := Lib.hid hl
  have HN := Lib.hid hn
  have HM := Lib.hid hm
  clear hl hn hm
  have hmm := @run_makeMap Try.prog
  obtain ⟨mb, hmb⟩ : ∃ z, z = w.heap.size := ⟨_, rfl⟩
  have HMB := Lib.hid hmb
  have M0 := Lib.hid (MapW.new u32V ceV w)
  rw [← hmb] at M0
  go_enter Try.func18, Try.ntmps18
  go_wp2_with fail
  rw [← hmb]
  clear hmb hmm
  go_loopw [11] (fun i wr => ∃ k : Nat, k ≤ n ∧ i = .int .i64 (k : Int) ∧ MapW u32V ceV wr mb ((onceD (l.take k)).map prD) ∧ Keeps w wr) (fun i _ => n - (intOf i).toNat)
  case atStart => exact ⟨0, Nat.zero_le _, rfl, M0.out, keeps_alloc _ _⟩
  case round =>
    obtain ⟨k, hk, rfl, hMW, hks⟩ := hrel
    have MW := Lib.hid hMW
    have KS := Lib.hid hks
    clear hMW hks
    by_cases hlt : k < n
    · obtain ⟨x, hx⟩ : ∃ x, l[k]? = some x := ⟨_, List.getElem?_eq_getElem (by have := HN.out; omega)⟩
      obtain ⟨ad, hA, -, hXd⟩ := cds_at (HL.out.keep KS.out).cells hx
      subst hA
      obtain ⟨b0, b1, b2⟩ := hXd
      have NX := Lib.hid (onceD_next hx)
      have hkn : (k : Int) < (n : Int) := by omega
      have hk0 : (0 : Int) ≤ (k : Int) := by omega
      have hkm : (n : Int) ≤ 1000 := by have := HM.out; omega
      have HK := Lib.hid hlt
      obtain ⟨xv, xk, XA, xc, xn⟩ := x
      simp only at b0 b1 b2
      obtain ⟨q, hq⟩ : ∃ q, xn.length = q := ⟨_, rfl⟩
      rw [hq] at b2
      have HQ := Lib.hid hq
      have K1 := Lib.hid (keeps_alloc wr (.cells #[.int .u32 (xv : Int), .int .u64 (xk : Int), .slice XA q xc] 33))
      clear hlt hk hx hq
      by_cases hin : xv ∈ (onceD (l.take k)).map Cd.v
      · obtain ⟨y, hy, hyv, hf⟩ := find_someC hin
        have LK := Lib.hid (look_pr (onceD (l.take k)) xv)
        rw [hf] at LK
        have E1 := Lib.hid (show onceD (l.take (k + 1)) = onceD (l.take k) by rw [NX.out, if_pos hin])
        clear hin hy hyv hf
        go_wp2_with (refine wpList_look2V _ rfl _ _ rfl candT zero_cand mb _ rfl (MW.out.keep K1.out) xv rfl (.agg #[.int .u32 (y.v : Int), .int .u64 (y.key : Int), .slice y.A y.near.length y.c]) true (by rw [LK.out]; rfl) (by rw [LK.out]; rfl) ?_)
        go_roundw
        case rel => exact ⟨k + 1, by have := HK.out; omega, by go_num, by rw [E1.out]; exact MW.out.keep (by first | exact keeps_trans K1.out (keeps_alloc _ _) | exact K1.out), keeps_trans KS.out (by first | exact keeps_trans K1.out (keeps_alloc _ _) | exact K1.out)⟩
        case measure => have := HK.out; simp [intOf]; omega
      · have LK := Lib.hid (look_pr (onceD (l.take k)) xv)
        rw [find_none hin] at LK
        have E1 := Lib.hid (show (onceD (l.take (k + 1))) = onceD (l.take k) ++ [⟨xv, xk, XA, xc, xn⟩] by rw [NX.out, if_neg hin])
        have PP := Lib.hid (put_pr (x := ⟨xv, xk, XA, xc, xn⟩) hin)
        clear hin
        go_wp2_with (first
          | (refine wpList_look2V _ rfl _ _ rfl candT zero_cand mb _ rfl (MW.out.keep K1.out) xv rfl (.agg #[.int .u32 0, .int .u64 0, .slice none 0 0]) false (by rw [LK.out]; rfl) (by rw [LK.out]; rfl) ?_)
          | (refine wpList_putV _ rfl _ _ _ rfl candT mb _ rfl (MW.out.keep (keeps_trans K1.out (keeps_alloc _ _))) xv rfl ⟨xv, xk, XA, q, xc⟩ rfl ?_; intro w5 m5 o5; have M5 := Lib.hid m5; have O5 := Lib.hid o5; clear m5 o5))
        go_roundw
        case rel => exact ⟨k + 1, by have := HK.out; omega, by go_num, by
          rw [E1.out]
          refine MapW.perm ?_ PP.out
          have h1 := M5.out
          rw [← HQ.out] at h1
          exact h1, Turns.keeps (S := fun b => b = mb) (S' := fun b => b = mb) (keeps_trans KS.out (keeps_trans K1.out (keeps_alloc _ _))) ⟨O5.out, fun _ h => .inl h⟩ (fun b hb => by have := HMB.out; omega)⟩
        case measure => have := HK.out; simp [intOf]; omega
    · obtain rfl : k = n := by omega
      have E1 := Lib.hid (show l.take k = l from List.take_of_length_le (by have := HN.out; omega))
      clear hlt
      go_wp2_with fail
      go_ret
      exact ⟨mb, rfl, by have := HMB.out; omega, E1.out ▸ MW.out, KS.out⟩
end Go.Proofs.Ytdfaogagadoooaa
