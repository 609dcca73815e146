/- The walk of HeapSorts. -/
import Derived.Test.YtldmecannmifiaaLawHeap3
import Derived.Deep.QuietTactic
import Derived.BigQuiet
import Derived.Deep.OwnRows
namespace Go.Proofs.Ytldmecannmifiaa
open Go.RowKit
set_option linter.unusedSimpArgs false
set_option linter.unusedVariables false
set_option maxRecDepth 100000

/-- what is left of a list where some of its places are taken -/
def rem : List It → (Nat → Bool) → List It
  | [], _ => []
  | a :: l, T => bif T 0 then rem l (fun i => T (i + 1)) else a :: rem l (fun i => T (i + 1))
/-- one place more is taken -/
def upd (T : Nat → Bool) (k : Nat) : Nat → Bool := fun i => bif i == k then true else T i
theorem rem_none (l : List It) : rem l (fun _ => false) = l := by
  induction l with
  | nil => rfl
  | cons a l ih => simp [rem, ih]
theorem rem_mem {l : List It} {T : Nat → Bool} {x : It} (h : x ∈ rem l T) : ∃ k, l[k]? = some x ∧ T k = false := by
  induction l generalizing T with
  | nil => simp [rem] at h
  | cons a l ih =>
    unfold rem at h
    cases ht : T 0 with
    | true =>
      rw [ht] at h
      obtain ⟨k, h1, h2⟩ := ih h
      exact ⟨k + 1, by simpa using h1, h2⟩
    | false =>
      rw [ht] at h
      rcases List.mem_cons.1 h with rfl | h
      · exact ⟨0, rfl, ht⟩
      · obtain ⟨k, h1, h2⟩ := ih h
        exact ⟨k + 1, by simpa using h1, h2⟩
theorem rem_upd {l : List It} {T : Nat → Bool} {k : Nat} {x : It} (h : l[k]? = some x) (ht : T k = false) : (x :: rem l (upd T k)).Perm (rem l T) := by
  induction l generalizing T k with
  | nil => simp at h
  | cons a l ih =>
    rcases k with _ | k
    · simp only [List.getElem?_cons_zero, Option.some.injEq] at h
      subst h
      have e : (fun i => upd T 0 (i + 1)) = fun i => T (i + 1) := by funext i; simp [upd]
      have e0 : upd T 0 0 = true := by simp [upd]
      simp only [rem, e, e0, ht, cond_true, cond_false]
      exact List.Perm.refl _
    · have e : (fun i => upd T (k + 1) (i + 1)) = upd (fun i => T (i + 1)) k := by funext i; simp [upd]
      have e0 : upd T (k + 1) 0 = T 0 := by simp [upd]
      have h' : l[k]? = some x := by simpa using h
      simp only [rem, e, e0]
      cases ht0 : T 0 with
      | true => exact ih h' ht
      | false =>
        exact (List.Perm.swap a x _).trans ((ih h' ht).cons a)
theorem rem_erase {l m : List It} {T : Nat → Bool} {k : Nat} {x : It} (hm : m.Perm (rem l T)) (hx : x ∈ m) (h : l[k]? = some x) (ht : T k = false) : (m.erase x).Perm (rem l (upd T k)) := by
  have h1 := (List.perm_cons_erase hx).symm.trans (hm.trans (rem_upd h ht).symm)
  exact List.Perm.cons_inv h1
theorem infoS_bool : (Try.prog.info? 4).map (fun i => (i.zero, i.size, i.bytes)) = some (some (.bool false), 1, 1) := by kernel_rfl

/-- the walk of HeapSorts behind j items that were popped -/
structure Sorted (K : HeapOk) (w : World) (l : List It) (n tb lb : Nat) (p : Addr) (j : Nat) (F : Nat → Prop) (m : List It) (T : Nat → Bool) (last : It) (wr : World) : Prop where
  mine : Mine K w.heap.size wr p F m
  perm : m.Perm (rem l T)
  len : m.length = n - j
  ok : ∀ y ∈ m, ItOk y
  le : 0 < j → ∀ y ∈ m, lessB y last = false
  box : Box wr lb 32 #[.int .u64 (last.k : Int), .int .u32 (last.i : Int)]
  nl : ¬ F lb
  row : wr.rowIs tb 4 n (fun i => .bool (T i))
  nt : ¬ F tb
  ge : w.heap.size ≤ tb
  gl : w.heap.size ≤ lb
  ne : tb ≠ lb
  kp : Keeps w wr
theorem rowIs_turn {w w' : World} {S S' : Nat → Prop} {b : Nat} {T : TypeId} {n : Nat} {f : Nat → Value} (r : w.rowIs b T n f) (t : Turns w w' S S') (h : ¬ S b) : w'.rowIs b T n f := r.of_block (t.only.block b r.lt h)
theorem rowIs_keep {w w' : World} {b : Nat} {T : TypeId} {n : Nat} {f : Nat → Value} (r : w.rowIs b T n f) (k : Keeps w w') : w'.rowIs b T n f := r.of_block (k.block b r.lt)

theorem Sorted.step {K : HeapOk} {w : World} {l : List It} {n tb lb : Nat} {p : Addr} {j : Nat} {F : Nat → Prop} {m : List It} {T : Nat → Bool} {last : It} {w0 : World} (S : Sorted K w l n tb lb p j F m T last w0)
    {x : It} (hx : Least x m) {wr : World} {F6 : Nat → Prop} (hM : Mine K w.heap.size wr p F6 (m.erase x)) (BL : Box wr lb 32 #[.int .u64 (last.k : Int), .int .u32 (last.i : Int)]) (R : wr.rowIs tb 4 n (fun i => .bool (T i)))
    (nl : ¬ F6 lb) (nt : ¬ F6 tb) (kp : Keeps w wr) {q : Nat} (hy : l[q]? = some x) (ht : T q = false) (hj : j < n) (a : Nat) :
    Sorted K w l n tb lb p (j + 1) F6 (m.erase x) (upd T q) x ((((wr.drewN a).setCell ⟨tb, q, none⟩ (.bool true)).setCell ⟨lb, 0, none⟩ (.int .u64 (x.k : Int))).setCell ⟨lb, 1, none⟩ (.int .u32 (x.i : Int))) where
  mine := ⟨K.same hM.h fun b hb => by
      have h1 : b ≠ tb := fun e => nt (e ▸ hb)
      have h2 : b ≠ lb := fun e => nl (e ▸ hb)
      rw [Below.heap_setCell _ ⟨lb, 1, none⟩ _ b h2, Below.heap_setCell _ ⟨lb, 0, none⟩ _ b h2, Below.heap_setCell _ ⟨tb, q, none⟩ _ b h1]
      rfl, hM.b⟩
  perm := rem_erase S.perm hx.mem hy ht
  len := by
    have h1 := List.length_erase_of_mem hx.mem
    have h2 := S.len
    omega
  ok y hy' := S.ok y (List.mem_of_mem_erase hy')
  le _ y hy' := hx.le y (List.mem_of_mem_erase hy')
  box := by
    have h1 : Box (wr.drewN a) lb 32 #[.int .u64 (last.k : Int), .int .u32 (last.i : Int)] := BL.keep (keeps_drewN _ _)
    have h2 := ((h1.far (p := ⟨tb, q, none⟩) (fun e => S.ne e.symm) (.bool true)).set 0 (.int .u64 (x.k : Int))).set 1 (.int .u32 (x.i : Int))
    simpa using h2
  nl := nl
  row := by
    have h1 : (wr.drewN a).rowIs tb 4 n (fun i => .bool (T i)) := rowIs_keep R (keeps_drewN _ _)
    have h2 := ((h1.set q (.bool true)).setOther (a := ⟨lb, 0, none⟩) S.ne (.int .u64 (x.k : Int))).setOther (a := ⟨lb, 1, none⟩) S.ne (.int .u32 (x.i : Int))
    refine h2.congr fun i _ => ?_
    unfold upd
    by_cases e : i = q
    · subst e; simp
    · have : (i == q) = false := by simpa using e
      simp [e, this]
  nt := nt
  ge := S.ge
  gl := S.gl
  ne := S.ne
  kp := (((keeps_trans kp (keeps_drewN _ a)).setCell (p := ⟨tb, q, none⟩) S.ge _).setCell (p := ⟨lb, 0, none⟩) S.gl _).setCell (p := ⟨lb, 1, none⟩) S.gl _
theorem not_next {T : Nat → Bool} {l : List It} {x : It} {q : Nat} (h : ∀ i, i < q → ¬ (T i = false ∧ l[i]? = some x)) (hq : ¬ (T q = false ∧ l[q]? = some x)) : ∀ i, i < q + 1 → ¬ (T i = false ∧ l[i]? = some x) := fun i hi => by
  by_cases e : i = q
  · subst e; exact hq
  · exact h i (by omega)


set_option maxHeartbeats 16000000 in
theorem sortsH_walk (K : HeapOk) (A : Option Addr) (n c : Nat) (l : List It) (w : World)
    (hB : At w w.heap.size A (l.flatMap itC)) (hx : ∀ e ∈ l, ItOk e) (hn : n = l.length) (hlen : n ≤ maxLen) :
    Calls Try.prog 4 #[.slice A n c] w (Yes w) := by
  unfold maxLen at hlen
  have WW := Lib.hid (fun W => works_heap K W)
  by_cases h : (600 : Int) < n
  · clear hn hB
    go_enter Try.func4, Try.ntmps4
    go_wp2_with fail
    refine (WW.out _).mono ?_
    rintro e w1 ⟨rfl, k1⟩
    go_wp2_with fail
    go_ret
    exact ⟨rfl, k1⟩
  · have h1 : (n : Int) ≤ 600 := by omega
    have HN := Lib.hid hn
    have HX := Lib.hid hx
    have HB := Lib.hid hB
    have LL := Lib.hid (show l.length ≤ 600 by omega)
    have hmk := run_make_row' (P := Try.prog) 42 4 (.bool false) 1 Try.underlying42 infoS_bool rfl .i64 .i64 n (by omega) (by omega)
    clear hn hx hB h
    go_enter Try.func4, Try.ntmps4
    go_wp2_with fail
    refine (K.new w).mono ?_
    rintro e w1 ⟨p, F, rfl, h1, hF, k1⟩
    have M1 : Mine K w.heap.size w1 p F [] := ⟨h1, hF⟩
    clear h1 hF
    go_wp2_with fail
    go_loopw [4] (fun i wr => ∃ (k : Nat) (F : Nat → Prop), k ≤ n ∧ i = .int .i64 k ∧ Mine K w.heap.size wr p F (l.take k) ∧ Keeps w wr) (fun i _ => n - (intOf i).toNat)
    case atStart => exact ⟨0, F, Nat.zero_le _, rfl, M1, k1⟩
    case round =>
      clear M1 k1
      obtain ⟨k, F3, hk, rfl, hM, hkp⟩ := hrel
      by_cases hlt : k < n
      · obtain ⟨y, hy⟩ : ∃ y, l[k]? = some y := ⟨_, List.getElem?_eq_getElem (by have := HN.out; omega)⟩
        obtain ⟨ad, rfl, hbl, hI⟩ := its_at HB.out hy
        obtain ⟨c0, c1⟩ := hI.keep hkp
        have P := Lib.hid (K.push y hM.h (HX.out _ (List.mem_of_getElem? hy)) (by have := LL.out; rw [List.length_take]; omega))
        have HYK := Lib.hid hy
        clear hy
        go_wp2_with fail
        refine P.out.mono ?_
        rintro e w3 ⟨F4, rfl, h3, t3⟩
        go_wp2_with fail
        go_roundw
        case rel => exact ⟨k + 1, F4, by omega, by go_num, hM.next (K.perm h3 (take_perm l HYK.out)) t3 hkp.size, t3.keeps hkp hM.b⟩
        case measure => simp [intOf]; omega
      · obtain rfl : k = n := by omega
        have e1 : l.take k = l := by rw [HN.out, List.take_length]
        rw [e1] at hM
        clear hlt hk e1
        have r0 := World.rowIs_made wr (.bool false) k 4
        have kz1 := keeps_alloc wr (.cells (madeCells #[.bool false] k) 4)
        have kz2 := keeps_alloc (wr.alloc (.cells (madeCells #[.bool false] k) 4)) (.cells #[.int .u64 0, .int .u32 0] 32)
        have bx := Box.new (wr.alloc (.cells (madeCells #[.bool false] k) 4)) 32 #[.int .u64 ((0 : Nat) : Int), .int .u32 ((0 : Nat) : Int)]
        have es : (wr.alloc (.cells (madeCells #[.bool false] k) 4)).heap.size = wr.heap.size + 1 := by simp
        rw [es] at bx
        have S0 : Sorted K w l k wr.heap.size (wr.heap.size + 1) p 0 F3 l (fun _ => false) ⟨0, 0⟩ ((wr.alloc (.cells (madeCells #[.bool false] k) 4)).alloc (.cells #[.int .u64 0, .int .u32 0] 32)) :=
          ⟨hM.keep (keeps_trans kz1 kz2), by rw [rem_none], HN.out.symm, HX.out, fun h => by omega, bx, fun e => by have := K.lt hM.h _ e; omega, rowIs_keep r0 kz2, fun e => Nat.lt_irrefl _ (K.lt hM.h _ e), hkp.size, by have := hkp.size; omega, by omega, keeps_trans hkp (keeps_trans kz1 kz2)⟩
        clear r0 kz1 kz2 bx es hM hkp
        go_wp2_with fail
        generalize ((wr.alloc (.cells (madeCells #[.bool false] k) 4)).alloc (.cells #[.int .u64 0, .int .u32 0] 32)) = W0 at *
        generalize hlb : wr.heap.size + 1 = lb at *
        generalize wr.heap.size = tb at *
        clear hlb
        go_loopw [7] (fun i wr => ∃ (j : Nat) (F : Nat → Prop) (m : List It) (T : Nat → Bool) (last : It), j ≤ k ∧ i = .int .i64 j ∧ Sorted K w l k tb lb p j F m T last wr) (fun i _ => k - (intOf i).toNat)
        case atStart => exact ⟨0, F3, l, fun _ => false, ⟨0, 0⟩, Nat.zero_le _, rfl, S0⟩
        case round =>
          clear S0
          obtain ⟨j, F5, m, T, last, hj, rfl, S⟩ := hrel
          have hl' : ∀ (A : Option Addr), True := fun _ => trivial
          by_cases hlt : j < k
          · have hz : m ≠ [] := by intro e; have := S.len; rw [e] at this; simp at this; omega
            obtain ⟨x, hxm⟩ := least_of hz
            have hle : (m.erase x).length = m.length - 1 := List.length_erase_of_mem hxm.mem
            have hxo := S.ok x hxm.mem
            obtain ⟨z, hz1, hz2⟩ := rem_mem (S.perm.mem_iff.1 hxm.mem)
            have HE := Lib.hid (show ∃ z, l[z]? = some x ∧ T z = false from ⟨z, hz1, hz2⟩)
            have P := Lib.hid (K.pop x S.mine.h hxm S.ok (by have := S.len; have := LL.out; omega))
            have HXM := Lib.hid (And.intro hxm (And.intro hxo hle))
            have hlast : 0 < j → lessB x last = false := fun h => S.le h x hxm.mem
            have HLST := Lib.hid hlast
            have hjk : (j : Int) < (k : Int) := by omega
            clear hz hle hxo hz1 hz2 hlast hl'
            go_wp2_with fail
            refine P.out.mono ?_
            rintro e w3 ⟨F6, rfl, h3, t3⟩
            have hM3 := S.mine.next h3 t3 S.kp.size
            have hk3 := t3.keeps S.kp S.mine.b
            have BL3 := Box.turn S.box t3 S.nl
            have R3 := rowIs_turn S.row t3 S.nt
            have nl3 := t3.not S.box.lt S.nl
            have nt3 := t3.not S.row.lt S.nt
            have nx3 : ¬ F6 w3.heap.size := fun e => Nat.lt_irrefl _ (K.lt hM3.h _ e)
            have kz := keeps_alloc w3 (.cells #[.int .u64 (x.k : Int), .int .u32 (x.i : Int)] 32)
            have hM4 := hM3.keep kz
            have hk4 := keeps_trans hk3 kz
            have BL4 := BL3.keep kz
            have R4 := rowIs_keep R3 kz
            have BX := Box.new w3 32 #[.int .u64 (x.k : Int), .int .u32 (x.i : Int)]
            have hlbs := BL3.lt
            obtain ⟨a0, a1⟩ := ItBox.cells BL3
            have SS := Lib.hid S
            have nxl : w3.heap.size ≠ lb := by omega
            have nxt : w3.heap.size ≠ tb := by have := R3.lt; omega
            have gx : w.heap.size ≤ w3.heap.size := hk3.size
            clear h3 t3 kz hM3 hk3 BL3 R3 P S
            have htst : (j = 0) ∨ (0 < j ∧ last.k < x.k) ∨ (0 < j ∧ last.k = x.k ∧ last.i ≤ x.i) := by
              by_cases h0 : j = 0
              · exact .inl h0
              · have := HLST.out (by omega)
                rw [lessB_false] at this
                rcases this with h | h
                · exact .inr (.inl ⟨by omega, h⟩)
                · exact .inr (.inr ⟨by omega, h.1, h.2⟩)
            have hways : (decide ((0 : Int) < (j : Int)) = false ∧ decide (0 < j) = false) ∨
                (decide ((0 : Int) < (j : Int)) = true ∧ decide (0 < j) = true ∧ decide (x.k < last.k) = false ∧ ((x.k : Int) == (last.k : Int)) = false) ∨
                (decide ((0 : Int) < (j : Int)) = true ∧ decide (0 < j) = true ∧ decide (x.k < last.k) = false ∧ ((x.k : Int) == (last.k : Int)) = true ∧ decide (x.i < last.i) = false) := by
              rcases htst with h | h | h
              · exact .inl ⟨decide_eq_false (by omega), decide_eq_false (by omega)⟩
              · exact .inr (.inl ⟨decide_eq_true (by omega), decide_eq_true (by omega), decide_eq_false (by omega), by simp; omega⟩)
              · exact .inr (.inr ⟨decide_eq_true (by omega), decide_eq_true (by omega), decide_eq_false (by omega), by simp; omega, decide_eq_false (by omega)⟩)
            clear htst
            rcases hways with ⟨f1, f2⟩ | ⟨f1, f2, f3, f4⟩ | ⟨f1, f2, f3, f4, f5⟩
            all_goals
              go_wp2_with fail
              generalize w3.alloc (.cells #[.int .u64 (x.k : Int), .int .u32 (x.i : Int)] 32) = W4 at *
              generalize w3.heap.size = xb at *
              clear a0 a1
              go_loopw [10] (fun a wr => ∃ q : Nat, q ≤ k ∧ a = .int .i64 q ∧ (∀ i, i < q → ¬ (T i = false ∧ l[i]? = some x)) ∧ Keeps W4 wr) (fun a _ => k - (intOf a).toNat)
              case atStart => exact ⟨0, Nat.zero_le _, rfl, fun i hi => by omega, keeps_refl _⟩
              case round =>
                obtain ⟨q, hq, rfl, hno, hks⟩ := hrel
                have HNO := Lib.hid hno
                have BX1 := BX.keep hks
                have R1 := rowIs_keep R4 hks
                have BL1 := BL4.keep hks
                by_cases hlq : q < k
                · obtain ⟨y, hy⟩ : ∃ y, l[q]? = some y := ⟨_, List.getElem?_eq_getElem (by have := HN.out; omega)⟩
                  obtain ⟨ad, rfl, hbl, hI⟩ := its_at HB.out hy
                  obtain ⟨c0, c1⟩ := hI.keep (keeps_trans hk4 hks)
                  obtain ⟨d0, d1⟩ := ItBox.cells BX1
                  have g0 := R1.cell hlq
                  have gf := R1.frozen q
                  have q0 : (0 : Int) ≤ (q : Int) := by omega
                  have q1 : (q : Int) < (k : Int) := by omega
                  have q2 : decide (q < k) = true := decide_eq_true hlq
                  have HY := Lib.hid hy
                  clear hy hno
                  cases ht : T q with
                  | true =>
                    rw [ht] at g0
                    have HT := Lib.hid ht
                    clear ht
                    go_wp2_with fail
                    go_quiet (fail)
                    go_wp2_with fail
                    go_roundw
                    case rel => exact ⟨q + 1, by omega, by go_num, not_next HNO.out (by rw [HT.out]; simp), keeps_trans hks (keeps_drewN _ _)⟩
                    case measure => simp [intOf]; omega
                  | false =>
                    rw [ht] at g0
                    have HT := Lib.hid ht
                    clear ht
                    by_cases he : y = x
                    · subst he
                      have hq3 : ((q : Int) == (k : Int)) = false := by simp; omega
                      obtain ⟨b0, b1⟩ := ItBox.cells BL1
                      have bf0 := BL1.frozen 0
                      have bf1 := BL1.frozen 1
                      have ne1 : tb ≠ lb := SS.out.ne
                      have STEP := Lib.hid (fun a => SS.out.step HXM.out.1 (hM4.keep hks) BL1 R1 nl3 nt3 (keeps_trans hk4 hks) HY.out HT.out hlt a)
                      go_wp2_with fail
                      go_quiet (fail)
                      go_wp2_with fail
                      go_roundw
                      case rel => exact ⟨j + 1, F6, m.erase y, upd T q, y, by omega, by go_num, STEP.out _⟩
                      case measure => simp [intOf]; omega
                    · have HE2 := Lib.hid he
                      have hrel2 : ∀ i, i < q + 1 → ¬ (T i = false ∧ l[i]? = some x) := not_next HNO.out (by rw [HY.out]; intro h; exact HE2.out (Option.some.inj h.2))
                      have HR2 := Lib.hid hrel2
                      clear hrel2
                      by_cases hk2 : y.k = x.k
                      · have e1 : ((y.k : Int) == (x.k : Int)) = true := by simp; omega
                        have e2 : ((y.i : Int) == (x.i : Int)) = false := by
                          simp only [beq_eq_false_iff_ne, ne_eq]
                          intro h
                          apply he
                          cases y; cases x
                          simp only [It.mk.injEq] at *
                          omega
                        clear he hk2
                        go_wp2_with fail
                        go_quiet (fail)
                        go_wp2_with fail
                        go_roundw
                        case rel => exact ⟨q + 1, by omega, by go_num, HR2.out, keeps_trans hks (keeps_drewN _ _)⟩
                        case measure => simp [intOf]; omega
                      · have e1 : ((y.k : Int) == (x.k : Int)) = false := by simp; omega
                        clear he hk2
                        go_wp2_with fail
                        go_quiet (fail)
                        go_wp2_with fail
                        go_roundw
                        case rel => exact ⟨q + 1, by omega, by go_num, HR2.out, keeps_trans hks (keeps_drewN _ _)⟩
                        case measure => simp [intOf]; omega
                · exfalso
                  obtain ⟨z, hz1, hz2⟩ := HE.out
                  have := (List.getElem?_eq_some_iff.1 hz1).1
                  have := HN.out
                  exact HNO.out z (by omega) ⟨hz2, hz1⟩
          · obtain rfl : j = k := by omega
            have hz : m = [] := List.eq_nil_of_length_eq_zero (by have := S.len; omega)
            subst hz
            have P := Lib.hid (K.empty S.mine.h)
            have SS := Lib.hid S
            clear S hlt hj
            go_wp2_with fail
            refine P.out.mono ?_
            rintro e w3 ⟨F6, rfl, h3, t3⟩
            have hM3 := SS.out.mine.next h3 t3 SS.out.kp.size
            have hk3 := t3.keeps SS.out.kp SS.out.mine.b
            have kz := keeps_alloc w3 (.cells #[.int .u64 0, .int .u32 0] 32)
            have hM4 := hM3.keep kz
            have hk4 := keeps_trans hk3 kz
            clear h3 t3 kz hM3 hk3 P
            go_wp2_with fail
            refine (K.len hM4.h (by simp)).mono ?_
            rintro e w5 ⟨rfl, k5⟩
            go_wp2_with fail
            refine (WW.out _).mono ?_
            rintro e w6 ⟨rfl, k6⟩
            go_wp2_with fail
            go_ret
            exact ⟨rfl, keeps_trans hk4 (keeps_trans k5 k6)⟩
end Go.Proofs.Ytldmecannmifiaa
