/- The contract of milepostref05's Check. -/
import Derived.Test.YtbalejfloieiiaaDoorRefInput2
import Derived.Test.YtbalejfloieiiaaDoorRefInput3
import Derived.Test.YtbalejfloieiiaaDoorSlices
namespace Go.Proofs.YtbalejfloieiiaaDoor
open Go.RowKit
set_option linter.unusedSimpArgs false
set_option linter.unusedVariables false
set_option maxRecDepth 100000

/-- the answer of a whole input: edges in new memory -/
def CheckV (w : World) (r : CRes) (e : Ending) (w' : World) : Prop :=
  ∃ v, e = .returned (.tuple #[.int .u32 (r.n : Int), v, .int .i64 (r.e : Int), .int .i64 (r.a : Int)]) ∧ Own w' w.heap.size 31 4 v r.l.length (edsC r.l) ∧ Keeps w w'
/-- behind k rows that are right -/
structure Rows (n m : Nat) (l : List UInt8) (k : Nat) (acc : List Ed) : Prop where
  len : acc.length = k
  le : 12 + 16 * k ≤ l.length
  km : k ≤ m
  eq : rowsS n m (l.drop 12) 12 = if (rowsS n (m - k) (l.drop (12 + 16 * k)) (12 + 16 * k)).e = 0 then ⟨acc ++ (rowsS n (m - k) (l.drop (12 + 16 * k)) (12 + 16 * k)).l, 0, 0⟩ else ⟨[], (rowsS n (m - k) (l.drop (12 + 16 * k)) (12 + 16 * k)).e, (rowsS n (m - k) (l.drop (12 + 16 * k)) (12 + 16 * k)).a⟩
theorem Rows.start {n m : Nat} {l : List UInt8} (h : 12 ≤ l.length) : Rows n m l 0 [] := by
  refine ⟨rfl, by omega, Nat.zero_le _, ?_⟩
  simp only [Nat.mul_zero, Nat.add_zero, Nat.sub_zero, List.nil_append]
  by_cases c : (rowsS n m (l.drop 12) 12).e = 0
  · rw [if_pos c]
    have := (rows_inv _ _ _ c).1
    cases hr : rowsS n m (l.drop 12) 12
    rw [hr] at c this
    simp only at c this
    rw [c, this]
  · rw [if_neg c]
    have := rows_none _ _ _ c
    cases hr : rowsS n m (l.drop 12) 12
    rw [hr] at this
    simp only at this
    rw [this]
theorem Rows.step {n m : Nat} {l : List UInt8} {k : Nat} {acc : List Ed} (h : Rows n m l k acc) (hk : k < m) (hr : (rowS ((l.drop (12 + 16 * k)).take 16) n).e = 0) : Rows n m l (k + 1) (acc ++ [(rowS ((l.drop (12 + 16 * k)).take 16) n).ed]) := by
  have hl : 16 ≤ (l.drop (12 + 16 * k)).length := by
    by_cases c : (l.drop (12 + 16 * k)).length < 16
    · have e : (l.drop (12 + 16 * k)).take 16 = l.drop (12 + 16 * k) := List.take_of_length_le (by omega)
      rw [e, rowS_short _ n c] at hr
      simp at hr
    · omega
  rw [List.length_drop] at hl
  have e1 : m - k = (m - (k + 1)) + 1 := by omega
  have e2 : (l.drop (12 + 16 * k)).drop 16 = l.drop (12 + 16 * (k + 1)) := by rw [List.drop_drop]; congr 1
  have e3 : 12 + 16 * k + 16 = 12 + 16 * (k + 1) := by omega
  refine ⟨by rw [List.length_append, h.len]; rfl, by omega, by omega, ?_⟩
  rw [h.eq, e1, rowsS, if_pos hr, e2, e3]
  by_cases c : (rowsS n (m - (k + 1)) (l.drop (12 + 16 * (k + 1))) (12 + 16 * (k + 1))).e = 0
  · rw [if_pos c, if_pos rfl, if_pos c]
    simp
  · rw [if_neg c, if_neg c, if_neg c]
theorem Rows.bad {n m : Nat} {l : List UInt8} {k : Nat} {acc : List Ed} (h : Rows n m l k acc) (hk : k < m) (hr : (rowS ((l.drop (12 + 16 * k)).take 16) n).e ≠ 0) : rowsS n m (l.drop 12) 12 = ⟨[], (rowS ((l.drop (12 + 16 * k)).take 16) n).e, 12 + 16 * k + (rowS ((l.drop (12 + 16 * k)).take 16) n).a⟩ := by
  have e1 : m - k = (m - (k + 1)) + 1 := by omega
  rw [h.eq, e1, rowsS, if_neg hr, if_neg hr]
theorem Rows.last {n m : Nat} {l : List UInt8} {acc : List Ed} (h : Rows n m l m acc) : rowsS n m (l.drop 12) 12 = if l.length = 12 + 16 * m then ⟨acc, 0, 0⟩ else ⟨[], 8, 12 + 16 * m⟩ := by
  have h1 := h.eq
  have h2 := h.le
  rw [Nat.sub_self, rowsS] at h1
  by_cases c : l.length = 12 + 16 * m
  · have e : l.drop (12 + 16 * m) = [] := List.drop_eq_nil_of_le (by omega)
    rw [e] at h1
    rw [if_pos c, h1]
    simp
  · have e : l.drop (12 + 16 * m) ≠ [] := fun e => by
      have := congrArg List.length e
      rw [List.length_drop] at this
      simp at this
      omega
    rw [if_neg e] at h1
    rw [if_neg c, h1]
    simp
theorem At.new' (W : World) (cs : List Value) (e : TypeId) (s : Nat) (h : W.heap.size = s) : At (W.alloc (.cells cs.toArray e)) (s + 1) (some ⟨s, 0, none⟩) cs := by
  subst h
  exact At.new W cs e _ (Nat.lt_succ_self _)
theorem rowS_place (b : List UInt8) (n : Nat) : (rowS b n).a ≤ 16 := by
  unfold rowS
  split
  · simp only; omega
  · split
    · simp
    · split
      · simp
      · split
        · simp
        · split <;> simp
theorem sizeU8' : (Tryd.prog.info? 5).map (·.size) = some 1 := by kernel_rfl

set_option maxHeartbeats 16000000 in
theorem refCheck_any (A : Option Addr) (n c : Nat) (l : List UInt8) (w : World) (hB : Bs w A l) (hnl : n = l.length) (hc : n ≤ c) (hn : n ≤ 1000000) :
    Calls Tryd.prog 22 #[.slice A n c] w (CheckV w (checkS l)) := by
  obtain ⟨i0, hi, hz0, hz1, hz2⟩ := info_parts info_edge
  have HB := Lib.hid hB
  have HN := Lib.hid hnl
  have GH := Lib.hid (refHead_any A n c l w hB hnl (by omega))
  clear hB hnl
  obtain ⟨RR, hRR⟩ : ∃ RR, checkS l = RR := ⟨_, rfl⟩
  rw [hRR]
  by_cases he : (headS l).e = 0
  · obtain ⟨⟨q1, q2, q3⟩, _, q5⟩ := headS_inv he
    have HC := Lib.hid (show RR = if (rowsS (headS l).n (headS l).m (l.drop 12) 12).e = 0 then ⟨(headS l).n, (rowsS (headS l).n (headS l).m (l.drop 12) 12).l, 0, 0⟩ else ⟨0, [], (rowsS (headS l).n (headS l).m (l.drop 12) 12).e, (rowsS (headS l).n (headS l).m (l.drop 12) 12).a⟩ by rw [← hRR]; unfold checkS; rw [if_pos he])
    clear hRR
    have HR0 := Lib.hid (Rows.start (n := (headS l).n) (m := (headS l).m) q5)
    have ha : (headS l).a = 0 := by
      unfold headS at he ⊢
      split
      · rename_i i hi
        rw [hi] at he
        simp at he
      · rename_i hi
        rw [hi] at he
        simp only at he ⊢
        split at he
        · simp at he
        · rename_i h1
          rw [if_neg h1]
          split at he
          · simp at he
          · rename_i h2
            rw [if_neg h2]
            split at he
            · simp at he
            · rename_i h3
              rw [if_neg h3]
              split at he
              · simp at he
              · rename_i h4
                rw [if_neg h4]
    have GH' := Lib.hid GH.out
    unfold headV at GH'
    rw [he, ha] at GH'
    clear GH he ha q3
    generalize (headS l).n = N at *
    generalize (headS l).m = M at *
    have hN0 : N < 4294967296 := by omega
    have hN : (N : Int) ≤ 2147483647 := by omega
    have hM : (M : Int) ≤ 16777216 := by omega
    clear q1 q2
    go_enter Tryd.func22, Tryd.ntmps22
    go_wp2_with fail
    refine GH'.out.mono ?_
    rintro e w1 ⟨rfl, k1⟩
    go_wp2_with fail
    go_loopw [10, 11] (fun v i wr => ∃ (k : Nat) (acc : List Ed), i = .int .i64 k ∧ Rows N M l k acc ∧ Own wr w.heap.size 31 4 v k (edsC acc) ∧ Keeps w wr) (fun _ i _ => M - (intOf i).toNat)
    case atStart => exact ⟨0, [], rfl, HR0.out, Own.nil _ _ _ _, k1⟩
    case round =>
      clear k1 HR0
      obtain ⟨k, acc, rfl, hR, hO, hkp⟩ := hrel
      have hkm := hR.km
      have hkl := hR.le
      by_cases hlt : k < M
      · obtain ⟨to, hto⟩ : ∃ to, to = min (12 + 16 * k + 16) n := ⟨_, rfl⟩
        have hmin : ∀ (ts : Array TypeId) (t : TypeId) (w : World), (Builtin.min_ ts t #[.int .i64 (12 + 16 * (k : Int) + 16), .int .i64 (n : Int)]).run Tryd.prog w = .ok (.int .i64 (to : Int)) w := by
          intro ts t w
          rw [run_min_int2]
          congr 2
          split <;> omega
        have hto1 : 12 + 16 * k ≤ to := by have := HN.out; omega
        have hto2 : to ≤ c := by omega
        have hto3 : to ≤ n := by omega
        have hsl := run_lohi (P := Tryd.prog) 22 5 Tryd.underlying22 sizeU8' A n c (12 + 16 * k) to hto1 hto2
        have htk : (l.drop (12 + 16 * k)).take (to - (12 + 16 * k)) = (l.drop (12 + 16 * k)).take 16 := by
          by_cases h : to = 12 + 16 * k + 16
          · congr 1; omega
          · rw [List.take_of_length_le (by rw [List.length_drop]; have := HN.out; omega), List.take_of_length_le (by rw [List.length_drop]; have := HN.out; omega)]
        have HTK := Lib.hid htk
        have GR := Lib.hid (fun W (q : Keeps w W) => refRow_any (dropA A c (12 + 16 * k)) (to - (12 + 16 * k)) (c - (12 + 16 * k)) ((l.drop (12 + 16 * k)).take 16) N hN0 W (((HB.out.keep q).dropA HN.out hc).take 16) (by rw [← HTK.out, List.length_take, List.length_drop]; have := HN.out; omega) (by omega))
        have hfr : ((12 + 16 * k : Nat) : Int) = 12 + 16 * (k : Int) := by omega
        rw [hfr] at hsl
        have hle1 : 12 + 16 * (k : Int) ≤ (n : Int) := by have := HN.out; omega
        have hkM : (k : Int) < (M : Int) := by omega
        have STEP := Lib.hid (hR.step hlt)
        have BAD := Lib.hid (hR.bad hlt)
        clear htk hfr hto hto1 hto2 hto3 hR hkm hkl
        obtain ⟨r, hr⟩ : ∃ r, rowS ((l.drop (12 + 16 * k)).take 16) N = r := ⟨_, rfl⟩
        rw [hr] at GR STEP BAD
        have hra : (r.a : Int) ≤ 16 := by
          rw [← hr]
          have := rowS_place ((l.drop (12 + 16 * k)).take 16) N
          omega
        clear hr
        unfold rowV at GR
        generalize dropA A c (12 + 16 * k) = D at *
        generalize to - (12 + 16 * k) = d1 at *
        generalize c - (12 + 16 * k) = d2 at *
        by_cases hre : r.e = 0
        · have STP := Lib.hid (STEP.out hre)
          rw [hre] at GR
          clear hre STEP BAD
          go_wp2_with fail
          refine (GR.out _ hkp).mono ?_
          rintro e w3 ⟨rfl, k3⟩
          have hk3 := keeps_trans hkp k3
          have hsz := hk3.size
          go_wp2_with (at_builtin; refine wpList_app _ rfl _ _ 36 rfl w.heap.size 31 i0 (.agg #[.int .u32 0, .int .u32 0, .int .u64 0, .int .u32 0]) 4 24 Tryd.underlying36 hi hz0 hz1 hz2 rfl (by decide) _ _ _ rfl (hO.keep (keeps_trans k3 (keeps_trans (keeps_alloc _ _) (keeps_alloc _ _)))) _ _ 1 1 (edC r.ed) rfl rfl (At.new' _ (edC r.ed) _ _ (by simp)) (fun u hu => edsC_one [r.ed] u (by simpa [edsC] using hu)) (by unfold maxLen; omega) (by omega) (by simp; omega) ?_)
          intro v' w5 hown' hgrow hblk
          have hkp' : Keeps w w5 := Below.grown (keeps_trans hk3 (keeps_trans (keeps_alloc _ _) (keeps_alloc _ _))) hgrow (keeps_trans hk3 (keeps_trans (keeps_alloc _ _) (keeps_alloc _ _))).size (fun g hg => (hO.lt g hg).1)
          have e : edsC acc ++ edC r.ed = edsC (acc ++ [r.ed]) := by simp [edsC]
          rw [e] at hown'
          clear e hgrow hblk hO
          go_wp2_with fail
          go_roundw
          case rel => exact ⟨k + 1, acc ++ [r.ed], by go_num, STP.out, hown', hkp'⟩
          case measure => simp [intOf]; omega
        · have BD := Lib.hid (BAD.out hre)
          have hre' : ((r.e : Int) == 0) = false := by rw [beq_eq_false_iff_ne]; omega
          have HRV := Lib.hid (show RR = ⟨0, [], r.e, 12 + 16 * k + r.a⟩ by rw [HC.out, BD.out]; simp only; rw [if_neg hre])
          clear hre STEP BAD
          go_wp2_with fail
          refine (GR.out _ hkp).mono ?_
          rintro e w3 ⟨rfl, k3⟩
          go_wp2_with fail
          refine bodyPost_ret (v := .tuple #[.int .u32 0, .slice none 0 0, .int .i64 (r.e : Int), .int .i64 (12 + 16 * (k : Int) + (r.a : Int))]) (by simp [results, Tryd.results22, go_sem]) rfl ?_
          rw [HRV.out]
          exact ⟨.slice none 0 0, by simp, Own.nil _ _ _ _, keeps_trans hkp (keeps_trans k3 (keeps_alloc _ _))⟩
      · obtain rfl : k = M := by omega
        have hLast := hR.last
        have hlen := hR.len
        by_cases hend : l.length = 12 + 16 * k
        · rw [if_pos hend] at hLast
          have HRV := Lib.hid (show RR = ⟨N, acc, 0, 0⟩ by rw [HC.out, hLast]; simp)
          have h1 : ¬ (12 + 16 * (k : Int)) < (n : Int) := by have := HN.out; omega
          have HO := Lib.hid hO
          obtain ⟨A', cap', rfl, -⟩ := hO.form
          have HL := Lib.hid hlen
          clear hLast hR hend hkl hkm hO hlen hlt
          go_wp2_with fail
          refine bodyPost_ret (v := .tuple #[.int .u32 (N : Int), .slice A' k cap', .int .i64 0, .int .i64 0]) (by simp [results, Tryd.results22, go_sem]) rfl ?_
          rw [HRV.out]
          refine ⟨_, rfl, ?_, hkp⟩
          have := HO.out
          simp only
          rw [HL.out]
          exact this
        · rw [if_neg hend] at hLast
          have HRV := Lib.hid (show RR = ⟨0, [], 8, 12 + 16 * k⟩ by rw [HC.out, hLast]; simp)
          have h1 : (12 + 16 * (k : Int)) < (n : Int) := by have := HN.out; omega
          obtain ⟨A', cap', rfl, -⟩ := hO.form
          clear hLast hR hend hkl hkm hO hlen hlt
          go_wp2_with fail
          refine bodyPost_ret (v := .tuple #[.int .u32 0, .slice none 0 0, .int .i64 8, .int .i64 (12 + 16 * (k : Int))]) (by simp [results, Tryd.results22, go_sem]) rfl ?_
          rw [HRV.out]
          exact ⟨.slice none 0 0, by simp, Own.nil _ _ _ _, hkp⟩
  · have HRV := Lib.hid (show RR = ⟨0, [], (headS l).e, (headS l).a⟩ by rw [← hRR]; unfold checkS; rw [if_neg he])
    have hb : (headS l).e ≤ 9 ∧ (headS l).a ≤ 1000000 := by
      unfold headS
      split
      · rename_i i hi
        have := (firstBad_cut hi).2.2.1
        simp only
        have := HN.out
        omega
      · split
        · have := HN.out
          simp only
          omega
        · split
          · simp
          · split
            · simp
            · split <;> simp
    unfold headV at GH
    obtain ⟨e1, he1⟩ : ∃ e1, (headS l).e = e1 := ⟨_, rfl⟩
    obtain ⟨a1, ha1⟩ : ∃ a1, (headS l).a = a1 := ⟨_, rfl⟩
    rw [he1, ha1] at GH HRV hb
    rw [he1] at he
    obtain ⟨N, hN⟩ : ∃ N, (headS l).n = N := ⟨_, rfl⟩
    obtain ⟨M, hM⟩ : ∃ M, (headS l).m = M := ⟨_, rfl⟩
    rw [hN, hM] at GH
    have hz : ((e1 : Int) == 0) = false := by rw [beq_eq_false_iff_ne]; omega
    clear he1 ha1 hN hM he hRR
    go_enter Tryd.func22, Tryd.ntmps22
    go_wp2_with fail
    refine GH.out.mono ?_
    rintro e w1 ⟨rfl, k1⟩
    go_wp2_with fail
    refine bodyPost_ret (v := .tuple #[.int .u32 0, .slice none 0 0, .int .i64 (e1 : Int), .int .i64 (a1 : Int)]) (by simp [results, Tryd.results22, go_sem]) rfl ?_
    rw [HRV.out]
    exact ⟨.slice none 0 0, rfl, Own.nil _ _ _ _, k1⟩
end Go.Proofs.YtbalejfloieiiaaDoor
