/- Package input: rows one behind the other, whole inputs. -/
import Derived.Test.YtbalejfloieiiaaDoorInHead
import Derived.Test.YtbalejfloieiiaaDoorInRow
namespace Go.Proofs.YtbalejfloieiiaaDoor
open Go.RowKit
set_option linter.unusedSimpArgs false
set_option linter.unusedVariables false
set_option maxRecDepth 100000

/-- the answer of readRows -/
def RowsV (w : World) (r : LRes) (e : Ending) (w' : World) : Prop :=
  ∃ v, e = .returned (.tuple #[v, errV r.e r.a]) ∧ Own w' w.heap.size 31 4 v r.l.length (edsC r.l) ∧ Keeps w w'
set_option maxHeartbeats 16000000 in
theorem readRows_any (A : Option Addr) (n c : Nat) (l : List UInt8) (N M : Nat) (hN0 : N < 4294967296) (hM0 : M ≤ 16777216) (w : World) (hS : Sizes w) (hH : Handle w) (hB : Bs w A l) (hnl : n = l.length) (hc : n ≤ c) (h12 : 12 ≤ n) (hn : n ≤ 1000000) :
    Calls Tryd.prog 57 #[.slice A n c, .int .u32 N, .int .u32 M] w (RowsV w (rowsS N M (l.drop 12) 12)) := by
  obtain ⟨i0, hi, hz0, hz1, hz2⟩ := info_parts info_edge
  have HB := Lib.hid hB
  have HN := Lib.hid hnl
  have HS := Lib.hid hS
  have HH := Lib.hid hH
  obtain ⟨RR, hRR⟩ : ∃ RR, rowsS N M (l.drop 12) 12 = RR := ⟨_, rfl⟩
  rw [hRR]
  have HR0 := Lib.hid (Rows.start (n := N) (m := M) (l := l) (by omega))
  have HRR := Lib.hid hRR
  have hM : (M : Int) ≤ 16777216 := by omega
  obtain ⟨C, hC⟩ : ∃ C, C = min M (n / 16) := ⟨_, rfl⟩
  have hmin0 : ∀ (ts : Array TypeId) (t : TypeId) (w : World), (Builtin.min_ ts t #[.int .i64 (M : Int), .int .i64 ((n : Int) / 16)]).run Tryd.prog w = .ok (.int .i64 (C : Int)) w := by
    intro ts t w
    rw [run_min_int2]
    congr 2
    split <;> omega
  have hCn : C ≤ 1000000 := by omega
  clear hB hnl hS hH hRR hC hM0
  go_enter Tryd.func57, Tryd.ntmps57
  go_wp2_with (at_make; refine wpList_make_own _ rfl _ _ 36 rfl w.heap.size 31 i0 (.agg #[.int .u32 0, .int .u32 0, .int .u64 0, .int .u32 0]) 4 Tryd.underlying36 hi hz0 hz1 .i64 .i64 _ C rfl rfl (by omega) (by rw [hz2]; omega) (by unfold maxLen; omega) (Nat.le_refl _) ?_; intro w1 hown1 hg1)
  have k1 : Keeps w w1 := keeps_grown hg1 _ (Nat.le_refl _) (by simp)
  have O1 := Lib.hid (Own.of_row hown1)
  clear hown1 hg1 hmin0
  go_loopw [8, 9, 21] (fun v p i wr => ∃ (k : Nat) (acc : List Ed), i = .int .u32 k ∧ p = .int .i64 (12 + 16 * (k : Int)) ∧ Rows N M l k acc ∧ Own wr w.heap.size 31 4 v k (edsC acc) ∧ Keeps w wr) (fun _ _ i _ => M - (intOf i).toNat)
  case atStart => exact ⟨0, [], rfl, rfl, HR0.out, O1.out, k1⟩
  case round =>
    clear k1 HR0 O1
    obtain ⟨k, acc, rfl, rfl, hR, hO, hkp⟩ := hrel
    have hkm := hR.km
    have hkl := hR.le
    by_cases hlt : k < M
    · obtain ⟨to, hto⟩ : ∃ to, to = min (12 + 16 * k + 16) n := ⟨_, rfl⟩
      have hmin : ∀ (ts : Array TypeId) (t : TypeId) (w : World), (Builtin.min_ ts t #[.int .i64 (12 + 16 * (k : Int) + 16), .int .i64 (n : Int)]).run Tryd.prog w = .ok (.int .i64 (to : Int)) w := by
        intro ts t w
        rw [run_min_int2]
        congr 2
        split <;> omega
      have hto1 : 12 + 16 * k ≤ to := by have := HN.out; omega
      have hto2 : to ≤ c := by omega
      have hto3 : to ≤ n := by omega
      have hsl := run_lohi (P := Tryd.prog) 22 5 Tryd.underlying22 sizeU8' A n c (12 + 16 * k) to hto1 hto2
      have htk : (l.drop (12 + 16 * k)).take (to - (12 + 16 * k)) = (l.drop (12 + 16 * k)).take 16 := by
        by_cases h : to = 12 + 16 * k + 16
        · congr 1; omega
        · rw [List.take_of_length_le (by rw [List.length_drop]; have := HN.out; omega), List.take_of_length_le (by rw [List.length_drop]; have := HN.out; omega)]
      have HTK := Lib.hid htk
      have GR := Lib.hid (fun W (q : Keeps w W) => readRow_any (dropA A c (12 + 16 * k)) (to - (12 + 16 * k)) (c - (12 + 16 * k)) ((l.drop (12 + 16 * k)).take 16) N hN0 W (HS.out.keep q) (((HB.out.keep q).dropA HN.out hc).take 16) (by rw [← HTK.out, List.length_take, List.length_drop]; have := HN.out; omega) (by omega))
      have hfr : ((12 + 16 * k : Nat) : Int) = 12 + 16 * (k : Int) := by omega
      rw [hfr] at hsl
      have hle1 : 12 + 16 * (k : Int) ≤ (n : Int) := by have := HN.out; omega
      have hkM : (k : Int) < (M : Int) := by omega
      have STEP := Lib.hid (hR.step hlt)
      have BAD := Lib.hid (hR.bad hlt)
      have TOK := Lib.hid (show 12 + 16 * (k + 1) ≤ n → (to : Int) = 12 + 16 * ((k + 1 : Nat) : Int) from fun h => by omega)
      clear htk hfr hto hto1 hto2 hto3 hR hkm hkl
      obtain ⟨r, hr⟩ : ∃ r, rowS ((l.drop (12 + 16 * k)).take 16) N = r := ⟨_, rfl⟩
      rw [hr] at GR STEP BAD
      have hra : (r.a : Int) ≤ 16 := by
        rw [← hr]
        have := rowS_place ((l.drop (12 + 16 * k)).take 16) N
        omega
      clear hr
      unfold rrowV edA at GR
      generalize dropA A c (12 + 16 * k) = D at *
      generalize to - (12 + 16 * k) = d1 at *
      generalize c - (12 + 16 * k) = d2 at *
      by_cases hre : r.e = 0
      · have STP := Lib.hid (STEP.out hre)
        have TE := Lib.hid (TOK.out (by have := STP.out.le; have := HN.out; omega))
        rw [hre, errV_zero] at GR
        clear hre STEP BAD
        go_wp2_with fail
        refine (GR.out _ hkp).mono ?_
        rintro e w3 ⟨rfl, k3⟩
        have hk3 := keeps_trans hkp k3
        have hsz := hk3.size
        go_wp2_with (at_builtin; refine wpList_app _ rfl _ _ 36 rfl w.heap.size 31 i0 (.agg #[.int .u32 0, .int .u32 0, .int .u64 0, .int .u32 0]) 4 24 Tryd.underlying36 hi hz0 hz1 hz2 rfl (by decide) _ _ _ rfl (hO.keep (keeps_trans k3 (keeps_trans (keeps_alloc _ _) (keeps_alloc _ _)))) _ _ 1 1 (edC r.ed) rfl rfl (At.new' _ (edC r.ed) _ _ (by simp)) (fun u hu => edsC_one [r.ed] u (by simpa [edsC] using hu)) (by unfold maxLen; omega) (by omega) (by simp; omega) ?_)
        intro v' w5 hown' hgrow hblk
        have hkp' : Keeps w w5 := Below.grown (keeps_trans hk3 (keeps_trans (keeps_alloc _ _) (keeps_alloc _ _))) hgrow (keeps_trans hk3 (keeps_trans (keeps_alloc _ _) (keeps_alloc _ _))).size (fun g hg => (hO.lt g hg).1)
        have e : edsC acc ++ edC r.ed = edsC (acc ++ [r.ed]) := by simp [edsC]
        rw [e] at hown'
        clear e hgrow hblk hO
        go_wp2_with fail
        go_roundw
        case rel => exact ⟨k + 1, acc ++ [r.ed], by go_num, by rw [TE.out], STP.out, hown', hkp'⟩
        case measure => simp [intOf]; omega
      · have HRV := Lib.hid (show RR = ⟨[], r.e, 12 + 16 * k + r.a⟩ by rw [← HRR.out]; exact BAD.out hre)
        have SH := Lib.hid (fun W (q : Keeps w W) => shifted_any r.e r.a (12 + 16 * k) (by omega) W (HH.out.keep q))
        have hfr : ((12 + 16 * k : Nat) : Int) = 12 + 16 * (k : Int) := by omega
        rw [hfr] at SH
        rw [errV_some hre] at GR
        have hev : errV r.e (12 + 16 * k + r.a) = .iface 88 (.agg #[.int .i64 r.e, .int .i64 ((r.a + (12 + 16 * k) : Nat) : Int)]) := by rw [errV_some hre, Nat.add_comm]
        have HEV := Lib.hid hev
        clear hre STEP BAD hfr hev
        go_wp2_with fail
        refine (GR.out _ hkp).mono ?_
        rintro e w3 ⟨rfl, k3⟩
        have hk3 := keeps_trans hkp (keeps_trans k3 (keeps_alloc _ (.cells #[.int .u32 r.ed.t, .int .u32 r.ed.h, .int .u64 r.ed.x, .int .u32 r.ed.m] 31)))
        go_wp2_with fail
        refine (SH.out _ hk3).mono ?_
        rintro e w4 ⟨rfl, k4⟩
        generalize ((r.a + (12 + 16 * k) : Nat) : Int) = Q at *
        go_wp2_with fail
        refine bodyPost_ret (v := .tuple #[.slice none 0 0, .iface 88 (.agg #[.int .i64 r.e, .int .i64 Q])]) (by simp [results, Tryd.results57, go_sem]) rfl ?_
        rw [HRV.out]
        exact ⟨.slice none 0 0, by rw [← HEV.out], Own.nil _ _ _ _, keeps_trans hk3 k4⟩
    · obtain rfl : k = M := by omega
      have hLast := hR.last
      have hlen := hR.len
      by_cases hend : l.length = 12 + 16 * k
      · rw [if_pos hend] at hLast
        have HRV := Lib.hid (show RR = ⟨acc, 0, 0⟩ by rw [← HRR.out, hLast])
        have h1 : ¬ (12 + 16 * (k : Int)) < (n : Int) := by have := HN.out; omega
        have HO := Lib.hid hO
        obtain ⟨A', cap', rfl, -⟩ := hO.form
        have HL := Lib.hid hlen
        clear hLast hR hend hkl hkm hO hlen hlt
        go_wp2_with fail
        refine bodyPost_ret (v := .tuple #[.slice A' k cap', .nilIface]) (by simp [results, Tryd.results57, go_sem]) rfl ?_
        rw [HRV.out]
        refine ⟨_, rfl, ?_, hkp⟩
        have := HO.out
        simp only
        rw [HL.out]
        exact this
      · rw [if_neg hend] at hLast
        have HRV := Lib.hid (show RR = ⟨[], 8, 12 + 16 * k⟩ by rw [← HRR.out, hLast])
        have h1 : (12 + 16 * (k : Int)) < (n : Int) := by have := HN.out; omega
        obtain ⟨A', cap', rfl, -⟩ := hO.form
        clear hLast hR hend hkl hkm hO hlen hlt
        go_wp2_with fail
        refine bodyPost_ret (v := .tuple #[.slice none 0 0, .iface 88 (.agg #[.int .i64 8, .int .i64 (12 + 16 * (k : Int))])]) (by simp [results, Tryd.results57, go_sem]) rfl ?_
        rw [HRV.out]
        exact ⟨.slice none 0 0, rfl, Own.nil _ _ _ _, hkp⟩

/-- the answer of readAll -/
def RallV (w : World) (r : CRes) (e : Ending) (w' : World) : Prop :=
  ∃ v, e = .returned (.tuple #[.int .u32 (r.n : Int), v, errV r.e r.a]) ∧ Own w' w.heap.size 31 4 v r.l.length (edsC r.l) ∧ Keeps w w'
theorem checkS_bad {l : List UInt8} (he : (headS l).e ≠ 0) : checkS l = ⟨0, [], (headS l).e, (headS l).a⟩ := by unfold checkS; rw [if_neg he]
theorem checkS_rows {l : List UInt8} (he : (headS l).e = 0) : checkS l = if (rowsS (headS l).n (headS l).m (l.drop 12) 12).e = 0 then ⟨(headS l).n, (rowsS (headS l).n (headS l).m (l.drop 12) 12).l, 0, 0⟩ else ⟨0, [], (rowsS (headS l).n (headS l).m (l.drop 12) 12).e, (rowsS (headS l).n (headS l).m (l.drop 12) 12).a⟩ := by unfold checkS; rw [if_pos he]
theorem checkS_e0 (l : List UInt8) : (checkS l).e = 0 → (checkS l).a = 0 := by
  by_cases he : (headS l).e = 0
  · rw [checkS_rows he]
    split
    · simp
    · intro h
      exact absurd h (by assumption)
  · rw [checkS_bad he]
    exact fun h => absurd h he
set_option maxHeartbeats 16000000 in
theorem readAll_any (A : Option Addr) (n c : Nat) (l : List UInt8) (w : World) (hS : Sizes w) (hH : Handle w) (hB : Bs w A l) (hnl : n = l.length) (hc : n ≤ c) (hn : n ≤ 1000000) :
    Calls Tryd.prog 37 #[.slice A n c] w (RallV w (checkS l)) := by
  have R := Lib.hid (readHead_any A n c l w hS hB hnl hc (by omega))
  unfold rheadV at R
  obtain ⟨KK, hKK⟩ : ∃ KK, checkS l = KK := ⟨_, rfl⟩
  rw [hKK]
  have HKK := Lib.hid hKK
  clear hKK
  by_cases he : (headS l).e = 0
  · obtain ⟨⟨q1, q2, q3⟩, _, q5⟩ := headS_inv he
    rw [he, errV_zero] at R
    have RR := Lib.hid (fun W (q : Keeps w W) => readRows_any A n c l (headS l).n (headS l).m (by omega) q2 W (hS.keep q) (hH.keep q) (hB.keep q) hnl hc (by omega) hn)
    have HC := Lib.hid (checkS_rows he)
    have HE := Lib.hid (fun h => (rows_inv (n := (headS l).n) (headS l).m (l.drop 12) 12 h).1)
    have HL := Lib.hid (rows_none (n := (headS l).n) (headS l).m (l.drop 12) 12)
    generalize (headS l).n = N at *
    generalize (headS l).m = M at *
    obtain ⟨r, hr⟩ : ∃ r, rowsS N M (l.drop 12) 12 = r := ⟨_, rfl⟩
    rw [hr] at RR HC HE HL
    clear q1 q2 q3 q5 hS hH hB hnl he hr
    unfold RowsV at RR
    by_cases hre : r.e = 0
    · have HCC := Lib.hid (show KK = ⟨N, r.l, 0, 0⟩ by rw [← HKK.out, HC.out, if_pos hre])
      rw [hre, errV_zero] at RR
      clear hre HC HE HL
      go_enter Tryd.func37, Tryd.ntmps37
      go_wp2_with fail
      refine R.out.mono ?_
      rintro e w1 ⟨rfl, k1⟩
      go_wp2_with fail
      refine (RR.out _ k1).mono ?_
      rintro e w2 ⟨v, rfl, o, k2⟩
      have HO := Lib.hid (o.base_le k1.size)
      obtain ⟨A', cap', rfl, -⟩ := o.form
      clear o
      go_wp2_with fail
      refine bodyPost_ret (v := .tuple #[.int .u32 (N : Int), .slice A' r.l.length cap', .nilIface]) (by simp [results, Tryd.results37, go_sem]) rfl ?_
      rw [HCC.out]
      exact ⟨_, rfl, HO.out, keeps_trans k1 k2⟩
    · have HCC := Lib.hid (show KK = ⟨0, [], r.e, r.a⟩ by rw [← HKK.out, HC.out, if_neg hre])
      have HEV := Lib.hid (errV_some (p := r.a) hre)
      rw [errV_some hre] at RR
      clear hre HC HE HL
      go_enter Tryd.func37, Tryd.ntmps37
      go_wp2_with fail
      refine R.out.mono ?_
      rintro e w1 ⟨rfl, k1⟩
      go_wp2_with fail
      refine (RR.out _ k1).mono ?_
      rintro e w2 ⟨v, rfl, o, k2⟩
      obtain ⟨A', cap', rfl, -⟩ := o.form
      clear o
      go_wp2_with fail
      refine bodyPost_ret (v := .tuple #[.int .u32 0, .slice none 0 0, .iface 88 (.agg #[.int .i64 r.e, .int .i64 r.a])]) (by simp [results, Tryd.results37, go_sem]) rfl ?_
      rw [HCC.out]
      exact ⟨_, by rw [HEV.out]; rfl, Own.nil _ _ _ _, keeps_trans k1 k2⟩
  · have HCC := Lib.hid (HKK.out.symm.trans (checkS_bad he))
    rw [errV_some he] at R
    have HEV := Lib.hid (errV_some (p := (headS l).a) he)
    generalize (headS l).n = N at *
    generalize (headS l).m = M at *
    generalize (headS l).e = p at *
    generalize (headS l).a = q at *
    clear he hS hH hB hnl
    go_enter Tryd.func37, Tryd.ntmps37
    go_wp2_with fail
    refine R.out.mono ?_
    rintro e w1 ⟨rfl, k1⟩
    go_wp2_with fail
    refine bodyPost_ret (v := .tuple #[.int .u32 0, .slice none 0 0, .iface 88 (.agg #[.int .i64 p, .int .i64 q])]) (by simp [results, Tryd.results37, go_sem]) rfl ?_
    rw [HCC.out]
    exact ⟨_, by rw [HEV.out]; rfl, Own.nil _ _ _ _, k1⟩

set_option maxHeartbeats 4000000 in
theorem check_any (A : Option Addr) (n c : Nat) (l : List UInt8) (w : World) (hS : Sizes w) (hH : Handle w) (hB : Bs w A l) (hnl : n = l.length) (hc : n ≤ c) (hn : n ≤ 1000000) :
    Calls Tryd.prog 21 #[.slice A n c] w (CheckV w (checkS l)) := by
  have R := Lib.hid (readAll_any A n c l w hS hH hB hnl hc hn)
  have T := Lib.hid (fun W (k : Keeps w W) => told_any (checkS l).e (checkS l).a (checkS_e0 l) W (hH.keep k))
  clear hS hH hB hnl
  unfold RallV at R
  unfold CheckV
  generalize checkS l = r at *
  generalize errV r.e r.a = E at *
  go_enter Tryd.func21, Tryd.ntmps21
  go_wp2_with fail
  refine R.out.mono ?_
  rintro e w1 ⟨v, rfl, o, k1⟩
  have HO := Lib.hid o
  obtain ⟨A', cap', rfl, -⟩ := o.form
  clear o
  go_wp2_with fail
  refine (T.out _ k1).mono ?_
  rintro e w2 ⟨rfl, k2⟩
  go_wp2_with fail
  exact bodyPost_ret (v := .tuple #[.int .u32 (r.n : Int), .slice A' r.l.length cap', .int .i64 r.e, .int .i64 r.a]) (by simp [results, Tryd.results21, go_sem]) rfl ⟨_, rfl, HO.out.keep k2, keeps_trans k1 k2⟩
end Go.Proofs.YtbalejfloieiiaaDoor
