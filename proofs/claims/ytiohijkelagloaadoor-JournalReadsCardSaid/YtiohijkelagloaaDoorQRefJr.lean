/- The reference's answer of layer 9: a record's sector, the records with which bytes begin. -/
import Derived.Test.YtiohijkelagloaaDoorQRefCrc
import Derived.Test.YtiohijkelagloaaDoorRefA
import Derived.Test.YtiohijkelagloaaDoorQJrC
namespace Go.Proofs.YtiohijkelagloaaDoor
open Go.RowKit
set_option linter.unusedSimpArgs false
set_option linter.unusedVariables false
set_option maxRecDepth 100000

theorem rfield_any (A : Option Addr) (n c : Nat) (l : List UInt8) (p : Nat) (w : World) (hB : Bs w A l) (hnl : n = l.length) (hn : n ≤ 1000) (hp : p + 4 ≤ n) :
    Calls Tryd.prog 44 #[.slice A n c, .int .i64 (p : Int)] w fun e w' => e = .returned (.int .u32 (numAt l p 4 : Int)) ∧ w = w' := by
  have G := Lib.hid (refGet_yes A n c l p 4 w hB hnl (by omega) (by decide) hp)
  have hlt := numAt_lt4 l p
  clear hB hnl
  generalize numAt l p 4 = x at *
  have hxw : (x : Int) % 4294967296 = (x : Int) := by omega
  go_enter Tryd.func44, Tryd.ntmps44
  go_wp2_with (go_at_call 58; refine G.out.mono ?_; rintro e w' ⟨rfl, rfl⟩)
  go_ret
  exact ⟨rfl, rfl⟩
theorem rput4 (A : Option Addr) (n c : Nat) (l : List UInt8) (x : Nat) (w : World) (hB : Bs w A l) (hnl : n = l.length) (hx : x < 4294967296) (hn : n ≤ 1000) :
    Calls Tryd.prog 59 #[.slice A n c, .int .u64 x, .int .i64 4] w (New w (l ++ nb 4 x)) := refPut_any A n c l x 4 w hB hnl (by omega) (by omega)
set_option maxHeartbeats 8000000 in
theorem laid_any9 (n : Nat) (r : RecS) (w : World) (hr : RecOk r) (hn : n < 4294967296) :
    Calls Tryd.prog 45 #[.int .i64 (n : Int), .agg (recC r).toArray] w (New w (sectB n r)) := by
  obtain ⟨i0, hi, hz0, hz1, hz2⟩ := info_parts info_u8
  have kB := keeps_alloc w (.cells (recC r).toArray 43)
  have BX := Lib.hid (Box.new w 43 (recC r).toArray)
  have KB := Lib.hid kB
  have P1 := Lib.hid (rput4 none 0 0 [] n (w.alloc (.cells (recC r).toArray 43)) (Bs.nil _ _) rfl hn (by decide))
  have P2 := Lib.hid (fun (V : World) (A : Option Addr) (c : Nat) (h : Bs V A ([] ++ nb 4 n)) => rput4 A 4 c ([] ++ nb 4 n) r.kind V h (by simp [nb_length]) hr.kind (by decide))
  have P3 := Lib.hid (fun (V : World) (A : Option Addr) (c : Nat) (h : Bs V A ([] ++ nb 4 n ++ nb 4 r.kind)) => rput4 A 8 c ([] ++ nb 4 n ++ nb 4 r.kind) r.a V h (by simp [nb_length]) hr.a (by decide))
  have P4 := Lib.hid (fun (V : World) (A : Option Addr) (c : Nat) (h : Bs V A ([] ++ nb 4 n ++ nb 4 r.kind ++ nb 4 r.a)) => rput4 A 12 c ([] ++ nb 4 n ++ nb 4 r.kind ++ nb 4 r.a) r.b V h (by simp [nb_length]) hr.b (by decide))
  have E4 := Lib.hid (show [] ++ nb 4 n ++ nb 4 r.kind ++ nb 4 r.a ++ nb 4 r.b = headR n r by simp [headR])
  have LEN := Lib.hid (show ([] ++ nb 4 n).length = 4 ∧ ([] ++ nb 4 n ++ nb 4 r.kind).length = 8 ∧ ([] ++ nb 4 n ++ nb 4 r.kind ++ nb 4 r.a).length = 12 by simp [nb_length])
  have SUM := Lib.hid (fun (V : World) (A : Option Addr) (c : Nat) (h : Bs V A (bodyR n r)) => refSum_any A 60 c (bodyR n r) V h (bodyR_length n r).symm (by decide))
  have hsl := extC_lt (s := 0) (by decide) (bodyR n r)
  have P5 := Lib.hid (fun (V : World) (A : Option Addr) (c : Nat) (h : Bs V A (bodyR n r)) => rput4 A 60 c (bodyR n r) (extC 0 (bodyR n r)) V h (bodyR_length n r).symm hsl (by decide))
  have FIN := Lib.hid (show bodyR n r ++ nb 4 (extC 0 (bodyR n r)) = sectB n r from rfl)
  have HL := Lib.hid (headR_length n r)
  have BD := Lib.hid (show headR n r ++ noughts 44 = bodyR n r from rfl)
  have hnw : (n : Int) % 18446744073709551616 = (n : Int) := by omega
  have q1 := hr.kind
  have q2 := hr.a
  have q3 := hr.b
  have u1 : (r.kind : Int) % 18446744073709551616 = (r.kind : Int) := by omega
  have u2 : (r.a : Int) % 18446744073709551616 = (r.a : Int) := by omega
  have u3 : (r.b : Int) % 18446744073709551616 = (r.b : Int) := by omega
  have x0 := BX.out.cell 0 (v := .int .u32 (r.kind : Int)) (by simp [recC])
  have x1 := BX.out.cell 1 (v := .int .u32 (r.a : Int)) (by simp [recC])
  have x2 := BX.out.cell 2 (v := .int .u32 (r.b : Int)) (by simp [recC])
  unfold recC at *
  clear kB hr hn q1 q2 q3
  generalize bodyR n r = bd at *
  generalize headR n r = hd at *
  generalize sectB n r = sb at *
  generalize extC 0 bd = su at *
  have u4 : (su : Int) % 18446744073709551616 = (su : Int) := by omega
  go_enter Tryd.func45, Tryd.ntmps45
  go_wp2_with fail
  refine P1.out.mono ?_
  rintro e w1 ⟨v1, rfl, o1, k1⟩
  rw [LEN.out.1] at o1
  obtain ⟨A1, c1, rfl, -⟩ := o1.form
  have K1 := Lib.hid k1
  have y0 := k1.cellOf x0
  have y1 := k1.cellOf x1
  have y2 := k1.cellOf x2
  have C2 := Lib.hid (P2.out _ A1 c1 o1.at_)
  clear o1 k1
  go_wp2_with fail
  refine C2.out.mono ?_
  rintro e w2 ⟨v2, rfl, o2, k2⟩
  rw [LEN.out.2.1] at o2
  obtain ⟨A2, c2, rfl, -⟩ := o2.form
  have K2 := Lib.hid (keeps_trans K1.out k2)
  have z1 := k2.cellOf y1
  have z2 := k2.cellOf y2
  have C3 := Lib.hid (P3.out _ A2 c2 o2.at_)
  clear o2 k2
  go_wp2_with fail
  refine C3.out.mono ?_
  rintro e w3 ⟨v3, rfl, o3, k3⟩
  rw [LEN.out.2.2] at o3
  obtain ⟨A3, c3, rfl, -⟩ := o3.form
  have K3 := Lib.hid (keeps_trans K2.out k3)
  have s2 := k3.cellOf z2
  have C4 := Lib.hid (P4.out _ A3 c3 o3.at_)
  clear o3 k3
  go_wp2_with fail
  refine C4.out.mono ?_
  rintro e w4 ⟨v4, rfl, o4, k4⟩
  rw [E4.out, HL.out] at o4
  obtain ⟨A4, c4, rfl, -⟩ := o4.form
  have K4 := Lib.hid (keeps_trans K3.out k4)
  have O4 := Lib.hid (o4.base_le K3.out.size)
  clear o4 k4
  go_wp2_with fail
  go_loopw [5] (fun v wr => ∃ (j : Nat) (A : Option Addr) (cc : Nat), j ≤ 44 ∧ v = .slice A (16 + j) cc ∧ Hid (Own wr (w.alloc (.cells #[.int .u32 (r.kind : Int), .int .u32 (r.a : Int), .int .u32 (r.b : Int)] 43)).heap.size 5 1 v (16 + j) (cel (hd ++ noughts j))) ∧ Hid (Keeps (w.alloc (.cells #[.int .u32 (r.kind : Int), .int .u32 (r.a : Int), .int .u32 (r.b : Int)] 43)) wr)) (fun v _ => 60 - (match v with | .slice _ n _ => n | _ => 0))
  case atStart => exact ⟨0, A4, c4, by omega, rfl, Lib.hid (by simpa [noughts] using O4.out), K4⟩
  case round =>
    obtain ⟨j, A5, c5, hj, rfl, HO, KR⟩ := hrel
    generalize hN : 16 + j = N at *
    by_cases hlt : j < 44
    · have hNi : (N : Int) < 60 := by omega
      have hNb : N ≤ 59 := by omega
      have HNJ := Lib.hid hN
      clear hN hlt
      go_wp2_with (at_builtin; refine wpList_app _ rfl _ _ 22 rfl (w.alloc (.cells #[.int .u32 (r.kind : Int), .int .u32 (r.a : Int), .int .u32 (r.b : Int)] 43)).heap.size 5 i0 (.int .u8 0) 1 1 Tryd.underlying22 hi hz0 hz1 hz2 rfl (by decide) _ N _ rfl (HO.out.keep (keeps_alloc wr _)) _ (some ⟨wr.heap.size, 0, none⟩) 1 1 (cel [0]) rfl rfl (At.new _ _ _ _ (Nat.lt_succ_self _)) (cel_one _) (by unfold maxLen; omega) (by omega) (by have := KR.out.size; simp at *; omega) ?_; intro v6 w6 hown6 hgrow6 hblk6)
      have k6 : Keeps (w.alloc (.cells #[.int .u32 (r.kind : Int), .int .u32 (r.a : Int), .int .u32 (r.b : Int)] 43)) w6 := Below.grown (keeps_trans KR.out (keeps_alloc wr _)) hgrow6 (keeps_trans KR.out (keeps_alloc wr _)).size (fun g hg => (HO.out.lt g hg).1)
      have e : cel (hd ++ noughts j) ++ cel [0] = cel (hd ++ noughts (j + 1)) := by
        rw [← cel_append, List.append_assoc]
        congr 2
        simp [noughts, List.replicate_succ']
      have O6 := Lib.hid (show Own w6 (w.alloc (.cells #[.int .u32 (r.kind : Int), .int .u32 (r.a : Int), .int .u32 (r.b : Int)] 43)).heap.size 5 1 v6 (16 + (j + 1)) (cel (hd ++ noughts (j + 1))) by
        have := hown6
        rw [e, ← HNJ.out] at this
        exact this)
      have K6 := Lib.hid k6
      clear hown6 hgrow6 hblk6 k6 e
      obtain ⟨A6, c6, rfl, -⟩ := O6.out.form
      have HN1 := HNJ.out
      go_wp2_with fail
      go_roundw
      case rel => exact ⟨j + 1, A6, c6, by omega, rfl, O6, K6⟩
      case measure => simp; omega
    · obtain rfl : j = 44 := by omega
      obtain rfl : N = 60 := by omega
      have O9 := Lib.hid (show Own wr (w.alloc (.cells #[.int .u32 (r.kind : Int), .int .u32 (r.a : Int), .int .u32 (r.b : Int)] 43)).heap.size 5 1 (.slice A5 60 c5) 60 (cel bd) by rw [← BD.out]; exact HO.out)
      clear hlt hj HO
      go_wp2_with fail
      refine (SUM.out _ A5 c5 O9.out.at_).mono ?_
      rintro e w7 ⟨rfl, rfl⟩
      have C5 := Lib.hid (P5.out _ A5 c5 O9.out.at_)
      rw [FIN.out] at C5
      go_wp2_with fail
      refine C5.out.mono ?_
      rintro e w8 ⟨v8, rfl, o8, k8⟩
      go_wp2_with fail
      go_ret
      have kk := keeps_trans KB.out KR.out
      exact ⟨v8, rfl, o8.base_le kk.size, keeps_trans kk k8⟩
end Go.Proofs.YtiohijkelagloaaDoor
/- The reference's answer of layer 9: Read. -/
namespace Go.Proofs.YtiohijkelagloaaDoor
open Go.RowKit
set_option linter.unusedSimpArgs false
set_option linter.unusedVariables false
set_option maxRecDepth 100000

theorem recsOf_over (b : List UInt8) (k : Nat) (h : GoodTo b (List.range k)) (hx : b.length < 64 * (k + 1) ∨ k = 65536) : recsOf b = rowsTo b (List.range k) := by
  refine recsOf_stop b k h ?_
  rcases hx with hx | hx
  · refine .inl fun hh => ?_
    have := hh.length
    rw [chunkB_length] at this
    omega
  · exact .inr hx
set_option maxHeartbeats 16000000 in
theorem rread_any (A : Option Addr) (n c : Nat) (b : List UInt8) (w : World) (hB : Bs w A b) (hn : n = b.length) (hc : n ≤ c) (hnx : n ≤ 16777216) :
    Calls Tryd.prog 18 #[.slice A n c] w fun e w' => ∃ v, e = .returned v ∧ Own w' w.heap.size 43 3 v (recsOf b).length (rowsC (recsOf b)) ∧ Keeps w w' := by
  obtain ⟨i0, hi, hz0, hz1, hz2⟩ := info_parts infoRec
  have HB := Lib.hid hB
  have HN := Lib.hid hn
  have hni : (n : Int) ≤ 16777216 := by omega
  have HC := Lib.hid hc
  have HX := Lib.hid hnx
  clear hB hn hc hnx
  obtain ⟨RS, hRS⟩ : ∃ RS, recsOf b = RS := ⟨_, rfl⟩
  have HRS := Lib.hid hRS
  rw [hRS]
  clear hRS
  go_enter Tryd.func18, Tryd.ntmps18
  go_wp2_with fail
  go_loopw [4, 3] (fun i v wr => ∃ (j : Nat) (A1 : Option Addr) (c1 : Nat), j ≤ 65536 ∧ i = .int .i64 j ∧ v = .slice A1 j c1 ∧ Hid (Own wr w.heap.size 43 3 (.slice A1 j c1) j (rowsC (rowsTo b (List.range j)))) ∧ Hid (GoodTo b (List.range j)) ∧ Hid (Keeps w wr)) (fun i _ _ => 65536 - (intOf i).toNat)
  case atStart => exact ⟨0, none, 0, Nat.zero_le _, rfl, rfl, Lib.hid (Own.nil _ _ _ _), Lib.hid (GoodTo.nil b), Lib.hid (keeps_refl _)⟩
  case round =>
    obtain ⟨j, A1, c1, hj, rfl, rfl, HO, HG, KR⟩ := hrel
    obtain ⟨j1, hj1⟩ : ∃ j1, j + 1 = j1 := ⟨_, rfl⟩
    obtain ⟨o, ho⟩ : ∃ o, 64 * j = o := ⟨_, rfl⟩
    obtain ⟨m, hm⟩ : ∃ m, 64 * j1 = m := ⟨_, rfl⟩
    have hsum : (j : Int) + 1 = (j1 : Int) := by omega
    have hmul1 : (64 : Int) * (j : Int) = (o : Int) := by omega
    have hmul2 : (64 : Int) * (j1 : Int) = (m : Int) := by omega
    have hjb : (j : Int) ≤ 65536 := by omega
    have hj1b : (j1 : Int) ≤ 65537 := by omega
    have hob : (o : Int) ≤ 4194304 := by omega
    have hmb : (m : Int) ≤ 4194368 := by omega
    by_cases hfit : m ≤ n ∧ j < 65536
    · have hle : (m : Int) ≤ (n : Int) := by omega
      have hlt : decide ((j : Int) < (65536 : Int)) = true := decide_eq_true (by omega)
      have hlt2 : decide (j < 65536) = true := decide_eq_true hfit.2
      have hmc : (m : Int) ≤ (c : Int) := by have := HC.out; omega
      have hom : (o : Int) ≤ (m : Int) := by omega
      have SF := run_lohi (P := Tryd.prog) 22 5 Tryd.underlying22 (by kernel_rfl) A n c o m (by omega) (by have := HC.out; omega)
      rw [show m - o = 64 by omega] at SF
      have CB := Lib.hid (show chunkB b j = (b.drop o).take 64 by rw [← ho]; rfl)
      have BC := Lib.hid (show ∀ V, Keeps wr V → Bs V (dropA A c o) (chunkB b j) from fun V kk => by
        rw [CB.out]
        exact (((HB.out.keep KR.out).keep kk).dropA HN.out HC.out).take 64)
      have CL := Lib.hid (show 64 = (chunkB b j).length by rw [chunkB_length]; have := HN.out; omega)
      have F1 := Lib.hid (fun (p : Nat) (hp : p + 4 ≤ 64) => rfield_any (dropA A c o) 64 (c - o) (chunkB b j) p wr (BC.out wr (keeps_refl _)) CL.out (by decide) hp)
      have f1 : Calls Tryd.prog 44 #[.slice (dropA A c o) 64 (c - o), .int .i64 4] _ _ := F1.out 4 (by decide)
      have f2 : Calls Tryd.prog 44 #[.slice (dropA A c o) 64 (c - o), .int .i64 8] _ _ := F1.out 8 (by decide)
      have f3 : Calls Tryd.prog 44 #[.slice (dropA A c o) 64 (c - o), .int .i64 12] _ _ := F1.out 12 (by decide)
      have G1 := Lib.hid f1
      have G2 := Lib.hid f2
      have G3 := Lib.hid f3
      have RO := saidR_ok (chunkB b j)
      have SR : saidR (chunkB b j) = ⟨numAt (chunkB b j) 4 4, numAt (chunkB b j) 8 4, numAt (chunkB b j) 12 4⟩ := rfl
      have LD := Lib.hid (fun (V : World) => laid_any9 j1 (saidR (chunkB b j)) V RO (by omega))
      have SL := Lib.hid (sectB_length j1 (saidR (chunkB b j)))
      have EQ := Lib.hid (fun (V : World) (kk : Keeps wr V) (B : Option Addr) (d : Nat) (h : Bs V B (sectB j1 (saidR (chunkB b j)))) => eqBytes_any (dropA A c o) 64 (c - o) (chunkB b j) B 64 d (sectB j1 (saidR (chunkB b j))) V (BC.out V kk) CL.out h SL.out.symm)
      have ISR := Lib.hid (show IsRec (chunkB b j) (j + 1) ↔ (saidR (chunkB b j)).kind ≠ 0 ∧ chunkB b j = sectB j1 (saidR (chunkB b j)) by rw [hj1]; rfl)
      have RW := Lib.hid (rowsTo_snoc b (List.range j) j)
      have RR := Lib.hid (show List.range (j + 1) = List.range j ++ [j] from List.range_succ)
      have HJ1 := Lib.hid hj1
      obtain ⟨sd, hsd⟩ : ∃ sd, sectB j1 (saidR (chunkB b j)) = sd := ⟨_, rfl⟩
      rw [hsd] at LD SL EQ ISR
      have HJ := Lib.hid hfit.2
      clear f1 f2 f3 F1 RO hfit hj1 ho hm hsd
      rw [SR] at LD ISR RW
      unfold recC at LD
      simp only at LD ISR
      generalize numAt (chunkB b j) 4 4 = x1 at *
      generalize numAt (chunkB b j) 8 4 = x2 at *
      generalize numAt (chunkB b j) 12 4 = x3 at *
      clear SR
      by_cases hk : x1 = 0
      · have hkk : ((x1 : Int) == 0) = true := by rw [beq_iff_eq]; omega
        have STOP := Lib.hid (show RS = rowsTo b (List.range j) by
          rw [← HRS.out]
          exact recsOf_stop b j HG.out (.inl (fun hh => (ISR.out.1 hh).1 hk)))
        clear hk
        go_wp2_with fail
        refine G1.out.mono ?_
        rintro e w' ⟨rfl, rfl⟩
        go_wp2_with fail
        refine G2.out.mono ?_
        rintro e w' ⟨rfl, rfl⟩
        go_wp2_with fail
        refine G3.out.mono ?_
        rintro e w' ⟨rfl, rfl⟩
        go_wp2_with fail
        go_ret
        have kA := keeps_alloc wr (.cells #[.int .u32 (x1 : Int), .int .u32 (x2 : Int), .int .u32 (x3 : Int)] 43)
        rw [STOP.out, show (rowsTo b (List.range j)).length = j by simp [rowsTo]]
        exact ⟨_, rfl, HO.out.keep kA, keeps_trans KR.out kA⟩
      · have hkk : ((x1 : Int) == 0) = false := by rw [beq_eq_false_iff_ne]; omega
        have HKK := Lib.hid hk
        clear hk
        by_cases he : chunkB b j = sd
        · have GD := Lib.hid (show GoodTo b (List.range (j + 1)) by
            rw [RR.out]
            exact HG.out.snoc (by rw [List.length_range]; exact HJ.out) (by rw [List.length_range]; exact ISR.out.2 ⟨HKK.out, he⟩))
          rw [decide_eq_true he] at EQ
          clear he
          go_wp2_with fail
          refine G1.out.mono ?_
          rintro e w' ⟨rfl, rfl⟩
          go_wp2_with fail
          refine G2.out.mono ?_
          rintro e w' ⟨rfl, rfl⟩
          go_wp2_with fail
          refine G3.out.mono ?_
          rintro e w' ⟨rfl, rfl⟩
          go_wp2_with fail
          have kA := keeps_alloc wr (.cells #[.int .u32 (x1 : Int), .int .u32 (x2 : Int), .int .u32 (x3 : Int)] 43)
          have BX := Box.new wr 43 #[.int .u32 (x1 : Int), .int .u32 (x2 : Int), .int .u32 (x3 : Int)]
          refine (LD.out _).mono ?_
          rintro e w5 ⟨v5, rfl, o5, k5⟩
          rw [SL.out] at o5
          obtain ⟨A5, c5, rfl, -⟩ := o5.form
          have K5 := Lib.hid (keeps_trans kA k5)
          have E5 := Lib.hid (EQ.out _ K5.out A5 c5 o5.at_)
          have B5 := BX.keep k5
          have p0 := B5.cell 0 rfl
          have p1 := B5.cell 1 rfl
          have p2 := B5.cell 2 rfl
          have O5 := Lib.hid (HO.out.keep (keeps_trans K5.out (keeps_alloc w5 (.cells #[.int .u32 (x1 : Int), .int .u32 (x2 : Int), .int .u32 (x3 : Int)] 43))))
          clear o5 k5 kA B5 BX
          go_wp2_with fail
          refine E5.out.mono ?_
          rintro e w6 ⟨rfl, rfl⟩
          go_wp2_with (at_builtin; refine wpList_app _ rfl _ _ 36 rfl w.heap.size 43 i0 (.agg #[.int .u32 0, .int .u32 0, .int .u32 0]) 3 12 Tryd.underlying36 hi hz0 hz1 hz2 rfl (by decide) _ j _ rfl O5.out _ (some ⟨w5.heap.size, 0, none⟩) 1 1 [.int .u32 (x1 : Int), .int .u32 (x2 : Int), .int .u32 (x3 : Int)] rfl rfl (At.new _ _ _ _ (Nat.lt_succ_self _)) (fun u hu => by simp at hu; rcases hu with rfl | rfl | rfl <;> rfl) (by unfold maxLen; omega) (by omega) (by have := KR.out.size; have := K5.out.size; simp; omega) ?_; intro v7 w7 hown7 hgrow7 hblk7)
          have K7 := Lib.hid (show Keeps w w7 from Below.grown (keeps_trans KR.out (keeps_trans K5.out (keeps_alloc w5 _))) hgrow7 (keeps_trans KR.out (keeps_trans K5.out (keeps_alloc w5 _))).size (fun g hg => (HO.out.lt g hg).1))
          have O7 := Lib.hid (show Own w7 w.heap.size 43 3 v7 (j + 1) (rowsC (rowsTo b (List.range (j + 1)))) by
            rw [RR.out, RW.out, rowsC_snoc]
            exact hown7)
          clear hown7 hgrow7 hblk7
          obtain ⟨A7, c7, rfl, -⟩ := O7.out.form
          have HJ2 := HJ.out
          have HJ3 := HJ1.out
          go_wp2_with fail
          go_roundw
          case rel => exact ⟨j + 1, A7, c7, by omega, by go_num, rfl, O7, GD, K7⟩
          case measure => simp [intOf]; omega
        · have STOP := Lib.hid (show RS = rowsTo b (List.range j) by
            rw [← HRS.out]
            exact recsOf_stop b j HG.out (.inl (fun hh => he (ISR.out.1 hh).2)))
          rw [decide_eq_false he] at EQ
          clear he
          go_wp2_with fail
          refine G1.out.mono ?_
          rintro e w' ⟨rfl, rfl⟩
          go_wp2_with fail
          refine G2.out.mono ?_
          rintro e w' ⟨rfl, rfl⟩
          go_wp2_with fail
          refine G3.out.mono ?_
          rintro e w' ⟨rfl, rfl⟩
          go_wp2_with fail
          have kA := keeps_alloc wr (.cells #[.int .u32 (x1 : Int), .int .u32 (x2 : Int), .int .u32 (x3 : Int)] 43)
          refine (LD.out _).mono ?_
          rintro e w5 ⟨v5, rfl, o5, k5⟩
          rw [SL.out] at o5
          obtain ⟨A5, c5, rfl, -⟩ := o5.form
          have K5 := Lib.hid (keeps_trans kA k5)
          have E5 := Lib.hid (EQ.out _ K5.out A5 c5 o5.at_)
          clear o5 k5 kA
          go_wp2_with fail
          refine E5.out.mono ?_
          rintro e w6 ⟨rfl, rfl⟩
          go_wp2_with fail
          go_ret
          rw [STOP.out, show (rowsTo b (List.range j)).length = j by simp [rowsTo]]
          exact ⟨_, rfl, HO.out.keep K5.out, keeps_trans KR.out K5.out⟩
    · have STOP := Lib.hid (show RS = rowsTo b (List.range j) by
        rw [← HRS.out]
        exact recsOf_over b j HG.out (by have := HN.out; omega))
      have ways : ¬ (m : Int) ≤ (n : Int) ∨ ((m : Int) ≤ (n : Int) ∧ decide ((j : Int) < (65536 : Int)) = false ∧ decide (j < 65536) = false) := by
        by_cases e : m ≤ n
        · exact .inr ⟨by omega, decide_eq_false (by omega), decide_eq_false (by omega)⟩
        · exact .inl (by omega)
      clear hfit hj hj1 ho hm
      rcases ways with x1 | ⟨x1, x2, x3⟩
      all_goals
        go_wp2_with fail
        go_ret
        rw [STOP.out, show (rowsTo b (List.range j)).length = j by simp [rowsTo]]
        exact ⟨_, rfl, HO.out, KR.out⟩
end Go.Proofs.YtiohijkelagloaaDoor
