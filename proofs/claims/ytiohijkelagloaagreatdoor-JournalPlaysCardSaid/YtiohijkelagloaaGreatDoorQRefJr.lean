/- The reference's answer of layer 9: a record's sector, the records with which bytes begin. -/
import Derived.Test.YtiohijkelagloaaGreatDoorQRefCrc
import Derived.Test.YtiohijkelagloaaGreatDoorQRefA
import Derived.Test.YtiohijkelagloaaGreatDoorQJrC
import Derived.Test.YtiohijkelagloaaGreatDoorQLawMeant
import Derived.Test.YtiohijkelagloaaGreatDoorQJr
import Derived.Test.YtiohijkelagloaaGreatDoorQLawDisk6
import Derived.Test.YtiohijkelagloaaGreatDoorQJr4
namespace Go.Proofs.YtiohijkelagloaaGreatDoor
open Go.RowKit
set_option linter.unusedSimpArgs false
set_option linter.unusedVariables false
set_option maxRecDepth 100000

theorem rfield_any (A : Option Addr) (n c : Nat) (l : List UInt8) (p : Nat) (w : World) (hB : Bs w A l) (hnl : n = l.length) (hn : n ≤ 1000) (hp : p + 4 ≤ n) :
    Calls Tryz.prog 119 #[.slice A n c, .int .i64 (p : Int)] w fun e w' => e = .returned (.int .u32 (numAt l p 4 : Int)) ∧ w = w' := by
  have G := Lib.hid (refGet_yes A n c l p 4 w hB hnl (by omega) (by decide) hp)
  have hlt := numAt_lt4 l p
  clear hB hnl
  generalize numAt l p 4 = x at *
  have hxw : (x : Int) % 4294967296 = (x : Int) := by omega
  go_enter Tryz.func119, Tryz.ntmps119
  go_wp2_with (go_at_call 134; refine G.out.mono ?_; rintro e w' ⟨rfl, rfl⟩)
  go_ret
  exact ⟨rfl, rfl⟩
theorem rput4 (A : Option Addr) (n c : Nat) (l : List UInt8) (x : Nat) (w : World) (hB : Bs w A l) (hnl : n = l.length) (hx : x < 4294967296) (hn : n ≤ 1000) :
    Calls Tryz.prog 120 #[.slice A n c, .int .u64 x, .int .i64 4] w (New w (l ++ nb 4 x)) := refPut_any A n c l x 4 w hB hnl (by omega) (by omega)
set_option maxHeartbeats 8000000 in
theorem laid_any9 (n : Nat) (r : RecS) (w : World) (hr : RecOk r) (hn : n < 4294967296) :
    Calls Tryz.prog 85 #[.int .i64 (n : Int), .agg (recC r).toArray] w (New w (sectB n r)) := by
  obtain ⟨i0, hi, hz0, hz1, hz2⟩ := info_parts info_u8
  have kB := keeps_alloc w (.cells (recC r).toArray 38)
  have BX := Lib.hid (Box.new w 38 (recC r).toArray)
  have KB := Lib.hid kB
  have P1 := Lib.hid (rput4 none 0 0 [] n (w.alloc (.cells (recC r).toArray 38)) (Bs.nil _ _) rfl hn (by decide))
  have P2 := Lib.hid (fun (V : World) (A : Option Addr) (c : Nat) (h : Bs V A ([] ++ nb 4 n)) => rput4 A 4 c ([] ++ nb 4 n) r.kind V h (by simp [nb_length]) hr.kind (by decide))
  have P3 := Lib.hid (fun (V : World) (A : Option Addr) (c : Nat) (h : Bs V A ([] ++ nb 4 n ++ nb 4 r.kind)) => rput4 A 8 c ([] ++ nb 4 n ++ nb 4 r.kind) r.a V h (by simp [nb_length]) hr.a (by decide))
  have P4 := Lib.hid (fun (V : World) (A : Option Addr) (c : Nat) (h : Bs V A ([] ++ nb 4 n ++ nb 4 r.kind ++ nb 4 r.a)) => rput4 A 12 c ([] ++ nb 4 n ++ nb 4 r.kind ++ nb 4 r.a) r.b V h (by simp [nb_length]) hr.b (by decide))
  have E4 := Lib.hid (show [] ++ nb 4 n ++ nb 4 r.kind ++ nb 4 r.a ++ nb 4 r.b = headR n r by simp [headR])
  have LEN := Lib.hid (show ([] ++ nb 4 n).length = 4 ∧ ([] ++ nb 4 n ++ nb 4 r.kind).length = 8 ∧ ([] ++ nb 4 n ++ nb 4 r.kind ++ nb 4 r.a).length = 12 by simp [nb_length])
  have SUM := Lib.hid (fun (V : World) (A : Option Addr) (c : Nat) (h : Bs V A (bodyR n r)) => refSum_any A 60 c (bodyR n r) V h (bodyR_length n r).symm (by decide))
  have hsl := extC_lt (s := 0) (by decide) (bodyR n r)
  have P5 := Lib.hid (fun (V : World) (A : Option Addr) (c : Nat) (h : Bs V A (bodyR n r)) => rput4 A 60 c (bodyR n r) (extC 0 (bodyR n r)) V h (bodyR_length n r).symm hsl (by decide))
  have FIN := Lib.hid (show bodyR n r ++ nb 4 (extC 0 (bodyR n r)) = sectB n r from rfl)
  have HL := Lib.hid (headR_length n r)
  have BD := Lib.hid (show headR n r ++ noughts 44 = bodyR n r from rfl)
  have hnw : (n : Int) % 18446744073709551616 = (n : Int) := by omega
  have q1 := hr.kind
  have q2 := hr.a
  have q3 := hr.b
  have u1 : (r.kind : Int) % 18446744073709551616 = (r.kind : Int) := by omega
  have u2 : (r.a : Int) % 18446744073709551616 = (r.a : Int) := by omega
  have u3 : (r.b : Int) % 18446744073709551616 = (r.b : Int) := by omega
  have x0 := BX.out.cell 0 (v := .int .u32 (r.kind : Int)) (by simp [recC])
  have x1 := BX.out.cell 1 (v := .int .u32 (r.a : Int)) (by simp [recC])
  have x2 := BX.out.cell 2 (v := .int .u32 (r.b : Int)) (by simp [recC])
  unfold recC at *
  clear kB hr hn q1 q2 q3
  generalize bodyR n r = bd at *
  generalize headR n r = hd at *
  generalize sectB n r = sb at *
  generalize extC 0 bd = su at *
  have u4 : (su : Int) % 18446744073709551616 = (su : Int) := by omega
  go_enter Tryz.func85, Tryz.ntmps85
  go_wp2_with fail
  refine P1.out.mono ?_
  rintro e w1 ⟨v1, rfl, o1, k1⟩
  rw [LEN.out.1] at o1
  obtain ⟨A1, c1, rfl, -⟩ := o1.form
  have K1 := Lib.hid k1
  have y0 := k1.cellOf x0
  have y1 := k1.cellOf x1
  have y2 := k1.cellOf x2
  have C2 := Lib.hid (P2.out _ A1 c1 o1.at_)
  clear o1 k1
  go_wp2_with fail
  refine C2.out.mono ?_
  rintro e w2 ⟨v2, rfl, o2, k2⟩
  rw [LEN.out.2.1] at o2
  obtain ⟨A2, c2, rfl, -⟩ := o2.form
  have K2 := Lib.hid (keeps_trans K1.out k2)
  have z1 := k2.cellOf y1
  have z2 := k2.cellOf y2
  have C3 := Lib.hid (P3.out _ A2 c2 o2.at_)
  clear o2 k2
  go_wp2_with fail
  refine C3.out.mono ?_
  rintro e w3 ⟨v3, rfl, o3, k3⟩
  rw [LEN.out.2.2] at o3
  obtain ⟨A3, c3, rfl, -⟩ := o3.form
  have K3 := Lib.hid (keeps_trans K2.out k3)
  have s2 := k3.cellOf z2
  have C4 := Lib.hid (P4.out _ A3 c3 o3.at_)
  clear o3 k3
  go_wp2_with fail
  refine C4.out.mono ?_
  rintro e w4 ⟨v4, rfl, o4, k4⟩
  rw [E4.out, HL.out] at o4
  obtain ⟨A4, c4, rfl, -⟩ := o4.form
  have K4 := Lib.hid (keeps_trans K3.out k4)
  have O4 := Lib.hid (o4.base_le K3.out.size)
  clear o4 k4
  go_wp2_with fail
  go_loopw [5] (fun v wr => ∃ (j : Nat) (A : Option Addr) (cc : Nat), j ≤ 44 ∧ v = .slice A (16 + j) cc ∧ Hid (Own wr (w.alloc (.cells #[.int .u32 (r.kind : Int), .int .u32 (r.a : Int), .int .u32 (r.b : Int)] 38)).heap.size 5 1 v (16 + j) (cel (hd ++ noughts j))) ∧ Hid (Keeps (w.alloc (.cells #[.int .u32 (r.kind : Int), .int .u32 (r.a : Int), .int .u32 (r.b : Int)] 38)) wr)) (fun v _ => 60 - (match v with | .slice _ n _ => n | _ => 0))
  case atStart => exact ⟨0, A4, c4, by omega, rfl, Lib.hid (by simpa [noughts] using O4.out), K4⟩
  case round =>
    obtain ⟨j, A5, c5, hj, rfl, HO, KR⟩ := hrel
    generalize hN : 16 + j = N at *
    by_cases hlt : j < 44
    · have hNi : (N : Int) < 60 := by omega
      have hNb : N ≤ 59 := by omega
      have HNJ := Lib.hid hN
      clear hN hlt
      go_wp2_with (at_builtin; refine wpList_app _ rfl _ _ 40 rfl (w.alloc (.cells #[.int .u32 (r.kind : Int), .int .u32 (r.a : Int), .int .u32 (r.b : Int)] 38)).heap.size 5 i0 (.int .u8 0) 1 1 Tryz.underlying40 hi hz0 hz1 hz2 rfl (by decide) _ N _ rfl (HO.out.keep (keeps_alloc wr _)) _ (some ⟨wr.heap.size, 0, none⟩) 1 1 (cel [0]) rfl rfl (At.new _ _ _ _ (Nat.lt_succ_self _)) (cel_one _) (by unfold maxLen; omega) (by omega) (by have := KR.out.size; simp at *; omega) ?_; intro v6 w6 hown6 hgrow6 hblk6)
      have k6 : Keeps (w.alloc (.cells #[.int .u32 (r.kind : Int), .int .u32 (r.a : Int), .int .u32 (r.b : Int)] 38)) w6 := Below.grown (keeps_trans KR.out (keeps_alloc wr _)) hgrow6 (keeps_trans KR.out (keeps_alloc wr _)).size (fun g hg => (HO.out.lt g hg).1)
      have e : cel (hd ++ noughts j) ++ cel [0] = cel (hd ++ noughts (j + 1)) := by
        rw [← cel_append, List.append_assoc]
        congr 2
        simp [noughts, List.replicate_succ']
      have O6 := Lib.hid (show Own w6 (w.alloc (.cells #[.int .u32 (r.kind : Int), .int .u32 (r.a : Int), .int .u32 (r.b : Int)] 38)).heap.size 5 1 v6 (16 + (j + 1)) (cel (hd ++ noughts (j + 1))) by
        have := hown6
        rw [e, ← HNJ.out] at this
        exact this)
      have K6 := Lib.hid k6
      clear hown6 hgrow6 hblk6 k6 e
      obtain ⟨A6, c6, rfl, -⟩ := O6.out.form
      have HN1 := HNJ.out
      go_wp2_with fail
      go_roundw
      case rel => exact ⟨j + 1, A6, c6, by omega, rfl, O6, K6⟩
      case measure => simp; omega
    · obtain rfl : j = 44 := by omega
      obtain rfl : N = 60 := by omega
      have O9 := Lib.hid (show Own wr (w.alloc (.cells #[.int .u32 (r.kind : Int), .int .u32 (r.a : Int), .int .u32 (r.b : Int)] 38)).heap.size 5 1 (.slice A5 60 c5) 60 (cel bd) by rw [← BD.out]; exact HO.out)
      clear hlt hj HO
      go_wp2_with fail
      refine (SUM.out _ A5 c5 O9.out.at_).mono ?_
      rintro e w7 ⟨rfl, rfl⟩
      have C5 := Lib.hid (P5.out _ A5 c5 O9.out.at_)
      rw [FIN.out] at C5
      go_wp2_with fail
      refine C5.out.mono ?_
      rintro e w8 ⟨v8, rfl, o8, k8⟩
      go_wp2_with fail
      go_ret
      have kk := keeps_trans KB.out KR.out
      exact ⟨v8, rfl, o8.base_le kk.size, keeps_trans kk k8⟩
end Go.Proofs.YtiohijkelagloaaGreatDoor
/- The reference's answer of layer 9: Read. -/
namespace Go.Proofs.YtiohijkelagloaaGreatDoor
open Go.RowKit
set_option linter.unusedSimpArgs false
set_option linter.unusedVariables false
set_option maxRecDepth 100000

theorem recsOf_over (b : List UInt8) (k : Nat) (h : GoodTo b (List.range k)) (hx : b.length < 64 * (k + 1) ∨ k = 65536) : recsOf b = rowsTo b (List.range k) := by
  refine recsOf_stop b k h ?_
  rcases hx with hx | hx
  · refine .inl fun hh => ?_
    have := hh.length
    rw [chunkB_length] at this
    omega
  · exact .inr hx
set_option maxHeartbeats 16000000 in
theorem rread_any (A : Option Addr) (n c : Nat) (b : List UInt8) (w : World) (hB : Bs w A b) (hn : n = b.length) (hc : n ≤ c) (hnx : n ≤ 16777216) :
    Calls Tryz.prog 82 #[.slice A n c] w fun e w' => ∃ v, e = .returned v ∧ Own w' w.heap.size 38 3 v (recsOf b).length (rowsC (recsOf b)) ∧ Keeps w w' := by
  obtain ⟨i0, hi, hz0, hz1, hz2⟩ := info_parts infoRec
  have HB := Lib.hid hB
  have HN := Lib.hid hn
  have hni : (n : Int) ≤ 16777216 := by omega
  have HC := Lib.hid hc
  have HX := Lib.hid hnx
  clear hB hn hc hnx
  obtain ⟨RS, hRS⟩ : ∃ RS, recsOf b = RS := ⟨_, rfl⟩
  have HRS := Lib.hid hRS
  rw [hRS]
  clear hRS
  go_enter Tryz.func82, Tryz.ntmps82
  go_wp2_with fail
  go_loopw [4, 3] (fun i v wr => ∃ (j : Nat) (A1 : Option Addr) (c1 : Nat), j ≤ 65536 ∧ i = .int .i64 j ∧ v = .slice A1 j c1 ∧ Hid (Own wr w.heap.size 38 3 (.slice A1 j c1) j (rowsC (rowsTo b (List.range j)))) ∧ Hid (GoodTo b (List.range j)) ∧ Hid (Keeps w wr)) (fun i _ _ => 65536 - (intOf i).toNat)
  case atStart => exact ⟨0, none, 0, Nat.zero_le _, rfl, rfl, Lib.hid (Own.nil _ _ _ _), Lib.hid (GoodTo.nil b), Lib.hid (keeps_refl _)⟩
  case round =>
    obtain ⟨j, A1, c1, hj, rfl, rfl, HO, HG, KR⟩ := hrel
    obtain ⟨j1, hj1⟩ : ∃ j1, j + 1 = j1 := ⟨_, rfl⟩
    obtain ⟨o, ho⟩ : ∃ o, 64 * j = o := ⟨_, rfl⟩
    obtain ⟨m, hm⟩ : ∃ m, 64 * j1 = m := ⟨_, rfl⟩
    have hsum : (j : Int) + 1 = (j1 : Int) := by omega
    have hmul1 : (64 : Int) * (j : Int) = (o : Int) := by omega
    have hmul2 : (64 : Int) * (j1 : Int) = (m : Int) := by omega
    have hjb : (j : Int) ≤ 65536 := by omega
    have hj1b : (j1 : Int) ≤ 65537 := by omega
    have hob : (o : Int) ≤ 4194304 := by omega
    have hmb : (m : Int) ≤ 4194368 := by omega
    by_cases hfit : m ≤ n ∧ j < 65536
    · have hle : (m : Int) ≤ (n : Int) := by omega
      have hlt : decide ((j : Int) < (65536 : Int)) = true := decide_eq_true (by omega)
      have hlt2 : decide (j < 65536) = true := decide_eq_true hfit.2
      have hmc : (m : Int) ≤ (c : Int) := by have := HC.out; omega
      have hom : (o : Int) ≤ (m : Int) := by omega
      have SF := run_lohi (P := Tryz.prog) 40 5 Tryz.underlying40 (by kernel_rfl) A n c o m (by omega) (by have := HC.out; omega)
      rw [show m - o = 64 by omega] at SF
      have CB := Lib.hid (show chunkB b j = (b.drop o).take 64 by rw [← ho]; rfl)
      have BC := Lib.hid (show ∀ V, Keeps wr V → Bs V (dropA A c o) (chunkB b j) from fun V kk => by
        rw [CB.out]
        exact (((HB.out.keep KR.out).keep kk).dropA HN.out HC.out).take 64)
      have CL := Lib.hid (show 64 = (chunkB b j).length by rw [chunkB_length]; have := HN.out; omega)
      have F1 := Lib.hid (fun (p : Nat) (hp : p + 4 ≤ 64) => rfield_any (dropA A c o) 64 (c - o) (chunkB b j) p wr (BC.out wr (keeps_refl _)) CL.out (by decide) hp)
      have f1 : Calls Tryz.prog 119 #[.slice (dropA A c o) 64 (c - o), .int .i64 4] _ _ := F1.out 4 (by decide)
      have f2 : Calls Tryz.prog 119 #[.slice (dropA A c o) 64 (c - o), .int .i64 8] _ _ := F1.out 8 (by decide)
      have f3 : Calls Tryz.prog 119 #[.slice (dropA A c o) 64 (c - o), .int .i64 12] _ _ := F1.out 12 (by decide)
      have G1 := Lib.hid f1
      have G2 := Lib.hid f2
      have G3 := Lib.hid f3
      have RO := saidR_ok (chunkB b j)
      have SR : saidR (chunkB b j) = ⟨numAt (chunkB b j) 4 4, numAt (chunkB b j) 8 4, numAt (chunkB b j) 12 4⟩ := rfl
      have LD := Lib.hid (fun (V : World) => laid_any9 j1 (saidR (chunkB b j)) V RO (by omega))
      have SL := Lib.hid (sectB_length j1 (saidR (chunkB b j)))
      have EQ := Lib.hid (fun (V : World) (kk : Keeps wr V) (B : Option Addr) (d : Nat) (h : Bs V B (sectB j1 (saidR (chunkB b j)))) => eqBytes_any (dropA A c o) 64 (c - o) (chunkB b j) B 64 d (sectB j1 (saidR (chunkB b j))) V (BC.out V kk) CL.out h SL.out.symm)
      have ISR := Lib.hid (show IsRec (chunkB b j) (j + 1) ↔ (saidR (chunkB b j)).kind ≠ 0 ∧ chunkB b j = sectB j1 (saidR (chunkB b j)) by rw [hj1]; rfl)
      have RW := Lib.hid (rowsTo_snoc b (List.range j) j)
      have RR := Lib.hid (show List.range (j + 1) = List.range j ++ [j] from List.range_succ)
      have HJ1 := Lib.hid hj1
      obtain ⟨sd, hsd⟩ : ∃ sd, sectB j1 (saidR (chunkB b j)) = sd := ⟨_, rfl⟩
      rw [hsd] at LD SL EQ ISR
      have HJ := Lib.hid hfit.2
      clear f1 f2 f3 F1 RO hfit hj1 ho hm hsd
      rw [SR] at LD ISR RW
      unfold recC at LD
      simp only at LD ISR
      generalize numAt (chunkB b j) 4 4 = x1 at *
      generalize numAt (chunkB b j) 8 4 = x2 at *
      generalize numAt (chunkB b j) 12 4 = x3 at *
      clear SR
      by_cases hk : x1 = 0
      · have hkk : ((x1 : Int) == 0) = true := by rw [beq_iff_eq]; omega
        have STOP := Lib.hid (show RS = rowsTo b (List.range j) by
          rw [← HRS.out]
          exact recsOf_stop b j HG.out (.inl (fun hh => (ISR.out.1 hh).1 hk)))
        clear hk
        go_wp2_with fail
        refine G1.out.mono ?_
        rintro e w' ⟨rfl, rfl⟩
        go_wp2_with fail
        refine G2.out.mono ?_
        rintro e w' ⟨rfl, rfl⟩
        go_wp2_with fail
        refine G3.out.mono ?_
        rintro e w' ⟨rfl, rfl⟩
        go_wp2_with fail
        go_ret
        have kA := keeps_alloc wr (.cells #[.int .u32 (x1 : Int), .int .u32 (x2 : Int), .int .u32 (x3 : Int)] 38)
        rw [STOP.out, show (rowsTo b (List.range j)).length = j by simp [rowsTo]]
        exact ⟨_, rfl, HO.out.keep kA, keeps_trans KR.out kA⟩
      · have hkk : ((x1 : Int) == 0) = false := by rw [beq_eq_false_iff_ne]; omega
        have HKK := Lib.hid hk
        clear hk
        by_cases he : chunkB b j = sd
        · have GD := Lib.hid (show GoodTo b (List.range (j + 1)) by
            rw [RR.out]
            exact HG.out.snoc (by rw [List.length_range]; exact HJ.out) (by rw [List.length_range]; exact ISR.out.2 ⟨HKK.out, he⟩))
          rw [decide_eq_true he] at EQ
          clear he
          go_wp2_with fail
          refine G1.out.mono ?_
          rintro e w' ⟨rfl, rfl⟩
          go_wp2_with fail
          refine G2.out.mono ?_
          rintro e w' ⟨rfl, rfl⟩
          go_wp2_with fail
          refine G3.out.mono ?_
          rintro e w' ⟨rfl, rfl⟩
          go_wp2_with fail
          have kA := keeps_alloc wr (.cells #[.int .u32 (x1 : Int), .int .u32 (x2 : Int), .int .u32 (x3 : Int)] 38)
          have BX := Box.new wr 38 #[.int .u32 (x1 : Int), .int .u32 (x2 : Int), .int .u32 (x3 : Int)]
          refine (LD.out _).mono ?_
          rintro e w5 ⟨v5, rfl, o5, k5⟩
          rw [SL.out] at o5
          obtain ⟨A5, c5, rfl, -⟩ := o5.form
          have K5 := Lib.hid (keeps_trans kA k5)
          have E5 := Lib.hid (EQ.out _ K5.out A5 c5 o5.at_)
          have B5 := BX.keep k5
          have p0 := B5.cell 0 rfl
          have p1 := B5.cell 1 rfl
          have p2 := B5.cell 2 rfl
          have O5 := Lib.hid (HO.out.keep (keeps_trans K5.out (keeps_alloc w5 (.cells #[.int .u32 (x1 : Int), .int .u32 (x2 : Int), .int .u32 (x3 : Int)] 38))))
          clear o5 k5 kA B5 BX
          go_wp2_with fail
          refine E5.out.mono ?_
          rintro e w6 ⟨rfl, rfl⟩
          go_wp2_with (at_builtin; refine wpList_app _ rfl _ _ 46 rfl w.heap.size 38 i0 (.agg #[.int .u32 0, .int .u32 0, .int .u32 0]) 3 12 Tryz.underlying46 hi hz0 hz1 hz2 rfl (by decide) _ j _ rfl O5.out _ (some ⟨w5.heap.size, 0, none⟩) 1 1 [.int .u32 (x1 : Int), .int .u32 (x2 : Int), .int .u32 (x3 : Int)] rfl rfl (At.new _ _ _ _ (Nat.lt_succ_self _)) (fun u hu => by simp at hu; rcases hu with rfl | rfl | rfl <;> rfl) (by unfold maxLen; omega) (by omega) (by have := KR.out.size; have := K5.out.size; simp; omega) ?_; intro v7 w7 hown7 hgrow7 hblk7)
          have K7 := Lib.hid (show Keeps w w7 from Below.grown (keeps_trans KR.out (keeps_trans K5.out (keeps_alloc w5 _))) hgrow7 (keeps_trans KR.out (keeps_trans K5.out (keeps_alloc w5 _))).size (fun g hg => (HO.out.lt g hg).1))
          have O7 := Lib.hid (show Own w7 w.heap.size 38 3 v7 (j + 1) (rowsC (rowsTo b (List.range (j + 1)))) by
            rw [RR.out, RW.out, rowsC_snoc]
            exact hown7)
          clear hown7 hgrow7 hblk7
          obtain ⟨A7, c7, rfl, -⟩ := O7.out.form
          have HJ2 := HJ.out
          have HJ3 := HJ1.out
          go_wp2_with fail
          go_roundw
          case rel => exact ⟨j + 1, A7, c7, by omega, by go_num, rfl, O7, GD, K7⟩
          case measure => simp [intOf]; omega
        · have STOP := Lib.hid (show RS = rowsTo b (List.range j) by
            rw [← HRS.out]
            exact recsOf_stop b j HG.out (.inl (fun hh => he (ISR.out.1 hh).2)))
          rw [decide_eq_false he] at EQ
          clear he
          go_wp2_with fail
          refine G1.out.mono ?_
          rintro e w' ⟨rfl, rfl⟩
          go_wp2_with fail
          refine G2.out.mono ?_
          rintro e w' ⟨rfl, rfl⟩
          go_wp2_with fail
          refine G3.out.mono ?_
          rintro e w' ⟨rfl, rfl⟩
          go_wp2_with fail
          have kA := keeps_alloc wr (.cells #[.int .u32 (x1 : Int), .int .u32 (x2 : Int), .int .u32 (x3 : Int)] 38)
          refine (LD.out _).mono ?_
          rintro e w5 ⟨v5, rfl, o5, k5⟩
          rw [SL.out] at o5
          obtain ⟨A5, c5, rfl, -⟩ := o5.form
          have K5 := Lib.hid (keeps_trans kA k5)
          have E5 := Lib.hid (EQ.out _ K5.out A5 c5 o5.at_)
          clear o5 k5 kA
          go_wp2_with fail
          refine E5.out.mono ?_
          rintro e w6 ⟨rfl, rfl⟩
          go_wp2_with fail
          go_ret
          rw [STOP.out, show (rowsTo b (List.range j)).length = j by simp [rowsTo]]
          exact ⟨_, rfl, HO.out.keep K5.out, keeps_trans KR.out K5.out⟩
    · have STOP := Lib.hid (show RS = rowsTo b (List.range j) by
        rw [← HRS.out]
        exact recsOf_over b j HG.out (by have := HN.out; omega))
      have ways : ¬ (m : Int) ≤ (n : Int) ∨ ((m : Int) ≤ (n : Int) ∧ decide ((j : Int) < (65536 : Int)) = false ∧ decide (j < 65536) = false) := by
        by_cases e : m ≤ n
        · exact .inr ⟨by omega, decide_eq_false (by omega), decide_eq_false (by omega)⟩
        · exact .inl (by omega)
      clear hfit hj hj1 ho hm
      rcases ways with x1 | ⟨x1, x2, x3⟩
      all_goals
        go_wp2_with fail
        go_ret
        rw [STOP.out, show (rowsTo b (List.range j)).length = j by simp [rowsTo]]
        exact ⟨_, rfl, HO.out, KR.out⟩
end Go.Proofs.YtiohijkelagloaaGreatDoor
/- What Open of the reference of chapter 9 answers. (Written by mkrefjr3.py.) -/
namespace Go.Proofs.YtiohijkelagloaaGreatDoor.Ref
open Go.RowKit
set_option linter.unusedSimpArgs false
set_option linter.unusedVariables false
set_option maxRecDepth 100000

/-- a journal of these records lies there, in these blocks -/
structure JrAt (w : World) (base j b : Nat) (G : Nat → Prop) (l : List RecS) : Prop where
  row : ∃ v, Box w j 90 #[.pointer (some ⟨b, 0, none⟩), v] ∧ Own w base 38 3 v l.length (rowsC l) ∧ ∀ i, G i ↔ (i = j ∨ v.ownBlock = some i)
  low : base ≤ j
  len : l.length ≤ 65536
  fine : Fine l
section
variable {w w' : World} {base j b : Nat} {G : Nat → Prop} {l : List RecS}
theorem JrAt.lt (h : JrAt w base j b G l) : ∀ i, G i → i < w.heap.size := fun i hi => by
  obtain ⟨v, hb, ho, hG⟩ := h.row
  rcases (hG i).1 hi with rfl | hv
  · exact hb.lt
  · exact (ho.lt i hv).2
theorem JrAt.ge (h : JrAt w base j b G l) : ∀ i, G i → base ≤ i := fun i hi => by
  obtain ⟨v, hb, ho, hG⟩ := h.row
  rcases (hG i).1 hi with rfl | hv
  · exact h.low
  · exact (ho.lt i hv).1
theorem JrAt.same (h : JrAt w base j b G l) (hs : ∀ i, G i → w'.heap[i]? = w.heap[i]?) : JrAt w' base j b G l := by
  obtain ⟨v, hb, ho, hG⟩ := h.row
  exact ⟨⟨v, (hs j ((hG j).2 (.inl rfl))).trans hb, ho.same (fun k hk => hs k ((hG k).2 (.inr hk))), hG⟩, h.low, h.len, h.fine⟩
theorem JrAt.keep (h : JrAt w base j b G l) (k : Keeps w w') : JrAt w' base j b G l := h.same fun i hi => k.block i (h.lt i hi)
theorem JrAt.turn {F F' : Nat → Prop} (h : JrAt w base j b G l) (t : Turns w w' F F') (hd : ∀ i, G i → ¬ F i) : JrAt w' base j b G l ∧ ∀ i, G i → ¬ F' i :=
  ⟨h.same fun i hi => t.only.block i (h.lt i hi) (hd i hi), fun i hi => t.notIn (h.lt i hi) (hd i hi)⟩
theorem JrAt.base_le {base' : Nat} (h : JrAt w base j b G l) (hb : base' ≤ base) : JrAt w base' j b G l := by
  obtain ⟨v, h1, h2, h3⟩ := h.row
  exact ⟨⟨v, h1, h2.base_le hb, h3⟩, Nat.le_trans hb h.low, h.len, h.fine⟩
end
section
variable {K : DiskOk} {w0 w : World} {b : Nat} {F : Nat → Prop} {s : Ds}
/-- a journal, or none -/
def MadeJ (K : DiskOk) (w0 w : World) (b : Nat) (F : Nat → Prop) (s' : Ds) (E : Nat) (l : List RecS) (e : Ending) (w' : World) : Prop :=
  ∃ F', Have K w0 w' b F' s' ∧ Turns w w' F F' ∧ ((E = 0 ∧ ∃ j G, e = .returned (.tuple #[.pointer (some ⟨j, 0, none⟩), .int .i64 0]) ∧ JrAt w' w.heap.size j b G l ∧ ∀ i, G i → ¬ F' i) ∨ (E ≠ 0 ∧ e = .returned (.tuple #[.pointer none, .int .i64 (E : Int)])))
/-- what is left to do behind the records: the box -/
theorem made_box {w9 : World} {F9 : Nat → Prop} {s' : Ds} {l : List RecS} {A : Option Addr} {c : Nat} (h9 : Have K w0 w9 b F9 s') (t9 : Turns w w9 F F9) (o : Own w9 w.heap.size 38 3 (.slice A l.length c) l.length (rowsC l)) (hnf : ∀ k, (Value.slice A l.length c).ownBlock = some k → ¬ F9 k) (hl : l.length ≤ 65536) (hf : Fine l) :
    MadeJ K w0 w b F s' 0 l (.returned (.tuple #[.pointer (some ⟨w9.heap.size, 0, none⟩), .int .i64 0])) (w9.alloc (.cells #[.pointer (some ⟨b, 0, none⟩), .slice A l.length c] 90)) := by
  have kA := keeps_alloc w9 (.cells #[.pointer (some ⟨b, 0, none⟩), .slice A l.length c] 90)
  refine ⟨F9, h9.keep kA, t9.trans (Turns.of_keeps kA), .inl ⟨rfl, w9.heap.size, fun i => i = w9.heap.size ∨ (Value.slice A l.length c).ownBlock = some i, rfl, ⟨⟨_, Box.new _ _ _, o.keep kA, fun i => Iff.rfl⟩, t9.only.size, hl, hf⟩, fun i hi => ?_⟩⟩
  rcases hi with rfl | hi
  · intro hh
    have := K.lt h9.D _ hh
    omega
  · exact hnf i hi
set_option maxHeartbeats 32000000 in
theorem jrOpen_any (h : Have K w0 w b F s) (hZ : K.Z w0) (hs7 : s.l.length ≤ 60000) {s' : Ds} {E : Nat} {l : List RecS} (hs : openJ s = (s', E, l)) :
    Calls Tryz.prog 32 #[.pointer (some ⟨b, 0, none⟩)] w (MadeJ K w0 w b F s' E l) := by
  obtain ⟨s1, E1, bb, hp⟩ : ∃ s1 E1 bb, openP s = (s1, E1, bb) := ⟨_, _, _, rfl⟩
  obtain ⟨n, E0, hz⟩ : ∃ n E0, sizeS s nmJ = (n, E0) := ⟨_, _, rfl⟩
  have HZ := Lib.hid hZ
  have ok := K.ok h.D
  by_cases h3 : E0 = 3
  · subst h3
    have hc : createS s nmJ = (s1, E1) ∧ bb = [] := by
      unfold openP at hp
      rw [hz, if_pos rfl] at hp
      injection hp with h1 h2
      injection h2 with h4 h5
      exact ⟨Prod.ext h1 h4, h5.symm⟩
    have SZ := Lib.hid (h.size_ hZ (by omega) nmJ _ strJ.symm hz)
    have CR := Lib.hid (fun (V : World) (kk : Keeps w V) => (h.keep kk).went hc.1 (K.create nmJ ((h.keep kk).z hZ) (h.keep kk).D (by omega) (by decide)))
    unfold dpt strV at CR
    rw [strJ] at CR
    have e33 : ((3 : Int) == 3) = true := rfl
    by_cases hE1 : E1 = 0
    · subst hE1
      have RR := Lib.hid (openP_read ok hp rfl)
      have L1 := Lib.hid (show s1.l.length ≤ 60001 by have := create_len s nmJ; rw [hc.1] at this; simp only at this; omega)
      have hz1 : sizeS s1 nmJ = (bb.length, 0) := by
        have := (made_read (s := s) (nm := nmJ) (by rw [hc.1])).1
        rw [hc.1] at this
        rw [hc.2]
        exact this
      have HZ1 := Lib.hid hz1
      have HP := Lib.hid hp
      have HOJ := Lib.hid hs
      have e00 : ((0 : Int) != 0) = false := rfl
      clear h hZ hs hz hc hp hz1 ok hs7
      go_enter Tryz.func32, Tryz.ntmps32
      go_wp2_with fail
      refine SZ.out.mono ?_
      rintro e wa ⟨rfl, -, ka⟩
      have C1 := Lib.hid (CR.out _ ka)
      have KA := Lib.hid ka
      clear ka
      go_wp2_with fail
      refine C1.out.mono ?_
      rintro e wc ⟨rfl, F1, hc1, tc⟩
      have SZ1 := Lib.hid (hc1.size_ HZ.out (Nat.le_trans L1.out (by decide)) nmJ _ strJ.symm HZ1.out)
      have TC := Lib.hid ((Turns.of_keeps KA.out).trans tc)
      clear hc1 tc
      go_wp2_with fail
      refine SZ1.out.mono ?_
      rintro e w1 ⟨rfl, h1, k1⟩
      have t1 := TC.out.trans (Turns.of_keeps k1)
      clear k1
      have H1 := Lib.hid h1
      have T1 := Lib.hid t1
      have RD := Lib.hid (h1.read_ HZ.out (Nat.le_trans L1.out (by decide)) nmJ 0 (bb.length : Int) ⟨by decide, by decide⟩ ⟨by omega, by have := RR.out.2; omega⟩ _ strJ.symm RR.out.1)
      have e1 : ((0 : Int) != 0) = false := rfl
      clear h1 t1
      go_wp2_with fail
      refine RD.out.mono ?_
      rintro e w2 ⟨A2, c2, rfl, hc2, o2, h2, k2⟩
      have H2 := Lib.hid h2
      have K2 := Lib.hid k2
      have RC := Lib.hid (rread_any A2 bb.length c2 bb w2 o2.at_ rfl hc2 RR.out.2)
      clear h2 k2 o2 hc2
      go_wp2_with fail
      refine RC.out.mono ?_
      rintro e w3 ⟨v3, rfl, o3, k3⟩
      obtain ⟨A3, c3, rfl, hc3, -⟩ := o3.form
      have hnf3 : ∀ k, (Value.slice A3 (recsOf bb).length c3).ownBlock = some k → ¬ F1 k := fun k hk hf => by
        have h1 := (o3.lt k hk).1
        have h2 := K.lt H2.out.D k hf
        omega
      have NF3 := Lib.hid hnf3
      have H3 := Lib.hid (H2.out.keep k3)
      have T3 := Lib.hid (T1.out.trans (Turns.of_keeps (keeps_trans K2.out k3)))
      have O3 := Lib.hid (o3.base_le (Nat.le_trans T1.out.only.size K2.out.size))
      clear hnf3 o3 k3 hc3
      have RL := Lib.hid (recsOf_len bb)
      have RF := Lib.hid (recsJ_fine 65536 1 bb)
      have RF2 := Lib.hid (show Fine (recsOf bb) from RF.out)
      clear RF
      generalize hrs : recsOf bb = rs at *
      have HRS := Lib.hid hrs
      clear hrs
      obtain ⟨m, hm⟩ : ∃ m, 64 * rs.length = m := ⟨_, rfl⟩
      have hmul : 64 * (rs.length : Int) = (m : Int) := by omega
      have hrl : (rs.length : Int) ≤ 65536 := by have := RL.out; omega
      have hmb : (m : Int) ≤ 4194304 := by omega
      have hbb : (bb.length : Int) ≤ 16777216 := by have := RR.out.2; omega
      by_cases hlt : m < bb.length
      · have hlti : (m : Int) < (bb.length : Int) := by omega
        obtain ⟨s2, E2, hct⟩ : ∃ s2 E2, cutS s1 nmJ ((64 * rs.length : Nat) : Int) = (s2, E2) := ⟨_, _, rfl⟩
        have TR := Lib.hid (show trimS s1 bb (recsOf bb).length = (s2, E2) by unfold trimS; rw [HRS.out, if_pos (by omega), hct])
        have L2 := Lib.hid (show s2.l.length ≤ 60002 by have := cut_len s1 nmJ ((64 * rs.length : Nat) : Int); rw [hct] at this; simp only at this; have := L1.out; omega)
        have CU := Lib.hid (H3.out.went hct (K.cut nmJ ((64 * rs.length : Nat) : Int) (H3.out.z HZ.out) H3.out.D (Nat.le_trans L1.out (by decide)) (by decide) (by omega) (by have := RL.out; omega)))
        unfold dpt strV at CU
        rw [strJ, hm] at CU
        clear hlt hct hm
        go_wp2_with fail
        refine CU.out.mono ?_
        rintro e w4 ⟨rfl, F4, h4, t4'⟩
        have t4 := T3.out.trans t4'
        have o4 := O3.out.turns t4' NF3.out
        have nf4 : ∀ k, (Value.slice A3 rs.length c3).ownBlock = some k → ¬ F4 k := fun k hk => t4'.notIn (O3.out.lt k hk).2 (NF3.out k hk)
        clear t4'
        by_cases hE2 : E2 = 0
        · subst hE2
          have e2 : ((0 : Int) != 0) = false := rfl
          have OJ := Lib.hid (fun (s9 : Ds) (E9 : Nat) (hsy : syncS s2 nmJ = (s9, E9)) => (show s9 = s' ∧ E9 = E ∧ rs = l by
            have e := (openJ_go HP.out TR.out hsy).symm.trans HOJ.out
            injection e with q1 q2
            injection q2 with q2 q3
            exact ⟨q1, q2, by rw [← HRS.out, q3]⟩))
          have H4 := Lib.hid h4
          have T4 := Lib.hid t4
          have O4 := Lib.hid o4
          have NF4 := Lib.hid nf4
          obtain ⟨s9, E9, hsy⟩ : ∃ s9 E9, syncS s2 nmJ = (s9, E9) := ⟨_, _, rfl⟩
          have SY := Lib.hid (h4.went hsy (K.sync nmJ (h4.z HZ.out) h4.D (Nat.le_trans L2.out (by decide)) (by decide)))
          have RES := Lib.hid (OJ.out s9 E9 hsy)
          unfold dpt strV at SY
          rw [strJ] at SY
          clear h4 t4 o4 nf4 hsy
          go_wp2_with fail
          refine SY.out.mono ?_
          rintro e w9 ⟨rfl, F9, h9, t9⟩
          have H9 := Lib.hid h9
          have T9 := Lib.hid (T4.out.trans t9)
          have O9 := Lib.hid (O4.out.turns t9 NF4.out)
          have NF9 := Lib.hid (show ∀ k, (Value.slice A3 rs.length c3).ownBlock = some k → ¬ F9 k from fun k hk => t9.notIn (O4.out.lt k hk).2 (NF4.out k hk))
          clear h9 t9
          obtain ⟨rfl, rfl, rfl⟩ := RES.out
          by_cases hE9 : E9 = 0
          · subst hE9
            have e3 : ((0 : Int) != 0) = false := rfl
            go_wp2_with fail
            go_returns
            exact made_box H9.out T9.out O9.out NF9.out RL.out RF2.out
          · have hne9 : ((E9 : Int) != 0) = true := by rw [bne_iff_ne]; omega
            have HE9 := Lib.hid hE9
            clear hE9
            go_wp2_with fail
            go_returns
            exact ⟨F9, H9.out, T9.out, .inr ⟨HE9.out, rfl⟩⟩
        · have hne2 : ((E2 : Int) != 0) = true := by rw [bne_iff_ne]; omega
          have e := (openJ_trim HP.out TR.out hE2).symm.trans HOJ.out
          injection e with q1 q2
          injection q2 with q2 q3
          subst q1
          subst q2
          have HE2 := Lib.hid (And.intro hE2 (And.intro h4 t4))
          clear hE2 h4 t4 o4 nf4 q3 e1
          go_wp2_with fail
          go_returns
          exact ⟨F4, HE2.out.2.1, HE2.out.2.2, .inr ⟨HE2.out.1, rfl⟩⟩
      · have hlti : ¬ (m : Int) < (bb.length : Int) := by omega
        have TR := Lib.hid (show trimS s1 bb (recsOf bb).length = (s1, 0) by unfold trimS; rw [HRS.out, if_neg (by omega)])
        obtain ⟨s2, hs2⟩ : ∃ s2, s1 = s2 := ⟨_, rfl⟩
        have L2 := Lib.hid (show s2.l.length ≤ 60002 by have := L1.out; rw [hs2] at this; omega)
        have OJ := Lib.hid (fun (s9 : Ds) (E9 : Nat) (hsy : syncS s2 nmJ = (s9, E9)) => (show s9 = s' ∧ E9 = E ∧ rs = l by
          rw [← hs2] at hsy
          have e := (openJ_go HP.out TR.out hsy).symm.trans HOJ.out
          injection e with q1 q2
          injection q2 with q2 q3
          exact ⟨q1, q2, by rw [← HRS.out, q3]⟩))
        have h4 := H3.out
        have t4 := T3.out
        have o4 := O3.out
        have nf4 := NF3.out
        rw [hs2] at h4
        clear hlt hm hs2
        have H4 := Lib.hid h4
        have T4 := Lib.hid t4
        have O4 := Lib.hid o4
        have NF4 := Lib.hid nf4
        obtain ⟨s9, E9, hsy⟩ : ∃ s9 E9, syncS s2 nmJ = (s9, E9) := ⟨_, _, rfl⟩
        have SY := Lib.hid (h4.went hsy (K.sync nmJ (h4.z HZ.out) h4.D (Nat.le_trans L2.out (by decide)) (by decide)))
        have RES := Lib.hid (OJ.out s9 E9 hsy)
        unfold dpt strV at SY
        rw [strJ] at SY
        clear h4 t4 o4 nf4 hsy
        go_wp2_with fail
        refine SY.out.mono ?_
        rintro e w9 ⟨rfl, F9, h9, t9⟩
        have H9 := Lib.hid h9
        have T9 := Lib.hid (T4.out.trans t9)
        have O9 := Lib.hid (O4.out.turns t9 NF4.out)
        have NF9 := Lib.hid (show ∀ k, (Value.slice A3 rs.length c3).ownBlock = some k → ¬ F9 k from fun k hk => t9.notIn (O4.out.lt k hk).2 (NF4.out k hk))
        clear h9 t9
        obtain ⟨rfl, rfl, rfl⟩ := RES.out
        by_cases hE9 : E9 = 0
        · subst hE9
          have e3 : ((0 : Int) != 0) = false := rfl
          go_wp2_with fail
          go_returns
          exact made_box H9.out T9.out O9.out NF9.out RL.out RF2.out
        · have hne9 : ((E9 : Int) != 0) = true := by rw [bne_iff_ne]; omega
          have HE9 := Lib.hid hE9
          clear hE9
          go_wp2_with fail
          go_returns
          exact ⟨F9, H9.out, T9.out, .inr ⟨HE9.out, rfl⟩⟩
    · have hne1 : ((E1 : Int) != 0) = true := by rw [bne_iff_ne]; omega
      have e := (openJ_no hp hE1).symm.trans hs
      injection e with q1 q2
      injection q2 with q2 q3
      subst q1
      subst q2
      have HE1 := Lib.hid hE1
      clear h hZ hs hz hc hp ok hs7 hE1 q3
      go_enter Tryz.func32, Tryz.ntmps32
      go_wp2_with fail
      refine SZ.out.mono ?_
      rintro e wa ⟨rfl, -, ka⟩
      have C1 := Lib.hid (CR.out _ ka)
      have KA := Lib.hid ka
      clear ka
      go_wp2_with fail
      refine C1.out.mono ?_
      rintro e wc ⟨rfl, F1, hc1, tc⟩
      have HC := Lib.hid (And.intro hc1 tc)
      clear hc1 tc
      go_wp2_with fail
      go_returns
      exact ⟨F1, HC.out.1, (Turns.of_keeps KA.out).trans HC.out.2, .inr ⟨HE1.out, rfl⟩⟩
  · have hc : s1 = s ∧ E1 = E0 ∧ (E0 = 0 → n = bb.length) := by
      unfold openP at hp
      rw [hz, if_neg h3] at hp
      injection hp with h1 h2
      injection h2 with h4 h5
      refine ⟨h1.symm, h4.symm, fun e0 => ?_⟩
      simp only at h4 h5
      have hz2 : (sizeS s nmJ).2 = 0 := by rw [hz]; omega
      obtain ⟨f, -, e1, e2⟩ := sizeJ_ok hz2
      have e3 := e2 0 (n : Int) (by omega) (by omega)
      rw [e3] at h5
      rw [hz] at e1
      simp only at e1
      rw [← h5, e1]
      simp
    obtain ⟨rfl, rfl, hl⟩ := hc
    have hne : ((E1 : Int) == 3) = false := by rw [beq_eq_false_iff_ne]; omega
    by_cases hE1 : E1 = 0
    · obtain rfl := hl hE1
      subst hE1
      have SZ := Lib.hid (h.size_ hZ (by omega) nmJ _ strJ.symm hz)
      have RR := Lib.hid (openP_read ok hp rfl)
      have L1 := Lib.hid (show s1.l.length ≤ 60001 by omega)
      have HP := Lib.hid hp
      have HOJ := Lib.hid hs
      have F1E : F = F := rfl
      clear h hZ hs hz hp hl ok hs7 h3 F1E
      go_enter Tryz.func32, Tryz.ntmps32
      go_wp2_with fail
      refine SZ.out.mono ?_
      rintro e w1 ⟨rfl, h1, k1⟩
      have t1 := Turns.of_keeps (S := F) k1
      clear k1
      have H1 := Lib.hid h1
      have T1 := Lib.hid t1
      have RD := Lib.hid (h1.read_ HZ.out (Nat.le_trans L1.out (by decide)) nmJ 0 (bb.length : Int) ⟨by decide, by decide⟩ ⟨by omega, by have := RR.out.2; omega⟩ _ strJ.symm RR.out.1)
      have e1 : ((0 : Int) != 0) = false := rfl
      clear h1 t1
      go_wp2_with fail
      refine RD.out.mono ?_
      rintro e w2 ⟨A2, c2, rfl, hc2, o2, h2, k2⟩
      have H2 := Lib.hid h2
      have K2 := Lib.hid k2
      have RC := Lib.hid (rread_any A2 bb.length c2 bb w2 o2.at_ rfl hc2 RR.out.2)
      clear h2 k2 o2 hc2
      go_wp2_with fail
      refine RC.out.mono ?_
      rintro e w3 ⟨v3, rfl, o3, k3⟩
      obtain ⟨A3, c3, rfl, hc3, -⟩ := o3.form
      have hnf3 : ∀ k, (Value.slice A3 (recsOf bb).length c3).ownBlock = some k → ¬ F k := fun k hk hf => by
        have h1 := (o3.lt k hk).1
        have h2 := K.lt H2.out.D k hf
        omega
      have NF3 := Lib.hid hnf3
      have H3 := Lib.hid (H2.out.keep k3)
      have T3 := Lib.hid (T1.out.trans (Turns.of_keeps (keeps_trans K2.out k3)))
      have O3 := Lib.hid (o3.base_le (Nat.le_trans T1.out.only.size K2.out.size))
      clear hnf3 o3 k3 hc3
      have RL := Lib.hid (recsOf_len bb)
      have RF := Lib.hid (recsJ_fine 65536 1 bb)
      have RF2 := Lib.hid (show Fine (recsOf bb) from RF.out)
      clear RF
      generalize hrs : recsOf bb = rs at *
      have HRS := Lib.hid hrs
      clear hrs
      obtain ⟨m, hm⟩ : ∃ m, 64 * rs.length = m := ⟨_, rfl⟩
      have hmul : 64 * (rs.length : Int) = (m : Int) := by omega
      have hrl : (rs.length : Int) ≤ 65536 := by have := RL.out; omega
      have hmb : (m : Int) ≤ 4194304 := by omega
      have hbb : (bb.length : Int) ≤ 16777216 := by have := RR.out.2; omega
      by_cases hlt : m < bb.length
      · have hlti : (m : Int) < (bb.length : Int) := by omega
        obtain ⟨s2, E2, hct⟩ : ∃ s2 E2, cutS s1 nmJ ((64 * rs.length : Nat) : Int) = (s2, E2) := ⟨_, _, rfl⟩
        have TR := Lib.hid (show trimS s1 bb (recsOf bb).length = (s2, E2) by unfold trimS; rw [HRS.out, if_pos (by omega), hct])
        have L2 := Lib.hid (show s2.l.length ≤ 60002 by have := cut_len s1 nmJ ((64 * rs.length : Nat) : Int); rw [hct] at this; simp only at this; have := L1.out; omega)
        have CU := Lib.hid (H3.out.went hct (K.cut nmJ ((64 * rs.length : Nat) : Int) (H3.out.z HZ.out) H3.out.D (Nat.le_trans L1.out (by decide)) (by decide) (by omega) (by have := RL.out; omega)))
        unfold dpt strV at CU
        rw [strJ, hm] at CU
        clear hlt hct hm
        go_wp2_with fail
        refine CU.out.mono ?_
        rintro e w4 ⟨rfl, F4, h4, t4'⟩
        have t4 := T3.out.trans t4'
        have o4 := O3.out.turns t4' NF3.out
        have nf4 : ∀ k, (Value.slice A3 rs.length c3).ownBlock = some k → ¬ F4 k := fun k hk => t4'.notIn (O3.out.lt k hk).2 (NF3.out k hk)
        clear t4'
        by_cases hE2 : E2 = 0
        · subst hE2
          have e2 : ((0 : Int) != 0) = false := rfl
          have OJ := Lib.hid (fun (s9 : Ds) (E9 : Nat) (hsy : syncS s2 nmJ = (s9, E9)) => (show s9 = s' ∧ E9 = E ∧ rs = l by
            have e := (openJ_go HP.out TR.out hsy).symm.trans HOJ.out
            injection e with q1 q2
            injection q2 with q2 q3
            exact ⟨q1, q2, by rw [← HRS.out, q3]⟩))
          have H4 := Lib.hid h4
          have T4 := Lib.hid t4
          have O4 := Lib.hid o4
          have NF4 := Lib.hid nf4
          obtain ⟨s9, E9, hsy⟩ : ∃ s9 E9, syncS s2 nmJ = (s9, E9) := ⟨_, _, rfl⟩
          have SY := Lib.hid (h4.went hsy (K.sync nmJ (h4.z HZ.out) h4.D (Nat.le_trans L2.out (by decide)) (by decide)))
          have RES := Lib.hid (OJ.out s9 E9 hsy)
          unfold dpt strV at SY
          rw [strJ] at SY
          clear h4 t4 o4 nf4 hsy
          go_wp2_with fail
          refine SY.out.mono ?_
          rintro e w9 ⟨rfl, F9, h9, t9⟩
          have H9 := Lib.hid h9
          have T9 := Lib.hid (T4.out.trans t9)
          have O9 := Lib.hid (O4.out.turns t9 NF4.out)
          have NF9 := Lib.hid (show ∀ k, (Value.slice A3 rs.length c3).ownBlock = some k → ¬ F9 k from fun k hk => t9.notIn (O4.out.lt k hk).2 (NF4.out k hk))
          clear h9 t9
          obtain ⟨rfl, rfl, rfl⟩ := RES.out
          by_cases hE9 : E9 = 0
          · subst hE9
            have e3 : ((0 : Int) != 0) = false := rfl
            go_wp2_with fail
            go_returns
            exact made_box H9.out T9.out O9.out NF9.out RL.out RF2.out
          · have hne9 : ((E9 : Int) != 0) = true := by rw [bne_iff_ne]; omega
            have HE9 := Lib.hid hE9
            clear hE9
            go_wp2_with fail
            go_returns
            exact ⟨F9, H9.out, T9.out, .inr ⟨HE9.out, rfl⟩⟩
        · have hne2 : ((E2 : Int) != 0) = true := by rw [bne_iff_ne]; omega
          have e := (openJ_trim HP.out TR.out hE2).symm.trans HOJ.out
          injection e with q1 q2
          injection q2 with q2 q3
          subst q1
          subst q2
          have HE2 := Lib.hid (And.intro hE2 (And.intro h4 t4))
          clear hE2 h4 t4 o4 nf4 q3 e1
          go_wp2_with fail
          go_returns
          exact ⟨F4, HE2.out.2.1, HE2.out.2.2, .inr ⟨HE2.out.1, rfl⟩⟩
      · have hlti : ¬ (m : Int) < (bb.length : Int) := by omega
        have TR := Lib.hid (show trimS s1 bb (recsOf bb).length = (s1, 0) by unfold trimS; rw [HRS.out, if_neg (by omega)])
        obtain ⟨s2, hs2⟩ : ∃ s2, s1 = s2 := ⟨_, rfl⟩
        have L2 := Lib.hid (show s2.l.length ≤ 60002 by have := L1.out; rw [hs2] at this; omega)
        have OJ := Lib.hid (fun (s9 : Ds) (E9 : Nat) (hsy : syncS s2 nmJ = (s9, E9)) => (show s9 = s' ∧ E9 = E ∧ rs = l by
          rw [← hs2] at hsy
          have e := (openJ_go HP.out TR.out hsy).symm.trans HOJ.out
          injection e with q1 q2
          injection q2 with q2 q3
          exact ⟨q1, q2, by rw [← HRS.out, q3]⟩))
        have h4 := H3.out
        have t4 := T3.out
        have o4 := O3.out
        have nf4 := NF3.out
        rw [hs2] at h4
        clear hlt hm hs2
        have H4 := Lib.hid h4
        have T4 := Lib.hid t4
        have O4 := Lib.hid o4
        have NF4 := Lib.hid nf4
        obtain ⟨s9, E9, hsy⟩ : ∃ s9 E9, syncS s2 nmJ = (s9, E9) := ⟨_, _, rfl⟩
        have SY := Lib.hid (h4.went hsy (K.sync nmJ (h4.z HZ.out) h4.D (Nat.le_trans L2.out (by decide)) (by decide)))
        have RES := Lib.hid (OJ.out s9 E9 hsy)
        unfold dpt strV at SY
        rw [strJ] at SY
        clear h4 t4 o4 nf4 hsy
        go_wp2_with fail
        refine SY.out.mono ?_
        rintro e w9 ⟨rfl, F9, h9, t9⟩
        have H9 := Lib.hid h9
        have T9 := Lib.hid (T4.out.trans t9)
        have O9 := Lib.hid (O4.out.turns t9 NF4.out)
        have NF9 := Lib.hid (show ∀ k, (Value.slice A3 rs.length c3).ownBlock = some k → ¬ F9 k from fun k hk => t9.notIn (O4.out.lt k hk).2 (NF4.out k hk))
        clear h9 t9
        obtain ⟨rfl, rfl, rfl⟩ := RES.out
        by_cases hE9 : E9 = 0
        · subst hE9
          have e3 : ((0 : Int) != 0) = false := rfl
          go_wp2_with fail
          go_returns
          exact made_box H9.out T9.out O9.out NF9.out RL.out RF2.out
        · have hne9 : ((E9 : Int) != 0) = true := by rw [bne_iff_ne]; omega
          have HE9 := Lib.hid hE9
          clear hE9
          go_wp2_with fail
          go_returns
          exact ⟨F9, H9.out, T9.out, .inr ⟨HE9.out, rfl⟩⟩
    · have hne1 : ((E1 : Int) != 0) = true := by rw [bne_iff_ne]; omega
      have SZ := Lib.hid (h.size_ hZ (by omega) nmJ _ strJ.symm hz)
      have e := (openJ_no hp hE1).symm.trans hs
      injection e with q1 q2
      injection q2 with q2 q3
      subst q1
      subst q2
      have HE1 := Lib.hid hE1
      clear h hZ hs hz hp hl ok hs7 hE1 q3 h3
      go_enter Tryz.func32, Tryz.ntmps32
      go_wp2_with fail
      refine SZ.out.mono ?_
      rintro e w1 ⟨rfl, h1, k1⟩
      have HC := Lib.hid (And.intro h1 k1)
      clear h1 k1
      go_wp2_with fail
      go_returns
      exact ⟨F, HC.out.1, Turns.of_keeps HC.out.2, .inr ⟨HE1.out, rfl⟩⟩
end
end Go.Proofs.YtiohijkelagloaaGreatDoor.Ref
/- What Recs, Add and Back of the reference of chapter 9 answer. (Written by mkrefjr4.py.) -/
namespace Go.Proofs.YtiohijkelagloaaGreatDoor.Ref
open Go.RowKit
set_option linter.unusedSimpArgs false
set_option linter.unusedVariables false
set_option maxRecDepth 100000

theorem own_empty9 (w : World) (e : TypeId) (size : Nat) : Own (w.alloc (.cells #[] e)) w.heap.size e size (.slice (some ⟨w.heap.size, 0, none⟩) 0 0) 0 [] :=
  ⟨by simp, .inr ⟨w.heap.size, 0, #[], (0, 0), rfl, Nat.le_refl _, heap_alloc_new w _, .inl rfl, Nat.le_refl _, by simp [maxLen], by simp, by simp⟩⟩
theorem at_box9 {w : World} {b : Nat} {t : TypeId} {cs : List Value} {B : Nat} (h : Box w b t cs.toArray) (hB : b < B) : At w B (some ⟨b, 0, none⟩) cs :=
  .inr ⟨_, rfl, hB, fun j u hu => by
    rw [Addr.add_lit, Nat.zero_add]
    exact h.cell j (by simpa using hu)⟩
theorem ones9 (l : List RecS) : ∀ u ∈ rowsC l, u.oneCell' = true := fun u hu => by
  obtain ⟨y, -, hy⟩ := List.mem_flatMap.1 hu
  exact recC_one y u hy
section
variable {w : World} {base j b : Nat} {G : Nat → Prop} {l : List RecS}
set_option maxHeartbeats 4000000 in
theorem jrRecs_any (h : JrAt w base j b G l) : Calls Tryz.prog 13 #[.pointer (some ⟨j, 0, none⟩)] w fun e w' => ∃ A c, e = .returned (.slice A l.length c) ∧ Own w' w.heap.size 38 3 (.slice A l.length c) l.length (rowsC l) ∧ Keeps w w' := by
  obtain ⟨v, hb, ho, -⟩ := h.row
  obtain ⟨A, c, rfl, -⟩ := ho.form
  obtain ⟨i0, hi, hz0, hz1, hz2⟩ := info_parts infoRec
  obtain ⟨N, hN⟩ : ∃ N, l.length = N := ⟨_, rfl⟩
  have hNb := h.len
  rw [hN] at hb ho hNb
  rw [hN]
  have HN := Lib.hid hN
  have kE := keeps_alloc w (.cells #[] 38)
  have KE := Lib.hid kE
  have O0 := Lib.hid (own_empty9 w 38 3)
  have AT := Lib.hid ((At.keep ho.at_ kE).more kE.size)
  have RL := Lib.hid (show (rowsC l).length = N * 3 by rw [rowsC_length, hN, Nat.mul_comm])
  have c1 := (hb.keep kE).cell 1 rfl
  have c2 := hb.cell 1 rfl
  have hlt := hb.lt
  clear hb ho h kE hN
  go_enter Tryz.func13, Tryz.ntmps13
  go_wp2_with (at_builtin; refine wpList_app _ rfl _ _ 46 rfl w.heap.size 38 i0 (.agg #[.int .u32 0, .int .u32 0, .int .u32 0]) 3 12 Tryz.underlying46 hi hz0 hz1 hz2 rfl (by decide) _ 0 [] rfl O0.out _ A N c (rowsC l) rfl RL.out AT.out (ones9 l) (by unfold maxLen; omega) (by omega) (by simp) ?_; intro v2 w2 hown2 hgrow2 hblk2)
  have k2 : Keeps w w2 := Below.grown KE.out hgrow2 KE.out.size (fun g hg => (O0.out.lt g hg).1)
  have O2 := Lib.hid (show Own w2 w.heap.size 38 3 v2 N (rowsC l) by simpa using hown2)
  clear hown2 hgrow2 hblk2
  obtain ⟨A2, c2', rfl, -⟩ := O2.out.form
  go_wp2_with fail
  go_ret
  exact ⟨A2, c2', rfl, O2.out, k2⟩
theorem jrRecs_nil (w : World) : Calls Tryz.prog 13 #[.pointer none] w fun e w' => e = .returned (.slice none 0 0) ∧ Keeps w w' := by
  go_enter Tryz.func13, Tryz.ntmps13
  go_wp2_with fail
  go_ret
  exact ⟨rfl, keeps_refl _⟩
end
section
variable {K : DiskOk} {w0 w : World} {b : Nat} {F G : Nat → Prop} {s : Ds} {base j : Nat} {l : List RecS}
/-- an error, the disk's turn and the journal's -/
def WentJ (K : DiskOk) (w0 w : World) (b : Nat) (F G : Nat → Prop) (base j : Nat) (s' : Ds) (E : Nat) (l' : List RecS) (e : Ending) (w' : World) : Prop :=
  e = .returned (.int .i64 (E : Int)) ∧ ∃ F' G', Have K w0 w' b F' s' ∧ JrAt w' base j b G' l' ∧ (∀ i, G' i → ¬ F' i) ∧ Turns w w' (fun i => F i ∨ G i) (fun i => F' i ∨ G' i)
theorem both_turn {w1 w2 : World} {F F' G : Nat → Prop} (t : Turns w1 w2 F F') : Turns w1 w2 (fun i => F i ∨ G i) (fun i => F' i ∨ G i) :=
  ⟨⟨t.only.os, t.only.tape, t.only.output, t.only.size, fun i hi hn => t.only.block i hi (fun e => hn (.inl e))⟩, fun i hi => by
    rcases hi with hi | hi
    · rcases t.next i hi with h | h
      · exact .inl (.inl h)
      · exact .inr h
    · exact .inl (.inr hi)⟩
/-- only the disk has turned -/
theorem wentJ_disk {w1 : World} {s' : Ds} {E : Nat} {F' : Nat → Prop} (h : Have K w0 w1 b F' s') (t : Turns w w1 F F') (hj : JrAt w base j b G l) (hd : ∀ i, G i → ¬ F i) : WentJ K w0 w b F G base j s' E l (.returned (.int .i64 (E : Int))) w1 := by
  obtain ⟨j1, d1⟩ := hj.turn t hd
  exact ⟨rfl, F', G, h, j1, d1, both_turn t⟩
theorem both_turn2 {w1 w2 : World} {F G G' : Nat → Prop} (t : Turns w1 w2 G G') : Turns w1 w2 (fun i => F i ∨ G i) (fun i => F i ∨ G' i) :=
  ⟨⟨t.only.os, t.only.tape, t.only.output, t.only.size, fun i hi hn => t.only.block i hi (fun e => hn (.inr e))⟩, fun i hi => by
    rcases hi with hi | hi
    · exact .inl (.inl hi)
    · rcases t.next i hi with h | h
      · exact .inl (.inr h)
      · exact .inr h⟩
/-- what the journal alone turns leaves the disk as it was -/
theorem have_turn {w1 w2 : World} {F G G' : Nat → Prop} (h : Have K w0 w1 b F s) (t : Turns w1 w2 G G') (hd : ∀ i, G i → ¬ F i) (hg : ∀ i, G i → w0.heap.size ≤ i) : Have K w0 w2 b F s ∧ ∀ i, G' i → ¬ F i :=
  ⟨⟨K.same h.D (fun i hi => t.only.block i (K.lt h.D i hi) (fun e => hd i e hi)) t.only.size, h.low, t.keeps h.kp hg⟩, fun i hi hf => by
    rcases t.next i hi with e | e
    · exact hd i e hf
    · have := K.lt h.D i hf
      omega⟩
theorem JrAt.ne {v : Value} (hbx : Box w j 90 #[.pointer (some ⟨b, 0, none⟩), v]) (ho : Own w base 38 3 v l.length (rowsC l)) : v.ownBlock ≠ some j := by
  rcases ho.2 with ⟨rfl, _⟩ | ⟨g, cap, cur, fz, rfl, _, hg, _⟩
  · simp [Value.ownBlock]
  · intro h
    simp only [Value.ownBlock, Option.some.injEq] at h
    subst h
    rw [show w.heap[g]? = _ from hbx] at hg
    injection hg with hg
    injection hg with _ ht
    exact absurd ht (by decide)
/-- other records are laid, in a new row -/
theorem JrAt.fresh {w1 w2 : World} {v v' : Value} {l' : List RecS} (hbx : Box w1 j 90 #[.pointer (some ⟨b, 0, none⟩), v]) (hG : ∀ i, G i ↔ (i = j ∨ v.ownBlock = some i)) (hlow : base ≤ j) (k : Keeps w1 w2) (hown : Own w2 w1.heap.size 38 3 v' l'.length (rowsC l')) (hl : l'.length ≤ 65536) (hf : Fine l') :
    JrAt (w2.setCell ⟨j, 1, none⟩ v') base j b (fun i => i = j ∨ v'.ownBlock = some i) l' ∧ Turns w1 (w2.setCell ⟨j, 1, none⟩ v') G (fun i => i = j ∨ v'.ownBlock = some i) := by
  have hlt := hbx.lt
  have hne : v'.ownBlock ≠ some j := fun e => by have := (hown.lt j e).1; omega
  refine ⟨⟨⟨_, by simpa using (hbx.keep k).set 1 v', ?_, fun i => Iff.rfl⟩, hlow, hl, hf⟩, ⟨⟨k.os, k.tape, k.output, ?_, fun i hi hn => ?_⟩, fun i hi => ?_⟩⟩
  · exact (hown.base_le (by omega)).same fun g hg => Below.heap_setCell _ ⟨j, 1, none⟩ _ g (fun e => hne (by rw [hg, e]))
  · simp only [World.size_setCell]
    exact k.size
  · rw [Below.heap_setCell _ ⟨j, 1, none⟩ _ i (fun e => hn ((hG i).2 (.inl e)))]
    exact k.block i hi
  · rcases hi with rfl | hi
    · exact .inl ((hG _).2 (.inl rfl))
    · exact .inr (hown.lt i hi).1
set_option maxHeartbeats 16000000 in
theorem jrBack_any (h : Have K w0 w b F s) (hZ : K.Z w0) (hs7 : s.l.length ≤ 60000) (hj : JrAt w base j b G l) (hd : ∀ i, G i → ¬ F i) (hbase : w0.heap.size ≤ base) (n : Int) (hn : IsI n) {s' : Ds} {E : Nat} (hs : backJ s l n = (s', E)) :
    Calls Tryz.prog 34 #[.pointer (some ⟨j, 0, none⟩), .int .i64 n] w (WentJ K w0 w b F G base j s' E (if E = 0 then l.take n.toNat else l)) := by
  obtain ⟨RES, hRES⟩ : ∃ R, (if E = 0 then l.take n.toNat else l) = R := ⟨_, rfl⟩
  rw [hRES]
  have RE := Lib.hid hRES
  clear hRES
  have HS := Lib.hid hs
  have H := Lib.hid h
  have J := Lib.hid hj
  have DD := Lib.hid hd
  have HZ := Lib.hid hZ
  obtain ⟨v, hb, ho, hG⟩ := hj.row
  obtain ⟨A, c, rfl, hcc, -⟩ := ho.form
  have HNE := Lib.hid (JrAt.ne hb ho)
  have HB := Lib.hid hb
  have HO := Lib.hid ho
  have HG := Lib.hid hG
  have c0 := hb.cell 0 rfl
  have c1 := hb.cell 1 rfl
  have f1 := hb.frozen 1
  obtain ⟨N, hN⟩ : ∃ N, l.length = N := ⟨_, rfl⟩
  have HNN := Lib.hid hN
  have hNb := hj.len
  have hn1 := hn.1
  have hn2 := hn.2
  rw [hN] at hNb c1 hcc
  have hNi : (N : Int) ≤ 65536 := by omega
  by_cases hbad : n < 0 ∨ (N : Int) < n
  · have e := (backJ_none (s := s) (l := l) (n := n) (by rw [hN]; exact hbad)).symm.trans hs
    injection e with q1 q2
    subst q1
    subst q2
    obtain rfl : l = RES := by have := RE.out; rwa [if_neg (by decide)] at this
    have ways : n < 0 ∨ (¬ n < 0 ∧ (N : Int) < n) := by omega
    clear h hZ hj hd hs hb ho hG hbad hN hn hNb
    go_enter Tryz.func34, Tryz.ntmps34
    rcases ways with x1 | ⟨x1, x2⟩
    all_goals
      go_wp2_with fail
      go_ret
      exact wentJ_disk H.out (Turns.refl _ _) J.out DD.out
  · obtain ⟨k, rfl⟩ : ∃ k : Nat, n = (k : Int) := ⟨n.toNat, by omega⟩
    have hkN : k ≤ N := by omega
    have x1 : ¬ (k : Int) < 0 := by omega
    have x2 : ¬ (N : Int) < (k : Int) := by omega
    have x3 : (k : Int) ≤ (c : Int) := by omega
    have HK := Lib.hid hkN
    have HBAD := Lib.hid (show ¬ ((k : Int) < 0 ∨ (l.length : Int) < (k : Int)) by rw [hN]; exact hbad)
    obtain ⟨s1, E1, hc⟩ : ∃ s1 E1, cutS s nmJ ((64 * k : Nat) : Int) = (s1, E1) := ⟨_, _, rfl⟩
    have HC := Lib.hid (show cutS s nmJ ((64 * (k : Int).toNat : Nat) : Int) = (s1, E1) from hc)
    obtain ⟨m, hm⟩ : ∃ m, 64 * k = m := ⟨_, rfl⟩
    have hmul : 64 * (k : Int) = (m : Int) := by omega
    have hmb : (m : Int) ≤ 4194304 := by omega
    have CU := Lib.hid (h.went hc (K.cut nmJ ((64 * k : Nat) : Int) (h.z hZ) h.D (by omega) (by decide) (by omega) (by omega)))
    have L1 := Lib.hid (show s1.l.length ≤ 60001 by have := cut_len s nmJ ((64 * k : Nat) : Int); rw [hc] at this; simp only at this; omega)
    unfold dpt strV at CU
    rw [strJ, hm] at CU
    clear hm
    clear h hZ hj hd hs hb ho hG hbad hN hn hNb hkN hc
    go_enter Tryz.func34, Tryz.ntmps34
    go_wp2_with fail
    refine CU.out.mono ?_
    rintro e w1 ⟨rfl, F1, h1, t1⟩
    have H1 := Lib.hid h1
    have T1 := Lib.hid t1
    have B1 := Lib.hid (HB.out.turned t1 (DD.out j ((HG.out j).2 (.inl rfl))))
    clear h1 t1 c1 c0 f1
    have d0 := B1.out.cell 0 rfl
    by_cases hE1 : E1 = 0
    · subst hE1
      have e1 : ((0 : Int) != 0) = false := rfl
      obtain ⟨sy, E2, hsy⟩ : ∃ sy E2, syncS s1 nmJ = (sy, E2) := ⟨_, _, rfl⟩
      have e := (backJ_go HBAD.out HC.out hsy).symm.trans HS.out
      injection e with q1 q2
      subst q1
      subst q2
      have SY := Lib.hid (H1.out.went hsy (K.sync nmJ (H1.out.z HZ.out) H1.out.D (Nat.le_trans L1.out (by decide)) (by decide)))
      unfold dpt strV at SY
      rw [strJ] at SY
      clear hsy
      go_wp2_with fail
      refine SY.out.mono ?_
      rintro e w2 ⟨rfl, F2, h2, t2⟩
      have T2 := Lib.hid (T1.out.trans t2)
      have H2 := Lib.hid h2
      by_cases hE2 : E2 = 0
      · subst hE2
        obtain rfl : l.take k = RES := by have := RE.out; rw [if_pos rfl] at this; simpa using this
        obtain ⟨J2, D2⟩ := J.out.turn T2.out DD.out
        have B2 := Lib.hid (B1.out.turned t2 (T1.out.notIn HB.out.lt (DD.out j ((HG.out j).2 (.inl rfl)))))
        obtain ⟨i0, hi, hz0, hz1, hz2⟩ := info_parts infoRec
        have kE := keeps_alloc w2 (.cells #[] 38)
        have KE := Lib.hid kE
        have O0 := Lib.hid (own_empty9 w2 38 3)
        have O2 := HO.out.turns T2.out (fun k hk => DD.out k ((HG.out k).2 (.inr hk)))
        have AT := Lib.hid (show At (w2.alloc (.cells #[] 38)) (w2.alloc (.cells #[] 38)).heap.size A (rowsC (l.take k)) by rw [rowsC_take]; exact ((At.keep O2.at_ kE).more kE.size).take _)
        have hlk : (l.take k).length = k := by rw [List.length_take]; have := HNN.out; have := HK.out; omega
        have RL := Lib.hid (show (rowsC (l.take k)).length = k * 3 by rw [rowsC_length, hlk, Nat.mul_comm])
        have HLK := Lib.hid hlk
        have J2' := Lib.hid J2
        have D2' := Lib.hid D2
        have z0 := B2.out.cell 0 rfl
        have z1 : w2.cell? ⟨j, 1, none⟩ = some (.slice A N c) := by have := B2.out.cell 1 rfl; rw [← HNN.out]; exact this
        have y1 : (w2.alloc (.cells #[] 38)).cell? ⟨j, 1, none⟩ = some (.slice A N c) := by have := (B2.out.keep kE).cell 1 rfl; rw [← HNN.out]; exact this
        have z2 := B2.out.frozen 1
        have lj := B2.out.lt
        have hkb : (k : Int) ≤ 65536 := by omega
        clear h2 t2 J2 D2 O2 kE hlk d0 e1
        go_wp2_with (at_builtin; refine wpList_app _ rfl _ _ 46 rfl w2.heap.size 38 i0 (.agg #[.int .u32 0, .int .u32 0, .int .u32 0]) 3 12 Tryz.underlying46 hi hz0 hz1 hz2 rfl (by decide) _ 0 [] rfl O0.out _ A k c (rowsC (l.take k)) rfl RL.out AT.out (ones9 _) (by unfold maxLen; omega) (by omega) (by simp) ?_; intro v3 w3 hown3 hgrow3 hblk3; have k3 : Keeps w2 w3 := Below.grown KE.out hgrow3 KE.out.size (fun g hg => (O0.out.lt g hg).1); have O3 := Lib.hid (show Own w3 w2.heap.size 38 3 v3 k (rowsC (l.take k)) from (by simpa using hown3)); clear hown3 hgrow3 hblk3; obtain ⟨A3, c3, rfl, -⟩ := O3.out.form; have B3 := Lib.hid (B2.out.keep k3); have s0 := B3.out.cell 0 rfl; have s1' := B3.out.cell 1 rfl; have s2 := B3.out.frozen 1; have K3 := Lib.hid k3; clear k3)
        have FR := JrAt.fresh B2.out HG.out J.out.low K3.out (l' := l.take k) (v' := .slice A3 k c3) (by rw [HLK.out]; exact O3.out) (by rw [HLK.out]; omega) (J.out.fine.take k)
        obtain ⟨J5, U5⟩ := FR
        obtain ⟨H5, D5⟩ := have_turn H2.out U5 D2'.out (fun i hi => Nat.le_trans hbase (J2'.out.ge i hi))
        have FIN := Lib.hid (And.intro J5 (And.intro U5 (And.intro H5 D5)))
        clear J5 U5 H5 D5
        go_wp2_with fail
        go_ret
        exact ⟨rfl, F2, _, FIN.out.2.2.1, FIN.out.1, FIN.out.2.2.2, (both_turn T2.out).trans (both_turn2 FIN.out.2.1)⟩
      · have hne : ((E2 : Int) != 0) = true := by rw [bne_iff_ne]; omega
        obtain rfl : l = RES := by have := RE.out; rwa [if_neg hE2] at this
        clear hE2 h2 t2
        go_wp2_with fail
        go_ret
        exact wentJ_disk H2.out T2.out J.out DD.out
    · have hne : ((E1 : Int) != 0) = true := by rw [bne_iff_ne]; omega
      have e := (backJ_no HBAD.out HC.out hE1).symm.trans HS.out
      injection e with q1 q2
      subst q1
      subst q2
      obtain rfl : l = RES := by have := RE.out; rwa [if_neg hE1] at this
      clear hE1
      go_wp2_with fail
      go_ret
      exact wentJ_disk H1.out T1.out J.out DD.out
end
theorem jrAdd_nil (r : RecS) (w : World) : Calls Tryz.prog 33 #[.pointer none, .agg (recC r).toArray] w fun e w' => e = .returned (.int .i64 2) ∧ Keeps w w' := by
  have k0 := keeps_alloc w (.cells (recC r).toArray 38)
  unfold recC at *
  go_enter Tryz.func33, Tryz.ntmps33
  go_wp2_with fail
  go_ret
  exact ⟨rfl, k0⟩
theorem jrBack_nil (n : Int) (w : World) : Calls Tryz.prog 34 #[.pointer none, .int .i64 n] w fun e w' => e = .returned (.int .i64 2) ∧ Keeps w w' := by
  go_enter Tryz.func34, Tryz.ntmps34
  go_wp2_with fail
  go_ret
  exact ⟨rfl, keeps_refl _⟩
end Go.Proofs.YtiohijkelagloaaGreatDoor.Ref
