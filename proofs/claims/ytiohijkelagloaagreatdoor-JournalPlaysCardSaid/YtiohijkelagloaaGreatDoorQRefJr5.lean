/- What Add of the reference of chapter 9 answers. (Written by mkrefjr5.py.) -/
import Derived.Test.YtiohijkelagloaaGreatDoorQRefJr
import Derived.Test.YtiohijkelagloaaGreatDoorQJrU
namespace Go.Proofs.YtiohijkelagloaaGreatDoor.Ref
open Go.RowKit
set_option linter.unusedSimpArgs false
set_option linter.unusedVariables false
set_option maxRecDepth 100000

section
variable {K : DiskOk} {w0 w : World} {b : Nat} {F G : Nat → Prop} {s : Ds} {base j : Nat} {l : List RecS}
set_option maxHeartbeats 64000000 in
theorem jrAdd_any (h : Have K w0 w b F s) (hZ : K.Z w0) (hs7 : s.l.length ≤ 60000) (hj : JrAt w base j b G l) (hd : ∀ i, G i → ¬ F i) (hbase : w0.heap.size ≤ base) (r : RecS) (hr : RecOk r) {s' : Ds} {E : Nat} (hs : addJ s l r = (s', E)) :
    Calls Tryz.prog 33 #[.pointer (some ⟨j, 0, none⟩), .agg (recC r).toArray] w (WentJ K w0 w b F G base j s' E (if E = 0 then l ++ [r] else l)) := by
  obtain ⟨RES, hRES⟩ : ∃ R, (if E = 0 then l ++ [r] else l) = R := ⟨_, rfl⟩
  rw [hRES]
  have RE := Lib.hid hRES
  clear hRES
  have k0 := keeps_alloc w (.cells (recC r).toArray 38)
  have BX := Box.new w 38 (recC r).toArray
  have x0 := BX.cell 0 (v := .int .u32 (r.kind : Int)) (by simp [recC])
  have HS := Lib.hid hs
  have H := Lib.hid h
  have J := Lib.hid hj
  have DD := Lib.hid hd
  have K0 := Lib.hid k0
  by_cases hk : r.kind = 0
  · have e := (addJ_none (s := s) (l := l) hk).symm.trans hs
    injection e with q1 q2
    subst q1
    subst q2
    obtain rfl : l = RES := by have := RE.out; rwa [if_neg (by decide)] at this
    have hkk : ((r.kind : Int) == 0) = true := by rw [beq_iff_eq]; omega
    clear h hZ hj hd hs hk
    unfold recC at *
    go_enter Tryz.func33, Tryz.ntmps33
    go_wp2_with fail
    go_ret
    exact wentJ_disk (H.out.keep K0.out) (Turns.of_keeps K0.out) J.out DD.out
  · have hkk : ((r.kind : Int) == 0) = false := by rw [beq_eq_false_iff_ne]; omega
    obtain ⟨v, hb, ho, hG⟩ := hj.row
    obtain ⟨A, c, rfl, -⟩ := ho.form
    have HNE := Lib.hid (JrAt.ne hb ho)
    have HB := Lib.hid hb
    have HO := Lib.hid ho
    have HG := Lib.hid hG
    have b0 := hb.keep k0
    have c0 := b0.cell 0 rfl
    have c1 := b0.cell 1 rfl
    have f1 := b0.frozen 1
    obtain ⟨N, hN⟩ : ∃ N, l.length = N := ⟨_, rfl⟩
    have hNb := hj.len
    rw [hN] at hNb
    by_cases hm : 65536 ≤ N
    · have e := (addJ_many (s := s) hk (by omega : 65536 ≤ l.length)).symm.trans hs
      injection e with q1 q2
      subst q1
      subst q2
      obtain rfl : l = RES := by have := RE.out; rwa [if_neg (by decide)] at this
      have hge : decide ((65536 : Int) ≤ (N : Int)) = true := decide_eq_true (by omega)
      have hge2 : decide (65536 ≤ N) = true := decide_eq_true hm
      have hge3 := Lib.hid hm
      rw [hN] at c1
      clear h hZ hj hd hs hk hm hNb hb ho hG b0 hN
      unfold recC at *
      go_enter Tryz.func33, Tryz.ntmps33
      go_wp2_with fail
      go_ret
      exact wentJ_disk (H.out.keep K0.out) (Turns.of_keeps K0.out) J.out DD.out
    · have hge : decide ((65536 : Int) ≤ (N : Int)) = false := decide_eq_false (by omega)
      have hge2 : decide (65536 ≤ N) = false := decide_eq_false hm
      have HM := Lib.hid (show l.length < 65536 by omega)
      obtain ⟨s1, E1, hw⟩ : ∃ s1 E1, writeS s nmJ ((64 * l.length : Nat) : Int) (sectB (l.length + 1) r) = (s1, E1) := ⟨_, _, rfl⟩
      have HW := Lib.hid hw
      have L1 := Lib.hid (show s1.l.length ≤ 60001 by have := write_len s nmJ ((64 * l.length : Nat) : Int) (sectB (l.length + 1) r); rw [hw] at this; simp only at this; omega)
      have HKN := Lib.hid hk
      rw [hN] at hw
      have HNN := Lib.hid hN
      obtain ⟨off, hoff⟩ : ∃ off, 64 * N = off := ⟨_, rfl⟩
      rw [hoff] at hw
      have hmul : 64 * (N : Int) = (off : Int) := by omega
      have hob : (off : Int) ≤ 4194304 := by omega
      have hnb : (N : Int) ≤ 65535 := by omega
      have SL := Lib.hid (sectB_length (N + 1) r)
      have SE := Lib.hid (fun (V : World) (kk : Keeps w V) => laid_any9 (N + 1) r V hr (by omega))
      have WR := Lib.hid (fun (V : World) (kk : Keeps w V) (A3 : Option Addr) (c3 : Nat) (o : Own V w.heap.size 5 1 (.slice A3 64 c3) 64 (cel (sectB (N + 1) r))) =>
        (h.keep kk).went hw (K.write nmJ (off : Int) A3 64 c3 (sectB (N + 1) r) ((h.keep kk).z hZ) (h.keep kk).D (by omega) (by decide) (by omega) (by omega) o.at_ (fun ad ha _ hf => by
          obtain ⟨A', c', hv, hc', hm', -, hb'⟩ := o.form
          injection hv with h3 h4 h5
          subst h3
          have h6 := (hb' ad ha).2.1
          have h7 := K.lt h.D _ hf
          omega) SL.out.symm o.capj.1 (by decide)))
      have HZ := Lib.hid hZ
      have HR := Lib.hid hr
      unfold dpt strV at WR
      rw [strJ] at WR
      obtain ⟨N1, hN1⟩ : ∃ N1, N + 1 = N1 := ⟨_, rfl⟩
      rw [hN1] at SL SE WR
      have hsum : (N : Int) + 1 = (N1 : Int) := by omega
      have hwr1 : IntKind.i64.wrap (N1 : Int) = (N1 : Int) := IntWalk.i64_in _ (by omega)
      have hwr2 : IntKind.i64.wrap (off : Int) = (off : Int) := IntWalk.i64_in _ (by omega)
      rw [hN] at c1
      generalize sectB N1 r = sb at *
      clear hN1
      clear h hZ hj hd hs hk hm hNb hb ho hG b0 hw hoff
      have XB := Lib.hid BX
      have x1 := BX.cell 1 (v := .int .u32 (r.a : Int)) (by simp [recC])
      have x2 := BX.cell 2 (v := .int .u32 (r.b : Int)) (by simp [recC])
      unfold recC at *
      go_enter Tryz.func33, Tryz.ntmps33
      go_wp2_with fail
      have CF := Lib.hid (show ∀ V : World, (Box V j 90 #[.pointer (some ⟨b, 0, none⟩), .slice A l.length c]) → (Box V w.heap.size 38 #[.int .u32 (r.kind : Int), .int .u32 (r.a : Int), .int .u32 (r.b : Int)]) → V.cell? ⟨j, 0, none⟩ = some (.pointer (some ⟨b, 0, none⟩)) ∧ V.cell? ⟨j, 1, none⟩ = some (.slice A N c) ∧ V.cell? ⟨w.heap.size, 0, none⟩ = some (.int .u32 (r.kind : Int)) ∧ V.cell? ⟨w.heap.size, 1, none⟩ = some (.int .u32 (r.a : Int)) ∧ V.cell? ⟨w.heap.size, 2, none⟩ = some (.int .u32 (r.b : Int)) from fun V h1 h2 => ⟨h1.cell 0 rfl, by rw [← HNN.out]; exact h1.cell 1 rfl, h2.cell 0 rfl, h2.cell 1 rfl, h2.cell 2 rfl⟩)
      have CK := Lib.hid (show ∀ V : World, Keeps (w.alloc (.cells #[.int .u32 (r.kind : Int), .int .u32 (r.a : Int), .int .u32 (r.b : Int)] 38)) V → V.cell? ⟨j, 0, none⟩ = some (.pointer (some ⟨b, 0, none⟩)) ∧ V.cell? ⟨j, 1, none⟩ = some (.slice A N c) ∧ V.cell? ⟨w.heap.size, 0, none⟩ = some (.int .u32 (r.kind : Int)) ∧ V.cell? ⟨w.heap.size, 1, none⟩ = some (.int .u32 (r.a : Int)) ∧ V.cell? ⟨w.heap.size, 2, none⟩ = some (.int .u32 (r.b : Int)) from fun V k => CF.out V ((HB.out.keep K0.out).keep k) (XB.out.keep k))
      go_region_held3 (fun V => V.cell? ⟨j, 0, none⟩ = some (.pointer (some ⟨b, 0, none⟩)) ∧ V.cell? ⟨j, 1, none⟩ = some (.slice A N c) ∧ V.cell? ⟨w.heap.size, 0, none⟩ = some (.int .u32 (r.kind : Int)) ∧ V.cell? ⟨w.heap.size, 1, none⟩ = some (.int .u32 (r.a : Int)) ∧ V.cell? ⟨w.heap.size, 2, none⟩ = some (.int .u32 (r.b : Int))) (first | assumption | exact CK.out _ (by first | exact keeps_drew _ | assumption)) (first
        | (go_at_call 85; refine (SE.out _ (keeps_trans K0.out (keeps_drew _))).mono ?_; rintro ee w2 ⟨v2, rfl, o2, k2⟩; rw [SL.out] at o2; obtain ⟨A2, c2, rfl, -⟩ := o2.form; have K2 := Lib.hid (keeps_trans (keeps_drew (w.alloc (.cells #[.int .u32 (r.kind : Int), .int .u32 (r.a : Int), .int .u32 (r.b : Int)] 38))) k2); have O2 := Lib.hid (o2.base_le (keeps_trans K0.out (keeps_drew _)).size); have s2 := CK.out w2 K2.out; clear k2 o2)
        | (go_at_call 37; refine (WR.out _ (keeps_trans K0.out K2.out) _ _ O2.out).mono ?_; rintro ee w3 ⟨rfl, F3, h3, t3⟩; have B3 := Lib.hid (Box.turned ((HB.out.keep K0.out).keep K2.out) t3 (DD.out j ((HG.out j).2 (.inl rfl)))); have R3 := Lib.hid (Box.turned (XB.out.keep K2.out) t3 (fun e => by have := K.lt H.out.D _ e; omega)); have s3 := CF.out w3 B3.out R3.out; have H3 := Lib.hid h3; have T3 := Lib.hid ((Turns.of_keeps (S := F) (keeps_trans K0.out K2.out)).trans t3); have NR3 := Lib.hid (t3.notIn (XB.out.keep K2.out).lt (fun e => by have := K.lt H.out.D _ e; omega)); clear h3 t3))
      by_cases hE1 : E1 = 0
      · subst hE1
        have e1 : ((0 : Int) != 0) = false := rfl
        obtain ⟨sy, E2, hsy⟩ : ∃ sy E2, syncS s1 nmJ = (sy, E2) := ⟨_, _, rfl⟩
        have e := (addJ_go HKN.out HM.out HW.out hsy).symm.trans HS.out
        injection e with q1 q2
        subst q1
        subst q2
        have SY := Lib.hid (H3.out.went hsy (K.sync nmJ (H3.out.z HZ.out) H3.out.D (Nat.le_trans L1.out (by decide)) (by decide)))
        unfold dpt strV at SY
        rw [strJ] at SY
        clear hsy
        have q0 := B3.out.cell 0 rfl
        clear c0 c1 f1 x0 x1 x2
        go_wp2_with fail
        refine SY.out.mono ?_
        rintro e w4 ⟨rfl, F4, h4, t4⟩
        have T4 := Lib.hid (T3.out.trans t4)
        have H4 := Lib.hid h4
        by_cases hE2 : E2 = 0
        · subst hE2
          obtain rfl : l ++ [r] = RES := by have := RE.out; rwa [if_pos rfl] at this
          obtain ⟨J4, D4⟩ := J.out.turn T4.out DD.out
          have B4 := Lib.hid (B3.out.turned t4 (T3.out.notIn HB.out.lt (DD.out j ((HG.out j).2 (.inl rfl)))))
          have R4 := Lib.hid (R3.out.turned t4 NR3.out)
          obtain ⟨i0, hi, hz0, hz1, hz2⟩ := info_parts infoRec
          have O4 := Lib.hid (show Own w4 base 38 3 (.slice A N c) N (rowsC l) by
            have := HO.out.turns T4.out (fun k hk => DD.out k ((HG.out k).2 (.inr hk)))
            rwa [HNN.out] at this)
          have r0 := R4.out.cell 0 rfl
          have r1 := R4.out.cell 1 rfl
          have r2 := R4.out.cell 2 rfl
          have z0 := B4.out.cell 0 rfl
          have z1 : w4.cell? ⟨j, 1, none⟩ = some (.slice A N c) := by have := B4.out.cell 1 rfl; rw [← HNN.out]; exact this
          have z2 := B4.out.frozen 1
          have lj := B4.out.lt
          have ne4 : (Value.slice A N c).ownBlock ≠ some j := by rw [← HNN.out]; exact HNE.out
          have NE4 := Lib.hid ne4
          have LOW := Lib.hid (show base ≤ w4.heap.size from Nat.le_trans J4.low (Nat.le_of_lt lj))
          clear q0 ne4 h4 t4 e1
          have kd := keeps_drew w4
          have ka := keeps_trans kd (keeps_alloc w4.drew (.cells #[] 38))
          have kb := keeps_trans ka (keeps_alloc (w4.drew.alloc (.cells #[] 38)) (.cells #[.int .u32 (r.kind : Int), .int .u32 (r.a : Int), .int .u32 (r.b : Int)] 38))
          have kr := keeps_trans kd (keeps_alloc w4.drew (.cells #[.int .u32 (r.kind : Int), .int .u32 (r.a : Int), .int .u32 (r.b : Int)] 38))
          have kc := keeps_trans kr (keeps_alloc (w4.drew.alloc (.cells #[.int .u32 (r.kind : Int), .int .u32 (r.a : Int), .int .u32 (r.b : Int)] 38)) (.cells #[] 38))
          have Oa := Lib.hid (own_empty9 w4.drew 38 3)
          have Ob := Lib.hid (Oa.out.keep (keeps_alloc (w4.drew.alloc (.cells #[] 38)) (.cells #[.int .u32 (r.kind : Int), .int .u32 (r.a : Int), .int .u32 (r.b : Int)] 38)))
          have Oc := Lib.hid ((own_empty9 (w4.drew.alloc (.cells #[.int .u32 (r.kind : Int), .int .u32 (r.a : Int), .int .u32 (r.b : Int)] 38)) 38 3).base_le kr.size)
          have Bb := Lib.hid (Box.new (w4.drew.alloc (.cells #[] 38)) 38 #[.int .u32 (r.kind : Int), .int .u32 (r.a : Int), .int .u32 (r.b : Int)])
          have Bc := Lib.hid ((Box.new w4.drew 38 #[.int .u32 (r.kind : Int), .int .u32 (r.a : Int), .int .u32 (r.b : Int)]).keep (keeps_alloc (w4.drew.alloc (.cells #[.int .u32 (r.kind : Int), .int .u32 (r.a : Int), .int .u32 (r.b : Int)] 38)) (.cells #[] 38)))
          have KA := Lib.hid ka
          have KB := Lib.hid kb
          have KC := Lib.hid kc
          have NE := Lib.hid (show (w4.drew.alloc (.cells #[] 38)).heap.size = w4.heap.size + 1 by
            show (w4.drew.heap.push _).size = _
            rw [Array.size_push]; rfl)
          have NR := Lib.hid (show (w4.drew.alloc (.cells #[.int .u32 (r.kind : Int), .int .u32 (r.a : Int), .int .u32 (r.b : Int)] 38)).heap.size = w4.heap.size + 1 by
            show (w4.drew.heap.push _).size = _
            rw [Array.size_push]; rfl)
          have TK := Lib.hid (fun (V : World) (kk : Keeps w4 V) => (At.keep O4.out.at_ kk).more kk.size)
          have RL := Lib.hid (show (rowsC l).length = N * 3 by rw [rowsC_length, HNN.out, Nat.mul_comm])
          have CC := Lib.hid (show ∀ V : World, Keeps w4 V → V.cell? ⟨j, 1, none⟩ = some (.slice A N c) ∧ V.cell? ⟨w.heap.size, 0, none⟩ = some (.int .u32 (r.kind : Int)) ∧ V.cell? ⟨w.heap.size, 1, none⟩ = some (.int .u32 (r.a : Int)) ∧ V.cell? ⟨w.heap.size, 2, none⟩ = some (.int .u32 (r.b : Int)) from fun V kk => ⟨by rw [← HNN.out]; exact (B4.out.keep kk).cell 1 rfl, (R4.out.keep kk).cell 0 rfl, (R4.out.keep kk).cell 1 rfl, (R4.out.keep kk).cell 2 rfl⟩)
          obtain ⟨za0, za1, za2, za3⟩ := CC.out _ ka
          obtain ⟨zb0, zb1, zb2, zb3⟩ := CC.out _ kb
          obtain ⟨zr0, zr1, zr2, zr3⟩ := CC.out _ kr
          obtain ⟨zc0, zc1, zc2, zc3⟩ := CC.out _ kc
          have lr := R4.out.lt
          clear kd ka kb kr kc
          go_wp2_with fail
          go_region_law (first
            | ((refine step_appJ rfl (.tmp 48) (.tmp 52) 46 rfl w4.heap.size 38 i0 (.agg #[.int .u32 0, .int .u32 0, .int .u32 0]) 3 12 Tryz.underlying46 hi hz0 hz1 hz2 rfl (by decide) _ 0 [] (by simp [Act.eval, Act.put]) Oa.out _ A N c (rowsC l) (by simp [Act.eval, Act.put]) RL.out (TK.out _ KA.out) (ones9 l) (by unfold maxLen; omega) (by omega) KA.out.size ?_); intro v5 w5 hown5 hgrow5 hblk5; have k5 : Keeps w4 w5 := Below.grown KA.out hgrow5 KA.out.size (fun g hg => (Oa.out.lt g hg).1); have O5 := Lib.hid (show Own w5 w4.heap.size 38 3 v5 N (rowsC l) by simpa using hown5); clear hown5 hgrow5 hblk5; obtain ⟨A5, c5, rfl, -⟩ := O5.out.form; obtain ⟨zs0, zs1, zs2, zs3⟩ := CC.out _ k5; have l5 : w4.heap.size ≤ w5.heap.size := k5.size)
            | ((refine step_appJ rfl (.tmp 48) (.tmp 52) 46 rfl w4.heap.size 38 i0 (.agg #[.int .u32 0, .int .u32 0, .int .u32 0]) 3 12 Tryz.underlying46 hi hz0 hz1 hz2 rfl (by decide) _ 0 [] (by simp [Act.eval, Act.put]) Ob.out _ A N c (rowsC l) (by simp [Act.eval, Act.put]) RL.out (TK.out _ KB.out) (ones9 l) (by unfold maxLen; omega) (by omega) KB.out.size ?_); intro v5 w5 hown5 hgrow5 hblk5; have k5 : Keeps w4 w5 := Below.grown KB.out hgrow5 KB.out.size (fun g hg => (Ob.out.lt g hg).1); have O5 := Lib.hid (show Own w5 w4.heap.size 38 3 v5 N (rowsC l) by simpa using hown5); have B5 := Lib.hid (show Box w5 ((w4.drew.alloc (.cells #[] 38)).heap.size) 38 #[.int .u32 (r.kind : Int), .int .u32 (r.a : Int), .int .u32 (r.b : Int)] from (hgrow5.block _ Bb.out.lt (fun e => by have e2 := Option.some.inj (show some ((w4.drew.alloc (.cells #[] 38)).heap.size) = some w4.heap.size from e); have := NE.out; omega)).trans Bb.out); clear hown5 hgrow5 hblk5; obtain ⟨A5, c5, rfl, -⟩ := O5.out.form; obtain ⟨zs0, zs1, zs2, zs3⟩ := CC.out _ k5; have l5 : w4.heap.size ≤ w5.heap.size := k5.size)
            | ((refine step_appJ rfl (.tmp 48) (.tmp 52) 46 rfl w4.heap.size 38 i0 (.agg #[.int .u32 0, .int .u32 0, .int .u32 0]) 3 12 Tryz.underlying46 hi hz0 hz1 hz2 rfl (by decide) _ 0 [] (by simp [Act.eval, Act.put]) Oc.out _ A N c (rowsC l) (by simp [Act.eval, Act.put]) RL.out (TK.out _ KC.out) (ones9 l) (by unfold maxLen; omega) (by omega) KC.out.size ?_); intro v5 w5 hown5 hgrow5 hblk5; have k5 : Keeps w4 w5 := Below.grown KC.out hgrow5 KC.out.size (fun g hg => (Oc.out.lt g hg).1); have O5 := Lib.hid (show Own w5 w4.heap.size 38 3 v5 N (rowsC l) by simpa using hown5); have B5 := Lib.hid (show Box w5 (w4.heap.size) 38 #[.int .u32 (r.kind : Int), .int .u32 (r.a : Int), .int .u32 (r.b : Int)] from (hgrow5.block _ Bc.out.lt (fun e => by have e2 := Option.some.inj (show some (w4.heap.size) = some (w4.drew.alloc (.cells #[.int .u32 (r.kind : Int), .int .u32 (r.a : Int), .int .u32 (r.b : Int)] 38)).heap.size from e); have := NR.out; omega)).trans Bc.out); clear hown5 hgrow5 hblk5; obtain ⟨A5, c5, rfl, -⟩ := O5.out.form; obtain ⟨zs0, zs1, zs2, zs3⟩ := CC.out _ k5; have l5 : w4.heap.size ≤ w5.heap.size := k5.size)
            | ((refine step_appJ rfl (.tmp 53) (.tmp 55) 46 rfl w4.heap.size 38 i0 (.agg #[.int .u32 0, .int .u32 0, .int .u32 0]) 3 12 Tryz.underlying46 hi hz0 hz1 hz2 rfl (by decide) _ N _ (by simp [Act.eval, Act.put]) (O5.out.keep (keeps_alloc w5 (.cells #[.int .u32 (r.kind : Int), .int .u32 (r.a : Int), .int .u32 (r.b : Int)] 38))) _ (some ⟨w5.heap.size, 0, none⟩) 1 1 (recC r) (by simp [Act.eval, Act.put]) rfl (At.new _ _ _ _ (Nat.lt_succ_self _)) (recC_one r) (by unfold maxLen; omega) (by omega) (by simp; omega) ?_); have KX := keeps_trans k5 (keeps_alloc w5 (.cells #[.int .u32 (r.kind : Int), .int .u32 (r.a : Int), .int .u32 (r.b : Int)] 38)); intro v6 w6 hown6 hgrow6 hblk6; have k6 : Keeps w4 w6 := Below.grown KX hgrow6 KX.size (fun g hg => (O5.out.lt g hg).1); obtain ⟨A6, c6, rfl, -⟩ := hown6.form; have hb6 := B4.out.keep k6; have y0 := hb6.cell 0 rfl; have y1 := hb6.cell 1 rfl; have y2 := hb6.frozen 1; have O6 := Lib.hid hown6; clear hown6 hgrow6 hblk6)
            | ((refine step_appJ rfl (.tmp 53) (.tmp 55) 46 rfl w4.heap.size 38 i0 (.agg #[.int .u32 0, .int .u32 0, .int .u32 0]) 3 12 Tryz.underlying46 hi hz0 hz1 hz2 rfl (by decide) _ N _ (by simp [Act.eval, Act.put]) O5.out _ (some ⟨_, 0, none⟩) 1 1 (recC r) (by simp [Act.eval, Act.put]) rfl (at_box9 B5.out (Nat.lt_succ_self _)) (recC_one r) (by unfold maxLen; omega) (by omega) k5.size ?_); have KX := k5; intro v6 w6 hown6 hgrow6 hblk6; have k6 : Keeps w4 w6 := Below.grown KX hgrow6 KX.size (fun g hg => (O5.out.lt g hg).1); obtain ⟨A6, c6, rfl, -⟩ := hown6.form; have hb6 := B4.out.keep k6; have y0 := hb6.cell 0 rfl; have y1 := hb6.cell 1 rfl; have y2 := hb6.frozen 1; have O6 := Lib.hid hown6; clear hown6 hgrow6 hblk6))
          all_goals
            have FR := JrAt.fresh (l' := l ++ [r]) (v' := .slice A6 (N + 1) c6) B4.out HG.out J.out.low k6 (by rw [rowsC_snoc, List.length_append]; have := O6.out; rw [← HNN.out] at this ⊢; exact this) (by have := HM.out; simp; omega) (J.out.fine.snoc HR.out HKN.out)
            obtain ⟨J5, U5⟩ := FR
            obtain ⟨H5, D5⟩ := have_turn H4.out U5 D4 (fun i hi => Nat.le_trans hbase (J4.ge i hi))
            have FIN2 := Lib.hid (And.intro J5 (And.intro U5 (And.intro H5 D5)))
            clear J5 U5 H5 D5 hb6 y0 y1 y2 z0 z1 z2
            generalize w6.setCell ⟨j, 1, none⟩ (.slice A6 (N + 1) c6) = w7 at *
            go_wp2_with fail
            go_ret
            exact ⟨rfl, F4, _, FIN2.out.2.2.1, FIN2.out.1, FIN2.out.2.2.2, (both_turn T4.out).trans (both_turn2 FIN2.out.2.1)⟩
        · have hne : ((E2 : Int) != 0) = true := by rw [bne_iff_ne]; omega
          obtain rfl : l = RES := by have := RE.out; rwa [if_neg hE2] at this
          clear hE2 h4 t4
          go_wp2_with fail
          go_ret
          exact wentJ_disk H4.out T4.out J.out DD.out
      · have hne : ((E1 : Int) != 0) = true := by rw [bne_iff_ne]; omega
        have e := (addJ_no HKN.out HM.out HW.out hE1).symm.trans HS.out
        injection e with q1 q2
        subst q1
        subst q2
        obtain rfl : l = RES := by have := RE.out; rwa [if_neg hE1] at this
        clear hE1
        go_wp2_with fail
        go_ret
        exact wentJ_disk H3.out T3.out J.out DD.out
end
end Go.Proofs.YtiohijkelagloaaGreatDoor.Ref
/- What milepostlaw09.meant does, kind by kind. (Written by mkdo9.py.) -/
namespace Go.Proofs.YtiohijkelagloaaGreatDoor.Ref
open Go.RowKit
set_option linter.unusedSimpArgs false
set_option linter.unusedVariables false
set_option maxRecDepth 100000

/-- the journal that is held, or none -/
def JH (w : World) (base b : Nat) (F G : Nat → Prop) (v : Value) (j : Option (List RecS)) : Prop :=
  (v = .pointer none ∧ j = none ∧ ∀ i, ¬ G i) ∨ ∃ a l, v = .pointer (some ⟨a, 0, none⟩) ∧ j = some l ∧ JrAt w base a b G l ∧ ∀ i, G i → ¬ F i
section
variable {w w' : World} {base b : Nat} {F F' G : Nat → Prop} {v : Value} {j : Option (List RecS)}
theorem JH.lt (h : JH w base b F G v j) : ∀ i, G i → i < w.heap.size := fun i hi => by
  rcases h with ⟨-, -, h⟩ | ⟨a, l, -, -, h, -⟩
  · exact absurd hi (h i)
  · exact h.lt i hi
theorem JH.ge (h : JH w base b F G v j) : ∀ i, G i → base ≤ i := fun i hi => by
  rcases h with ⟨-, -, h⟩ | ⟨a, l, -, -, h, -⟩
  · exact absurd hi (h i)
  · exact h.ge i hi
theorem JH.keep (h : JH w base b F G v j) (k : Keeps w w') : JH w' base b F G v j := by
  rcases h with h | ⟨a, l, hv, hj, h, hd⟩
  · exact .inl h
  · exact .inr ⟨a, l, hv, hj, h.keep k, hd⟩
theorem JH.turn (h : JH w base b F G v j) (t : Turns w w' F F') : JH w' base b F' G v j := by
  rcases h with h | ⟨a, l, hv, hj, h, hd⟩
  · exact .inl h
  · exact .inr ⟨a, l, hv, hj, (h.turn t hd).1, (h.turn t hd).2⟩
theorem JH.far {S S' : Nat → Prop} (h : JH w base b F G v j) (t : Turns w w' S S') (hd : ∀ i, G i → ¬ S i) : JH w' base b F G v j := by
  rcases h with h | ⟨a, l, hv, hj, h, hF⟩
  · exact .inl h
  · exact .inr ⟨a, l, hv, hj, h.same (fun i hi => t.only.block i (h.lt i hi) (hd i hi)), hF⟩
end
theorem turn_new {w w' : World} {F F' G G' : Nat → Prop} (t : Turns w w' F F') (hG : ∀ i, G' i → w.heap.size ≤ i) : Turns w w' (fun i => F i ∨ G i) (fun i => F' i ∨ G' i) :=
  ⟨⟨t.only.os, t.only.tape, t.only.output, t.only.size, fun i hi hn => t.only.block i hi (fun e => hn (.inl e))⟩, fun i hi => by
    rcases hi with hi | hi
    · rcases t.next i hi with h | h
      · exact .inl (.inl h)
      · exact .inr h
    · exact .inr (hG i hi)⟩
section
variable {K : DiskOk} {w0 w : World} {b : Nat} {F G : Nat → Prop} {s : Ds} {v : Value} {jl : Option (List RecS)}
def Done9 (K : DiskOk) (w0 w : World) (b : Nat) (F G : Nat → Prop) (r : Ds × Nat × Option (List RecS)) (e : Ending) (w' : World) : Prop :=
  ∃ F' G' v', e = .returned (.tuple #[.int .i64 (r.2.1 : Int), v']) ∧ Have K w0 w' b F' r.1 ∧ JH w' w0.heap.size b F' G' v' r.2.2 ∧ Turns w w' (fun i => F i ∨ G i) (fun i => F' i ∨ G' i)
set_option maxHeartbeats 8000000 in
theorem does9_0 (hZ : K.Z w0) (hs7 : s.l.length ≤ 60000) (h : Have K w0 w b F s) (hj : JH w w0.heap.size b F G v jl) (o : Op9) (ho : Op9Ok w0 o) (hk : o.kind = 0) :
    Calls Tryz.prog 10 #[.pointer (some ⟨b, 0, none⟩), v, .agg (op9C o).toArray] w (Done9 K w0 w b F G (doJ s jl o)) := by
  have k0 := keeps_alloc w (.cells (op9C o).toArray 42)
  have hk0 := h.keep k0
  have K0 := Lib.hid k0
  obtain ⟨s1, E1, l1, hs⟩ : ∃ s1 E1 l1, openJ s = (s1, E1, l1) := ⟨_, _, _, rfl⟩
  rw [doJ_0 hk hs]
  have C := Lib.hid (jrOpen_any hk0 hZ hs7 hs)
  have KP := Lib.hid hk0.kp
  obtain ⟨RES, hRES⟩ : ∃ R : Option (List RecS), (if E1 = 0 then some l1 else none) = R := ⟨_, rfl⟩
  rw [hRES]
  have RE := Lib.hid hRES
  clear hRES
  unfold op9C at *
  rw [hk] at *
  clear hs h hj k0 hk0 ho hZ hs7
  go_enter Tryz.func10, Tryz.ntmps10
  go_wp2_with fail
  refine C.out.mono ?_
  rintro e w1 ⟨F1, h1, t1, ⟨hE, a, G1, rfl, j1, d1⟩ | ⟨hE, rfl⟩⟩
  · subst hE
    have H1 := Lib.hid (And.intro h1 (And.intro t1 (And.intro j1 d1)))
    clear h1 t1 j1 d1
    go_wp2_with fail
    go_returns
    exact ⟨F1, G1, .pointer (some ⟨a, 0, none⟩), rfl, H1.out.1, .inr ⟨a, l1, rfl, by rw [← RE.out]; rfl, H1.out.2.2.1.base_le KP.out.size, H1.out.2.2.2⟩, (Turns.of_keeps K0.out).trans (turn_new H1.out.2.1 H1.out.2.2.1.ge)⟩
  · have H1 := Lib.hid (And.intro h1 (And.intro t1 hE))
    clear h1 t1 hE
    go_wp2_with fail
    go_returns
    exact ⟨F1, fun _ => False, .pointer none, rfl, H1.out.1, .inl ⟨rfl, by rw [← RE.out, if_neg H1.out.2.2], fun _ h => h⟩, (Turns.of_keeps K0.out).trans (turn_new H1.out.2.1 (fun _ h => h.elim))⟩
set_option maxHeartbeats 8000000 in
theorem does9_1n (hZ : K.Z w0) (hs7 : s.l.length ≤ 60000) (h : Have K w0 w b F s) (hG : ∀ i, ¬ G i) (o : Op9) (ho : Op9Ok w0 o) (hk : o.kind = 1) :
    Calls Tryz.prog 10 #[.pointer (some ⟨b, 0, none⟩), .pointer none, .agg (op9C o).toArray] w (Done9 K w0 w b F G (doJ s none o)) := by
  have k0 := keeps_alloc w (.cells (op9C o).toArray 42)
  have hk0 := h.keep k0
  have K0 := Lib.hid k0
  rw [doJ_1n hk]
  have C := Lib.hid (jrAdd_nil o.r (w.alloc (.cells (op9C o).toArray 42)))
  have HH := Lib.hid hk0
  have HG := Lib.hid hG
  unfold recC at C
  unfold op9C at *
  rw [hk] at *
  clear h k0 hk0 ho hZ hG hs7
  go_enter Tryz.func10, Tryz.ntmps10
  go_wp2_with fail
  refine C.out.mono ?_
  rintro e w1 ⟨rfl, k1⟩
  have K1 := Lib.hid k1
  clear k1
  go_wp2_with fail
  go_returns
  exact ⟨F, G, .pointer none, rfl, HH.out.keep K1.out, .inl ⟨rfl, rfl, HG.out⟩, Turns.of_keeps (keeps_trans K0.out K1.out)⟩
set_option maxHeartbeats 8000000 in
theorem does9_1 (hZ : K.Z w0) (hs7 : s.l.length ≤ 60000) (h : Have K w0 w b F s) {a : Nat} {l : List RecS} (ja : JrAt w w0.heap.size a b G l) (da : ∀ i, G i → ¬ F i) (o : Op9) (ho : Op9Ok w0 o) (hk : o.kind = 1) :
    Calls Tryz.prog 10 #[.pointer (some ⟨b, 0, none⟩), .pointer (some ⟨a, 0, none⟩), .agg (op9C o).toArray] w (Done9 K w0 w b F G (doJ s (some l) o)) := by
  have k0 := keeps_alloc w (.cells (op9C o).toArray 42)
  have hk0 := h.keep k0
  have K0 := Lib.hid k0
  obtain ⟨s1, E1, hs⟩ : ∃ s1 E1, addJ s l o.r = (s1, E1) := ⟨_, _, rfl⟩
  rw [doJ_1 hk hs]
  have C := Lib.hid (jrAdd_any hk0 hZ hs7 (ja.keep k0) da (Nat.le_refl _) o.r ho.r hs)
  obtain ⟨RES, hRES⟩ : ∃ R, (if E1 = 0 then l ++ [o.r] else l) = R := ⟨_, rfl⟩
  rw [hRES] at C ⊢
  unfold recC at C
  unfold op9C at *
  rw [hk] at *
  clear hRES hs h ja da k0 hk0 ho hZ hs7
  go_enter Tryz.func10, Tryz.ntmps10
  go_wp2_with fail
  refine C.out.mono ?_
  rintro e w1 ⟨rfl, F1, G1, h1, j1, d1, t1⟩
  have H1 := Lib.hid (And.intro h1 (And.intro j1 (And.intro d1 t1)))
  clear h1 j1 d1 t1
  go_wp2_with fail
  go_returns
  exact ⟨F1, G1, _, rfl, H1.out.1, .inr ⟨a, RES, rfl, rfl, H1.out.2.1, H1.out.2.2.1⟩, (Turns.of_keeps K0.out).trans H1.out.2.2.2⟩
set_option maxHeartbeats 8000000 in
theorem does9_2n (hZ : K.Z w0) (hs7 : s.l.length ≤ 60000) (h : Have K w0 w b F s) (hG : ∀ i, ¬ G i) (o : Op9) (ho : Op9Ok w0 o) (hk : o.kind = 2) :
    Calls Tryz.prog 10 #[.pointer (some ⟨b, 0, none⟩), .pointer none, .agg (op9C o).toArray] w (Done9 K w0 w b F G (doJ s none o)) := by
  have k0 := keeps_alloc w (.cells (op9C o).toArray 42)
  have hk0 := h.keep k0
  have K0 := Lib.hid k0
  rw [doJ_2n hk]
  have C := Lib.hid (jrBack_nil o.n (w.alloc (.cells (op9C o).toArray 42)))
  have HH := Lib.hid hk0
  have HG := Lib.hid hG
  
  unfold op9C at *
  rw [hk] at *
  clear h k0 hk0 ho hZ hG hs7
  go_enter Tryz.func10, Tryz.ntmps10
  go_wp2_with fail
  refine C.out.mono ?_
  rintro e w1 ⟨rfl, k1⟩
  have K1 := Lib.hid k1
  clear k1
  go_wp2_with fail
  go_returns
  exact ⟨F, G, .pointer none, rfl, HH.out.keep K1.out, .inl ⟨rfl, rfl, HG.out⟩, Turns.of_keeps (keeps_trans K0.out K1.out)⟩
set_option maxHeartbeats 8000000 in
theorem does9_2 (hZ : K.Z w0) (hs7 : s.l.length ≤ 60000) (h : Have K w0 w b F s) {a : Nat} {l : List RecS} (ja : JrAt w w0.heap.size a b G l) (da : ∀ i, G i → ¬ F i) (o : Op9) (ho : Op9Ok w0 o) (hk : o.kind = 2) :
    Calls Tryz.prog 10 #[.pointer (some ⟨b, 0, none⟩), .pointer (some ⟨a, 0, none⟩), .agg (op9C o).toArray] w (Done9 K w0 w b F G (doJ s (some l) o)) := by
  have k0 := keeps_alloc w (.cells (op9C o).toArray 42)
  have hk0 := h.keep k0
  have K0 := Lib.hid k0
  obtain ⟨s1, E1, hs⟩ : ∃ s1 E1, backJ s l o.n = (s1, E1) := ⟨_, _, rfl⟩
  rw [doJ_2 hk hs]
  have C := Lib.hid (jrBack_any hk0 hZ hs7 (ja.keep k0) da (Nat.le_refl _) o.n ho.n hs)
  obtain ⟨RES, hRES⟩ : ∃ R, (if E1 = 0 then l.take o.n.toNat else l) = R := ⟨_, rfl⟩
  rw [hRES] at C ⊢
  
  unfold op9C at *
  rw [hk] at *
  clear hRES hs h ja da k0 hk0 ho hZ hs7
  go_enter Tryz.func10, Tryz.ntmps10
  go_wp2_with fail
  refine C.out.mono ?_
  rintro e w1 ⟨rfl, F1, G1, h1, j1, d1, t1⟩
  have H1 := Lib.hid (And.intro h1 (And.intro j1 (And.intro d1 t1)))
  clear h1 j1 d1 t1
  go_wp2_with fail
  go_returns
  exact ⟨F1, G1, _, rfl, H1.out.1, .inr ⟨a, RES, rfl, rfl, H1.out.2.1, H1.out.2.2.1⟩, (Turns.of_keeps K0.out).trans H1.out.2.2.2⟩
set_option maxHeartbeats 8000000 in
theorem does9_3 (hZ : K.Z w0) (hs7 : s.l.length ≤ 60000) (h : Have K w0 w b F s) (hj : JH w w0.heap.size b F G v jl) (o : Op9) (ho : Op9Ok w0 o) (hk : o.kind = 3) :
    Calls Tryz.prog 10 #[.pointer (some ⟨b, 0, none⟩), v, .agg (op9C o).toArray] w (Done9 K w0 w b F G (doJ s jl o)) := by
  have k0 := keeps_alloc w (.cells (op9C o).toArray 42)
  have hk0 := h.keep k0
  have K0 := Lib.hid k0
  obtain ⟨s1, E1, hs⟩ : ∃ s1 E1, armS s o.n = (s1, E1) := ⟨_, _, rfl⟩
  rw [doJ_3 hk hs]
  have C := Lib.hid (hk0.went hs (K.arm o.n (hk0.z hZ) hk0.D (by omega) ho.n.1 ho.n.2))
  have HJ := Lib.hid (hj.keep k0)
  unfold op9C dpt at *
  rw [hk] at *
  clear hs h hj k0 hk0 ho hZ hs7
  go_enter Tryz.func10, Tryz.ntmps10
  go_wp2_with fail
  refine C.out.mono ?_
  rintro e w1 ⟨rfl, F1, h1, t1⟩
  have H1 := Lib.hid (And.intro h1 t1)
  clear h1 t1
  go_wp2_with fail
  go_returns
  exact ⟨F1, G, v, rfl, H1.out.1, HJ.out.turn H1.out.2, (Turns.of_keeps K0.out).trans (both_turn H1.out.2)⟩
set_option maxHeartbeats 8000000 in
theorem does9_7 (hZ : K.Z w0) (hs7 : s.l.length ≤ 60000) (h : Have K w0 w b F s) (hj : JH w w0.heap.size b F G v jl) (o : Op9) (ho : Op9Ok w0 o) (hk : o.kind = 7) :
    Calls Tryz.prog 10 #[.pointer (some ⟨b, 0, none⟩), v, .agg (op9C o).toArray] w (Done9 K w0 w b F G (doJ s jl o)) := by
  have k0 := keeps_alloc w (.cells (op9C o).toArray 42)
  have hk0 := h.keep k0
  have K0 := Lib.hid k0
  obtain ⟨s1, E1, hs⟩ : ∃ s1 E1, quotaS s o.n = (s1, E1) := ⟨_, _, rfl⟩
  rw [doJ_7 hk hs]
  have C := Lib.hid (hk0.went hs (K.quota o.n (hk0.z hZ) hk0.D (by omega) ho.n.1 ho.n.2))
  have HJ := Lib.hid (hj.keep k0)
  unfold op9C dpt at *
  rw [hk] at *
  clear hs h hj k0 hk0 ho hZ hs7
  go_enter Tryz.func10, Tryz.ntmps10
  go_wp2_with fail
  refine C.out.mono ?_
  rintro e w1 ⟨rfl, F1, h1, t1⟩
  have H1 := Lib.hid (And.intro h1 t1)
  clear h1 t1
  go_wp2_with fail
  go_returns
  exact ⟨F1, G, v, rfl, H1.out.1, HJ.out.turn H1.out.2, (Turns.of_keeps K0.out).trans (both_turn H1.out.2)⟩
set_option maxHeartbeats 8000000 in
theorem does9_6 (hZ : K.Z w0) (hs7 : s.l.length ≤ 60000) (h : Have K w0 w b F s) (hj : JH w w0.heap.size b F G v jl) (o : Op9) (ho : Op9Ok w0 o) (hk : o.kind = 6) :
    Calls Tryz.prog 10 #[.pointer (some ⟨b, 0, none⟩), v, .agg (op9C o).toArray] w (Done9 K w0 w b F G (doJ s jl o)) := by
  have k0 := keeps_alloc w (.cells (op9C o).toArray 42)
  have hk0 := h.keep k0
  have K0 := Lib.hid k0
  obtain ⟨s1, E1, hs⟩ : ∃ s1 E1, flipS s nmJ o.n o.m = (s1, E1) := ⟨_, _, rfl⟩
  rw [doJ_6 hk hs]
  have C := Lib.hid (hk0.went hs (K.flip nmJ o.n o.m (hk0.z hZ) hk0.D (by omega) (by decide) ho.n.1 ho.n.2))
  have HJ := Lib.hid (hj.keep k0)
  unfold op9C dpt strV at *
  rw [strJ] at C
  rw [hk] at *
  clear hs h hj k0 hk0 ho hZ hs7
  go_enter Tryz.func10, Tryz.ntmps10
  go_wp2_with fail
  refine C.out.mono ?_
  rintro e w1 ⟨rfl, F1, h1, t1⟩
  have H1 := Lib.hid (And.intro h1 t1)
  clear h1 t1
  go_wp2_with fail
  go_returns
  exact ⟨F1, G, v, rfl, H1.out.1, HJ.out.turn H1.out.2, (Turns.of_keeps K0.out).trans (both_turn H1.out.2)⟩
set_option maxHeartbeats 8000000 in
theorem does9_4 (hZ : K.Z w0) (hs7 : s.l.length ≤ 60000) (h : Have K w0 w b F s) (hj : JH w w0.heap.size b F G v jl) (o : Op9) (ho : Op9Ok w0 o) (hk : o.kind = 4) (hfew : o.kl ≤ 32768) :
    Calls Tryz.prog 10 #[.pointer (some ⟨b, 0, none⟩), v, .agg (op9C o).toArray] w (Done9 K w0 w b F G (doJ s jl o)) := by
  have k0 := keeps_alloc w (.cells (op9C o).toArray 42)
  have hk0 := h.keep k0
  have K0 := Lib.hid k0
  obtain ⟨s1, E1, hs⟩ : ∃ s1 E1, onS s o.ks = (s1, E1) := ⟨_, _, rfl⟩
  rw [doJ_4 hk hs]
  have C := Lib.hid (hk0.went hs (K.on o.KA o.kl o.kc o.ks (hk0.z hZ) hk0.D (by omega) (ho.k.low hk0.kp) (fun ad ha hne => At.notIn ho.k hk0.low (fun e => hne (by cases hks : o.ks with | nil => rfl | cons x r => rw [hks] at e; simp [intC] at e)) ad ha) ho.kl ho.kc (by omega)))
  have HJ := Lib.hid (hj.keep k0)
  unfold op9C dpt at *
  rw [hk] at *
  clear hs h hj k0 hk0 ho hZ hs7 hfew
  go_enter Tryz.func10, Tryz.ntmps10
  go_wp2_with fail
  refine C.out.mono ?_
  rintro e w1 ⟨rfl, F1, h1, t1⟩
  have H1 := Lib.hid (And.intro h1 t1)
  clear h1 t1
  go_wp2_with fail
  go_returns
  exact ⟨F1, G, v, rfl, H1.out.1, HJ.out.turn H1.out.2, (Turns.of_keeps K0.out).trans (both_turn H1.out.2)⟩
set_option maxHeartbeats 8000000 in
theorem does9_5 (hZ : K.Z w0) (hs7 : s.l.length ≤ 60000) (h : Have K w0 w b F s) (hj : JH w w0.heap.size b F G v jl) (o : Op9) (ho : Op9Ok w0 o) (hk : o.kind = 5) (hfew : o.bl ≤ 32768) :
    Calls Tryz.prog 10 #[.pointer (some ⟨b, 0, none⟩), v, .agg (op9C o).toArray] w (Done9 K w0 w b F G (doJ s jl o)) := by
  have k0 := keeps_alloc w (.cells (op9C o).toArray 42)
  have hk0 := h.keep k0
  have K0 := Lib.hid k0
  obtain ⟨s1, E1, hs⟩ : ∃ s1 E1, writeS s nmJ o.n o.bs = (s1, E1) := ⟨_, _, rfl⟩
  rw [doJ_5 hk hs]
  have C := Lib.hid (hk0.went hs (K.write nmJ o.n o.BA o.bl o.bc o.bs (hk0.z hZ) hk0.D (by omega) (by decide) ho.n.1 ho.n.2 (ho.b.low hk0.kp) (fun ad ha hne => At.notIn ho.b hk0.low (fun e => hne (by cases hbs : o.bs with | nil => rfl | cons x r => rw [hbs] at e; simp [cel] at e)) ad ha) ho.bl ho.bc (by omega)))
  have HJ := Lib.hid (hj.keep k0)
  unfold op9C dpt strV at *
  rw [strJ] at C
  rw [hk] at *
  clear hs h hj k0 hk0 ho hZ hs7 hfew
  go_enter Tryz.func10, Tryz.ntmps10
  go_wp2_with fail
  refine C.out.mono ?_
  rintro e w1 ⟨rfl, F1, h1, t1⟩
  have H1 := Lib.hid (And.intro h1 t1)
  clear h1 t1
  go_wp2_with fail
  go_returns
  exact ⟨F1, G, v, rfl, H1.out.1, HJ.out.turn H1.out.2, (Turns.of_keeps K0.out).trans (both_turn H1.out.2)⟩
set_option maxHeartbeats 8000000 in
theorem does9_8 (hZ : K.Z w0) (hs7 : s.l.length ≤ 60000) (h : Have K w0 w b F s) (hj : JH w w0.heap.size b F G v jl) (o : Op9) (ho : Op9Ok w0 o) (hk : ¬ (0 ≤ o.kind ∧ o.kind ≤ 7)) :
    Calls Tryz.prog 10 #[.pointer (some ⟨b, 0, none⟩), v, .agg (op9C o).toArray] w (Done9 K w0 w b F G (doJ s jl o)) := by
  have k0 := keeps_alloc w (.cells (op9C o).toArray 42)
  have hk0 := h.keep k0
  have K0 := Lib.hid k0
  rw [doJ_8 hk]
  have HH := Lib.hid hk0
  have HJ := Lib.hid (hj.keep k0)
  have e0 : (o.kind == 0) = false := by rw [beq_eq_false_iff_ne]; omega
  have e1 : (o.kind == 1) = false := by rw [beq_eq_false_iff_ne]; omega
  have e2 : (o.kind == 2) = false := by rw [beq_eq_false_iff_ne]; omega
  have e3 : (o.kind == 3) = false := by rw [beq_eq_false_iff_ne]; omega
  have e4 : (o.kind == 4) = false := by rw [beq_eq_false_iff_ne]; omega
  have e5 : (o.kind == 5) = false := by rw [beq_eq_false_iff_ne]; omega
  have e6 : (o.kind == 6) = false := by rw [beq_eq_false_iff_ne]; omega
  have e7 : (o.kind == 7) = false := by rw [beq_eq_false_iff_ne]; omega
  unfold op9C at *
  clear hk h hj k0 hk0 ho hZ hs7
  go_enter Tryz.func10, Tryz.ntmps10
  go_wp2_with fail
  go_returns
  exact ⟨F, G, v, rfl, HH.out, HJ.out, Turns.of_keeps K0.out⟩
theorem does9_any (hZ : K.Z w0) (hs7 : s.l.length ≤ 60000) (h : Have K w0 w b F s) (hj : JH w w0.heap.size b F G v jl) (o : Op9) (ho : Op9Ok w0 o) (hkl : o.kl ≤ 32768) (hbl : o.bl ≤ 32768) :
    Calls Tryz.prog 10 #[.pointer (some ⟨b, 0, none⟩), v, .agg (op9C o).toArray] w (Done9 K w0 w b F G (doJ s jl o)) := by
  by_cases h0 : o.kind = 0
  · exact does9_0 hZ hs7 h hj o ho h0
  by_cases h1 : o.kind = 1
  · rcases hj with ⟨rfl, rfl, hG⟩ | ⟨a, l, rfl, rfl, ja, da⟩
    · exact does9_1n hZ hs7 h hG o ho h1
    · exact does9_1 hZ hs7 h ja da o ho h1
  by_cases h2 : o.kind = 2
  · rcases hj with ⟨rfl, rfl, hG⟩ | ⟨a, l, rfl, rfl, ja, da⟩
    · exact does9_2n hZ hs7 h hG o ho h2
    · exact does9_2 hZ hs7 h ja da o ho h2
  by_cases h3 : o.kind = 3
  · exact does9_3 hZ hs7 h hj o ho h3
  by_cases h4 : o.kind = 4
  · exact does9_4 hZ hs7 h hj o ho h4 hkl
  by_cases h5 : o.kind = 5
  · exact does9_5 hZ hs7 h hj o ho h5 hbl
  by_cases h6 : o.kind = 6
  · exact does9_6 hZ hs7 h hj o ho h6
  by_cases h7 : o.kind = 7
  · exact does9_7 hZ hs7 h hj o ho h7
  · exact does9_8 hZ hs7 h hj o ho (by omega)
end
end Go.Proofs.YtiohijkelagloaaGreatDoor.Ref
