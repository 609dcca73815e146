/- What Add of package journal answers. -/
import Derived.Test.YtiohijkelagloaaGreatDoorQJr
namespace Go.Proofs.YtiohijkelagloaaGreatDoor
open Go.RowKit
set_option linter.unusedSimpArgs false
set_option linter.unusedVariables false
set_option maxRecDepth 100000

section
variable {K : DiskOk} {w0 w : World} {b : Nat} {F G : Nat → Prop} {s : Ds} {base j : Nat} {l : List RecS}
/-- an error, the disk's turn and the journal's -/
def WentJ (K : DiskOk) (w0 w : World) (b : Nat) (F G : Nat → Prop) (base j : Nat) (s' : Ds) (E : Nat) (l' : List RecS) (e : Ending) (w' : World) : Prop :=
  e = .returned (.int .i64 (E : Int)) ∧ ∃ F' G', Have K w0 w' b F' s' ∧ JrAt w' base j b G' l' ∧ (∀ i, G' i → ¬ F' i) ∧ Turns w w' (fun i => F i ∨ G i) (fun i => F' i ∨ G' i)
theorem both_turn {w1 w2 : World} {F F' G : Nat → Prop} (t : Turns w1 w2 F F') : Turns w1 w2 (fun i => F i ∨ G i) (fun i => F' i ∨ G i) :=
  ⟨⟨t.only.os, t.only.tape, t.only.output, t.only.size, fun i hi hn => t.only.block i hi (fun e => hn (.inl e))⟩, fun i hi => by
    rcases hi with hi | hi
    · rcases t.next i hi with h | h
      · exact .inl (.inl h)
      · exact .inr h
    · exact .inl (.inr hi)⟩
/-- only the disk has turned -/
theorem wentJ_disk {w1 : World} {s' : Ds} {E : Nat} {F' : Nat → Prop} (h : Have K w0 w1 b F' s') (t : Turns w w1 F F') (hj : JrAt w base j b G l) (hd : ∀ i, G i → ¬ F i) : WentJ K w0 w b F G base j s' E l (.returned (.int .i64 (E : Int))) w1 := by
  obtain ⟨j1, d1⟩ := hj.turn t hd
  exact ⟨rfl, F', G, h, j1, d1, both_turn t⟩
/-- a record stands behind the others -/
theorem JrAt.pushed {w1 w2 w3 : World} {r : RecS} {A A' : Option Addr} {c c' : Nat} (hj : JrAt w1 base j b G l) (hbx : Box w1 j 88 #[.pointer (some ⟨b, 0, none⟩), .slice A l.length c]) (hG : ∀ i, G i ↔ (i = j ∨ (Value.slice A l.length c).ownBlock = some i))
    (k : Keeps w1 w2) (hown : Own w3 base 38 3 (.slice A' (l.length + 1) c') (l.length + 1) (rowsC l ++ recC r)) (hgrow : w2.grownBy w3 (Value.slice A l.length c).ownBlock) (hblk : (Value.slice A' (l.length + 1) c').ownBlock = (Value.slice A l.length c).ownBlock ∨ (Value.slice A' (l.length + 1) c').ownBlock = some w2.heap.size)
    (hne : (Value.slice A l.length c).ownBlock ≠ some j) (hl : l.length < 65536) (hr : RecOk r) (hk : r.kind ≠ 0) :
    JrAt (w3.setCell ⟨j, 1, none⟩ (.slice A' (l.length + 1) c')) base j b (fun i => i = j ∨ (Value.slice A' (l.length + 1) c').ownBlock = some i) (l ++ [r]) ∧
      Turns w1 (w3.setCell ⟨j, 1, none⟩ (.slice A' (l.length + 1) c')) G (fun i => i = j ∨ (Value.slice A' (l.length + 1) c').ownBlock = some i) := by
  have hj3 : Box w3 j 88 #[.pointer (some ⟨b, 0, none⟩), .slice A l.length c] := (hgrow.block j (Nat.lt_of_lt_of_le hbx.lt k.size) (fun e => hne e.symm)).trans (hbx.keep k)
  have hne' : (Value.slice A' (l.length + 1) c').ownBlock ≠ some j := by
    rcases hblk with e | e
    · rw [e]; exact hne
    · rw [e]
      intro h
      injection h with h
      have := hbx.lt
      have := k.size
      omega
  refine ⟨⟨⟨_, by simpa using hj3.set 1 (.slice A' (l.length + 1) c'), ?_, fun i => Iff.rfl⟩, hj.low, by simp; omega, hj.fine.snoc hr hk⟩, ⟨⟨hgrow.os.trans k.os, hgrow.tape.trans k.tape, hgrow.output.trans k.output, ?_, fun i hi hn => ?_⟩, fun i hi => ?_⟩⟩
  · rw [rowsC_snoc, List.length_append]
    exact hown.same fun g hg => Below.heap_setCell _ ⟨j, 1, none⟩ _ g (fun e => hne' (by rw [hg, e]))
  · simp only [World.size_setCell]
    have := k.size
    have := hgrow.size
    omega
  · have h1 : i ≠ j := fun e => hn ((hG i).2 (.inl e))
    have h2 : ¬ some i = (Value.slice A l.length c).ownBlock := fun e => hn ((hG i).2 (.inr e.symm))
    rw [Below.heap_setCell _ ⟨j, 1, none⟩ _ i h1, hgrow.block i (by have := k.size; omega) h2]
    exact k.block i hi
  · rcases hi with rfl | hi
    · exact .inl ((hG _).2 (.inl rfl))
    · rcases hblk with e | e
      · exact .inl ((hG i).2 (.inr (by rw [← e]; exact hi)))
      · rw [e] at hi
        injection hi with hi
        right
        have := k.size
        omega
theorem both_turn2 {w1 w2 : World} {F G G' : Nat → Prop} (t : Turns w1 w2 G G') : Turns w1 w2 (fun i => F i ∨ G i) (fun i => F i ∨ G' i) :=
  ⟨⟨t.only.os, t.only.tape, t.only.output, t.only.size, fun i hi hn => t.only.block i hi (fun e => hn (.inr e))⟩, fun i hi => by
    rcases hi with hi | hi
    · exact .inl (.inl hi)
    · rcases t.next i hi with h | h
      · exact .inl (.inr h)
      · exact .inr h⟩
/-- what the journal alone turns leaves the disk as it was -/
theorem have_turn {w1 w2 : World} {F G G' : Nat → Prop} (h : Have K w0 w1 b F s) (t : Turns w1 w2 G G') (hd : ∀ i, G i → ¬ F i) (hg : ∀ i, G i → w0.heap.size ≤ i) : Have K w0 w2 b F s ∧ ∀ i, G' i → ¬ F i :=
  ⟨⟨K.same h.D (fun i hi => t.only.block i (K.lt h.D i hi) (fun e => hd i e hi)) t.only.size, h.low, t.keeps h.kp hg⟩, fun i hi hf => by
    rcases t.next i hi with e | e
    · exact hd i e hf
    · have := K.lt h.D i hf
      omega⟩
theorem JrAt.ne {v : Value} (hbx : Box w j 88 #[.pointer (some ⟨b, 0, none⟩), v]) (ho : Own w base 38 3 v l.length (rowsC l)) : v.ownBlock ≠ some j := by
  rcases ho.2 with ⟨rfl, _⟩ | ⟨g, cap, cur, fz, rfl, _, hg, _⟩
  · simp [Value.ownBlock]
  · intro h
    simp only [Value.ownBlock, Option.some.injEq] at h
    subst h
    rw [show w.heap[g]? = _ from hbx] at hg
    injection hg with hg
    injection hg with _ ht
    exact absurd ht (by decide)
set_option maxHeartbeats 16000000 in
theorem jrAdd_any (h : Have K w0 w b F s) (hZ : K.Z w0) (hS : Sizes w0) (hj : JrAt w base j b G l) (hd : ∀ i, G i → ¬ F i) (hbase : w0.heap.size ≤ base) (r : RecS) (hr : RecOk r) {s' : Ds} {E : Nat} (hs : addJ s l r = (s', E)) :
    Calls Tryz.prog 23 #[.pointer (some ⟨j, 0, none⟩), .agg (recC r).toArray] w (WentJ K w0 w b F G base j s' E (if E = 0 then l ++ [r] else l)) := by
  obtain ⟨RES, hRES⟩ : ∃ R, (if E = 0 then l ++ [r] else l) = R := ⟨_, rfl⟩
  rw [hRES]
  have RE := Lib.hid hRES
  clear hRES
  have k0 := keeps_alloc w (.cells (recC r).toArray 38)
  have BX := Box.new w 38 (recC r).toArray
  have x0 := BX.cell 0 (v := .int .u32 (r.kind : Int)) (by simp [recC])
  have HS := Lib.hid hs
  have H := Lib.hid h
  have J := Lib.hid hj
  have DD := Lib.hid hd
  have K0 := Lib.hid k0
  by_cases hk : r.kind = 0
  · have e := (addJ_none (s := s) (l := l) hk).symm.trans hs
    injection e with q1 q2
    subst q1
    subst q2
    obtain rfl : l = RES := by have := RE.out; rwa [if_neg (by decide)] at this
    have hkk : ((r.kind : Int) == 0) = true := by rw [beq_iff_eq]; omega
    clear h hZ hS hj hd hs hk
    unfold recC at *
    go_enter Tryz.func23, Tryz.ntmps23
    go_wp2_with fail
    go_ret
    exact wentJ_disk (H.out.keep K0.out) (Turns.of_keeps K0.out) J.out DD.out
  · have hkk : ((r.kind : Int) == 0) = false := by rw [beq_eq_false_iff_ne]; omega
    obtain ⟨v, hb, ho, hG⟩ := hj.row
    obtain ⟨A, c, rfl, -⟩ := ho.form
    have HNE := Lib.hid (JrAt.ne hb ho)
    have HB := Lib.hid hb
    have HO := Lib.hid ho
    have HG := Lib.hid hG
    have b0 := hb.keep k0
    have c0 := b0.cell 0 rfl
    have c1 := b0.cell 1 rfl
    have f1 := b0.frozen 1
    obtain ⟨N, hN⟩ : ∃ N, l.length = N := ⟨_, rfl⟩
    have hNb := hj.len
    rw [hN] at hNb
    by_cases hm : 65536 ≤ N
    · have e := (addJ_many (s := s) hk (by omega : 65536 ≤ l.length)).symm.trans hs
      injection e with q1 q2
      subst q1
      subst q2
      obtain rfl : l = RES := by have := RE.out; rwa [if_neg (by decide)] at this
      have hge : decide ((65536 : Int) ≤ (N : Int)) = true := decide_eq_true (by omega)
      have hge2 : decide (65536 ≤ N) = true := decide_eq_true hm
      have hge3 := Lib.hid hm
      rw [hN] at c1
      clear h hZ hS hj hd hs hk hm hNb hb ho hG b0 hN
      unfold recC at *
      go_enter Tryz.func23, Tryz.ntmps23
      go_wp2_with fail
      go_ret
      exact wentJ_disk (H.out.keep K0.out) (Turns.of_keeps K0.out) J.out DD.out
    · have hge : decide ((65536 : Int) ≤ (N : Int)) = false := decide_eq_false (by omega)
      have hge2 : decide (65536 ≤ N) = false := decide_eq_false hm
      have HM := Lib.hid (show l.length < 65536 by omega)
      obtain ⟨s1, E1, hw⟩ : ∃ s1 E1, writeS s nmJ ((64 * l.length : Nat) : Int) (sectB (l.length + 1) r) = (s1, E1) := ⟨_, _, rfl⟩
      have HW := Lib.hid hw
      have HKN := Lib.hid hk
      rw [hN] at hw
      have HNN := Lib.hid hN
      obtain ⟨off, hoff⟩ : ∃ off, 64 * N = off := ⟨_, rfl⟩
      rw [hoff] at hw
      have hmul : (N : Int) * 64 = (off : Int) := by omega
      have hob : (off : Int) ≤ 4194304 := by omega
      have hnb : (N : Int) ≤ 65535 := by omega
      have SL := Lib.hid (sectB_length (N + 1) r)
      have SE := Lib.hid (fun (V : World) (kk : Keeps w V) => jsector_any (N + 1) r V ((sizes_have hS h).keep kk) hr (by omega))
      have WR := Lib.hid (fun (V : World) (kk : Keeps w V) (A3 : Option Addr) (c3 : Nat) (o : Own V w.heap.size 5 1 (.slice A3 64 c3) 64 (cel (sectB (N + 1) r))) =>
        (h.keep kk).went hw (K.write nmJ (off : Int) A3 64 c3 (sectB (N + 1) r) ((h.keep kk).z hZ) (h.keep kk).D (by decide) (by omega) (by omega) o.at_ (fun ad ha hf => by
          obtain ⟨A', c', hv, hc', hm', -, hb'⟩ := o.form
          injection hv with h3 h4 h5
          subst h3
          have h6 := (hb' ad ha).2.1
          have h7 := K.lt h.D _ hf
          omega) SL.out.symm o.capj.1 (by decide)))
      have HZ := Lib.hid hZ
      have HR := Lib.hid hr
      unfold dpt strV at WR
      rw [strJ] at WR
      obtain ⟨N1, hN1⟩ : ∃ N1, N + 1 = N1 := ⟨_, rfl⟩
      rw [hN1] at SL SE WR
      have hsum : (N : Int) + 1 = (N1 : Int) := by omega
      have hwr1 : IntKind.i64.wrap (N1 : Int) = (N1 : Int) := IntWalk.i64_in _ (by omega)
      have hwr2 : IntKind.i64.wrap (off : Int) = (off : Int) := IntWalk.i64_in _ (by omega)
      rw [hN] at c1
      generalize sectB N1 r = sb at *
      clear hN1
      clear h hZ hS hj hd hs hk hm hNb hb ho hG b0 hw hoff
      have XB := Lib.hid BX
      have x1 := BX.cell 1 (v := .int .u32 (r.a : Int)) (by simp [recC])
      have x2 := BX.cell 2 (v := .int .u32 (r.b : Int)) (by simp [recC])
      unfold recC at *
      go_enter Tryz.func23, Tryz.ntmps23
      go_wp2_with fail
      have CF := Lib.hid (show ∀ V : World, (Box V j 88 #[.pointer (some ⟨b, 0, none⟩), .slice A l.length c]) → (Box V w.heap.size 38 #[.int .u32 (r.kind : Int), .int .u32 (r.a : Int), .int .u32 (r.b : Int)]) → V.cell? ⟨j, 0, none⟩ = some (.pointer (some ⟨b, 0, none⟩)) ∧ V.cell? ⟨j, 1, none⟩ = some (.slice A N c) ∧ V.cell? ⟨w.heap.size, 0, none⟩ = some (.int .u32 (r.kind : Int)) ∧ V.cell? ⟨w.heap.size, 1, none⟩ = some (.int .u32 (r.a : Int)) ∧ V.cell? ⟨w.heap.size, 2, none⟩ = some (.int .u32 (r.b : Int)) from fun V h1 h2 => ⟨h1.cell 0 rfl, by rw [← HNN.out]; exact h1.cell 1 rfl, h2.cell 0 rfl, h2.cell 1 rfl, h2.cell 2 rfl⟩)
      have CK := Lib.hid (show ∀ V : World, Keeps (w.alloc (.cells #[.int .u32 (r.kind : Int), .int .u32 (r.a : Int), .int .u32 (r.b : Int)] 38)) V → V.cell? ⟨j, 0, none⟩ = some (.pointer (some ⟨b, 0, none⟩)) ∧ V.cell? ⟨j, 1, none⟩ = some (.slice A N c) ∧ V.cell? ⟨w.heap.size, 0, none⟩ = some (.int .u32 (r.kind : Int)) ∧ V.cell? ⟨w.heap.size, 1, none⟩ = some (.int .u32 (r.a : Int)) ∧ V.cell? ⟨w.heap.size, 2, none⟩ = some (.int .u32 (r.b : Int)) from fun V k => CF.out V ((HB.out.keep K0.out).keep k) (XB.out.keep k))
      go_region_held3 (fun V => V.cell? ⟨j, 0, none⟩ = some (.pointer (some ⟨b, 0, none⟩)) ∧ V.cell? ⟨j, 1, none⟩ = some (.slice A N c) ∧ V.cell? ⟨w.heap.size, 0, none⟩ = some (.int .u32 (r.kind : Int)) ∧ V.cell? ⟨w.heap.size, 1, none⟩ = some (.int .u32 (r.a : Int)) ∧ V.cell? ⟨w.heap.size, 2, none⟩ = some (.int .u32 (r.b : Int))) (first | assumption | exact CK.out _ (by first | exact keeps_drew _ | assumption)) (first
        | (go_at_call 70; refine (SE.out _ (keeps_trans K0.out (keeps_drew _))).mono ?_; rintro ee w2 ⟨v2, rfl, o2, k2⟩; rw [SL.out] at o2; obtain ⟨A2, c2, rfl, -⟩ := o2.form; have K2 := Lib.hid (keeps_trans (keeps_drew (w.alloc (.cells #[.int .u32 (r.kind : Int), .int .u32 (r.a : Int), .int .u32 (r.b : Int)] 38))) k2); have O2 := Lib.hid (o2.base_le (keeps_trans K0.out (keeps_drew _)).size); have s2 := CK.out w2 K2.out; clear k2 o2)
        | (go_at_call 28; refine (WR.out _ (keeps_trans K0.out K2.out) _ _ O2.out).mono ?_; rintro ee w3 ⟨rfl, F3, h3, t3⟩; have B3 := Lib.hid (Box.turned ((HB.out.keep K0.out).keep K2.out) t3 (DD.out j ((HG.out j).2 (.inl rfl)))); have R3 := Lib.hid (Box.turned (XB.out.keep K2.out) t3 (fun e => by have := K.lt H.out.D _ e; omega)); have s3 := CF.out w3 B3.out R3.out; have H3 := Lib.hid h3; have T3 := Lib.hid ((Turns.of_keeps (S := F) (keeps_trans K0.out K2.out)).trans t3); have NR3 := Lib.hid (t3.notIn (XB.out.keep K2.out).lt (fun e => by have := K.lt H.out.D _ e; omega)); clear h3 t3))
      by_cases hE1 : E1 = 0
      · subst hE1
        have e1 : ((0 : Int) != 0) = false := rfl
        obtain ⟨sy, E2, hsy⟩ : ∃ sy E2, syncS s1 nmJ = (sy, E2) := ⟨_, _, rfl⟩
        have e := (addJ_go HKN.out HM.out HW.out hsy).symm.trans HS.out
        injection e with q1 q2
        subst q1
        subst q2
        have SY := Lib.hid (H3.out.went hsy (K.sync nmJ (H3.out.z HZ.out) H3.out.D (by decide)))
        unfold dpt strV at SY
        rw [strJ] at SY
        clear hsy
        have q0 := B3.out.cell 0 rfl
        clear c0 c1 f1 x0 x1 x2
        go_wp2_with fail
        refine SY.out.mono ?_
        rintro e w4 ⟨rfl, F4, h4, t4⟩
        have T4 := Lib.hid (T3.out.trans t4)
        have H4 := Lib.hid h4
        by_cases hE2 : E2 = 0
        · subst hE2
          obtain rfl : l ++ [r] = RES := by have := RE.out; rwa [if_pos rfl] at this
          obtain ⟨J4, D4⟩ := J.out.turn T4.out DD.out
          have B4 := Lib.hid (B3.out.turned t4 (T3.out.notIn HB.out.lt (DD.out j ((HG.out j).2 (.inl rfl)))))
          have R4 := Lib.hid (R3.out.turned t4 NR3.out)
          obtain ⟨i0, hi, hz0, hz1, hz2⟩ := info_parts infoRec
          have O4 := Lib.hid (show Own w4 base 38 3 (.slice A N c) N (rowsC l) by
            have := HO.out.turns T4.out (fun k hk => DD.out k ((HG.out k).2 (.inr hk)))
            rwa [HNN.out] at this)
          have r0 := R4.out.cell 0 rfl
          have r1 := R4.out.cell 1 rfl
          have r2 := R4.out.cell 2 rfl
          have z0 := B4.out.cell 0 rfl
          have z1 : w4.cell? ⟨j, 1, none⟩ = some (.slice A N c) := by have := B4.out.cell 1 rfl; rw [← HNN.out]; exact this
          have z2 := B4.out.frozen 1
          have lj := B4.out.lt
          have ne4 : (Value.slice A N c).ownBlock ≠ some j := by rw [← HNN.out]; exact HNE.out
          have NE4 := Lib.hid ne4
          have LOW := Lib.hid (show base ≤ w4.heap.size from Nat.le_trans J4.low (Nat.le_of_lt lj))
          clear q0 ne4 h4 t4 e1
          go_wp2_with fail
          go_region_law ((refine step_appJ rfl (.tmp 53) (.tmp 55) 46 rfl base 38 i0 (.agg #[.int .u32 0, .int .u32 0, .int .u32 0]) 3 12 Tryz.underlying46 hi hz0 hz1 hz2 rfl (by decide) (.slice A N c) N (rowsC l) (by simp [Act.eval, Act.put]) (O4.out.keep (keeps_trans (keeps_drew _) (keeps_alloc _ _))) _ _ 1 1 (recC r) (by simp [Act.eval, Act.put]) rfl (At.new _ _ _ _ (Nat.lt_succ_self _)) (recC_one r) (by unfold maxLen; omega) (by omega) (by have := LOW.out; simp; omega) ?_); intro v' w5 hown' hgrow hblk; obtain ⟨A', cap', rfl, -⟩ := hown'.form; have hb3 : Box w5 j 88 #[.pointer (some ⟨b, 0, none⟩), .slice A l.length c] := (hgrow.block j (by simp; omega) (fun e => NE4.out e.symm)).trans (B4.out.keep (keeps_trans (keeps_drew _) (keeps_alloc _ _))); have y0 := hb3.cell 0 rfl; have y1 := hb3.cell 1 rfl; have y2 := hb3.frozen 1)
          all_goals
            obtain rfl := HNN.out
            have FIN := JrAt.pushed (w1 := w4) (r := r) J4 B4.out HG.out (by first | exact keeps_trans (keeps_alloc _ _) (keeps_drew _) | exact keeps_trans (keeps_drew _) (keeps_alloc _ _)) hown' hgrow hblk NE4.out HM.out HR.out HKN.out
            obtain ⟨J5, U5⟩ := FIN
            obtain ⟨H5, D5⟩ := have_turn H4.out U5 D4 (fun i hi => Nat.le_trans hbase (J4.ge i hi))
            have FIN2 := Lib.hid (And.intro J5 (And.intro U5 (And.intro H5 D5)))
            clear J5 U5 H5 D5 hown' hgrow hblk hb3 y0 y1 y2 z0 z1 z2
            generalize w5.setCell ⟨j, 1, none⟩ (.slice A' (l.length + 1) cap') = w6 at *
            go_wp2_with fail
            go_ret
            exact ⟨rfl, F4, _, FIN2.out.2.2.1, FIN2.out.1, FIN2.out.2.2.2, (both_turn T4.out).trans (both_turn2 FIN2.out.2.1)⟩
        · have hne : ((E2 : Int) != 0) = true := by rw [bne_iff_ne]; omega
          obtain rfl : l = RES := by have := RE.out; rwa [if_neg hE2] at this
          clear hE2 h4 t4
          go_wp2_with fail
          go_ret
          exact wentJ_disk H4.out T4.out J.out DD.out
      · have hne : ((E1 : Int) != 0) = true := by rw [bne_iff_ne]; omega
        have e := (addJ_no HKN.out HM.out HW.out hE1).symm.trans HS.out
        injection e with q1 q2
        subst q1
        subst q2
        obtain rfl : l = RES := by have := RE.out; rwa [if_neg hE1] at this
        clear hE1
        go_wp2_with fail
        go_ret
        exact wentJ_disk H3.out T3.out J.out DD.out
end
end Go.Proofs.YtiohijkelagloaaGreatDoor
/- What Back of package journal answers; and what all of it answers of no journal, and of no disk. -/
namespace Go.Proofs.YtiohijkelagloaaGreatDoor
open Go.RowKit
set_option linter.unusedSimpArgs false
set_option linter.unusedVariables false
set_option maxRecDepth 100000

theorem own_front {w : World} {base : Nat} {e : TypeId} {size : Nat} {A : Option Addr} {n c k : Nat} {xs : List Value} (h : Own w base e size (.slice A n c) n xs) (hk : k ≤ n) : Own w base e size (.slice A k c) k (xs.take (k * size)) := by
  refine ⟨by rw [List.length_take, h.1]; exact Nat.min_eq_left (Nat.mul_le_mul_right _ hk), ?_⟩
  rcases h.2 with ⟨hv, h0⟩ | ⟨g, cap, cur, fz, hv, hbg, hg, hz, h1, h2, h3, h4⟩
  · injection hv with e1 e2 e3
    subst e1
    subst e3
    left
    have : k = 0 := by omega
    subst this
    exact ⟨rfl, rfl⟩
  · injection hv with e1 e2 e3
    subst e1
    subst e3
    right
    refine ⟨g, c, cur, fz, rfl, hbg, hg, hz, Nat.le_trans hk h1, h2, h3, ?_⟩
    rw [← h4, List.take_take, Nat.min_eq_left (Nat.mul_le_mul_right _ hk)]
theorem rowsC_take (l : List RecS) (k : Nat) : rowsC (l.take k) = (rowsC l).take (k * 3) := by
  induction l generalizing k with
  | nil => simp [rowsC]
  | cons r l ih =>
    cases k with
    | zero => simp [rowsC]
    | succ k =>
      have h := ih k
      have e : (k + 1) * 3 = 3 + k * 3 := by omega
      simp only [List.take_succ_cons, rowsC, List.flatMap_cons] at h ⊢
      rw [h, e, List.take_append, recC_length]
      have e2 : (recC r).take (3 + k * 3) = recC r := List.take_of_length_le (by rw [recC_length]; omega)
      rw [e2, Nat.add_sub_cancel_left]
theorem block_len {A : Option Addr} {n k c : Nat} : (Value.slice A n c).ownBlock = (Value.slice A k c).ownBlock := by
  cases A <;> rfl
section
variable {K : DiskOk} {w0 w : World} {b : Nat} {F G : Nat → Prop} {s : Ds} {base j : Nat} {l : List RecS}
/-- the first records are left -/
theorem JrAt.cut_ {w1 : World} {A : Option Addr} {c k : Nat} (hj : JrAt w1 base j b G l) (hbx : Box w1 j 88 #[.pointer (some ⟨b, 0, none⟩), .slice A l.length c]) (ho : Own w1 base 38 3 (.slice A l.length c) l.length (rowsC l)) (hG : ∀ i, G i ↔ (i = j ∨ (Value.slice A l.length c).ownBlock = some i))
    (hne : (Value.slice A l.length c).ownBlock ≠ some j) (hk : k ≤ l.length) :
    JrAt (w1.setCell ⟨j, 1, none⟩ (.slice A k c)) base j b G (l.take k) ∧ Turns w1 (w1.setCell ⟨j, 1, none⟩ (.slice A k c)) G G := by
  have e1 : (l.take k).length = k := by rw [List.length_take]; omega
  refine ⟨⟨⟨.slice A k c, by simpa using hbx.set 1 (.slice A k c), ?_, fun i => ?_⟩, hj.low, by have := hj.len; omega, hj.fine.take k⟩, ⟨⟨rfl, rfl, rfl, by simp, fun i hi hn => Below.heap_setCell _ ⟨j, 1, none⟩ _ i (fun e => hn ((hG i).2 (.inl e)))⟩, fun i hi => .inl hi⟩⟩
  · rw [e1, rowsC_take]
    refine (own_front ho hk).same fun g hg => Below.heap_setCell _ ⟨j, 1, none⟩ _ g (fun e => hne ?_)
    rw [block_len (k := k), hg, e]
  · rw [block_len (k := l.length)]
    exact hG i
set_option maxHeartbeats 16000000 in
theorem jrBack_any (h : Have K w0 w b F s) (hZ : K.Z w0) (hj : JrAt w base j b G l) (hd : ∀ i, G i → ¬ F i) (hbase : w0.heap.size ≤ base) (n : Int) (hn : IsI n) {s' : Ds} {E : Nat} (hs : backJ s l n = (s', E)) :
    Calls Tryz.prog 25 #[.pointer (some ⟨j, 0, none⟩), .int .i64 n] w (WentJ K w0 w b F G base j s' E (if E = 0 then l.take n.toNat else l)) := by
  obtain ⟨RES, hRES⟩ : ∃ R, (if E = 0 then l.take n.toNat else l) = R := ⟨_, rfl⟩
  rw [hRES]
  have RE := Lib.hid hRES
  clear hRES
  have HS := Lib.hid hs
  have H := Lib.hid h
  have J := Lib.hid hj
  have DD := Lib.hid hd
  have HZ := Lib.hid hZ
  obtain ⟨v, hb, ho, hG⟩ := hj.row
  obtain ⟨A, c, rfl, hcc, -⟩ := ho.form
  have HNE := Lib.hid (JrAt.ne hb ho)
  have HB := Lib.hid hb
  have HO := Lib.hid ho
  have HG := Lib.hid hG
  have c0 := hb.cell 0 rfl
  have c1 := hb.cell 1 rfl
  have f1 := hb.frozen 1
  obtain ⟨N, hN⟩ : ∃ N, l.length = N := ⟨_, rfl⟩
  have HNN := Lib.hid hN
  have hNb := hj.len
  have hn1 := hn.1
  have hn2 := hn.2
  rw [hN] at hNb c1 hcc
  have hNi : (N : Int) ≤ 65536 := by omega
  by_cases hbad : n < 0 ∨ (N : Int) < n
  · have e := (backJ_none (s := s) (l := l) (n := n) (by rw [hN]; exact hbad)).symm.trans hs
    injection e with q1 q2
    subst q1
    subst q2
    obtain rfl : l = RES := by have := RE.out; rwa [if_neg (by decide)] at this
    have ways : n < 0 ∨ (¬ n < 0 ∧ (N : Int) < n) := by omega
    clear h hZ hj hd hs hb ho hG hbad hN hn hNb
    go_enter Tryz.func25, Tryz.ntmps25
    rcases ways with x1 | ⟨x1, x2⟩
    all_goals
      go_wp2_with fail
      go_ret
      exact wentJ_disk H.out (Turns.refl _ _) J.out DD.out
  · obtain ⟨k, rfl⟩ : ∃ k : Nat, n = (k : Int) := ⟨n.toNat, by omega⟩
    have hkN : k ≤ N := by omega
    have x1 : ¬ (k : Int) < 0 := by omega
    have x2 : ¬ (N : Int) < (k : Int) := by omega
    have x3 : (k : Int) ≤ (c : Int) := by omega
    have HK := Lib.hid hkN
    have HBAD := Lib.hid (show ¬ ((k : Int) < 0 ∨ (l.length : Int) < (k : Int)) by rw [hN]; exact hbad)
    obtain ⟨s1, E1, hc⟩ : ∃ s1 E1, cutS s nmJ ((64 * k : Nat) : Int) = (s1, E1) := ⟨_, _, rfl⟩
    have HC := Lib.hid (show cutS s nmJ ((64 * (k : Int).toNat : Nat) : Int) = (s1, E1) from hc)
    have CU := Lib.hid (jcut_any h hZ k (by omega) hc)
    clear h hZ hj hd hs hb ho hG hbad hN hn hNb hkN hc
    go_enter Tryz.func25, Tryz.ntmps25
    go_wp2_with fail
    refine CU.out.mono ?_
    rintro e w1 ⟨rfl, F1, h1, t1⟩
    have H1 := Lib.hid h1
    have T1 := Lib.hid t1
    have B1 := Lib.hid (HB.out.turned t1 (DD.out j ((HG.out j).2 (.inl rfl))))
    clear h1 t1 c1 c0 f1
    have d0 := B1.out.cell 0 rfl
    by_cases hE1 : E1 = 0
    · subst hE1
      have e1 : ((0 : Int) != 0) = false := rfl
      obtain ⟨sy, E2, hsy⟩ : ∃ sy E2, syncS s1 nmJ = (sy, E2) := ⟨_, _, rfl⟩
      have e := (backJ_go HBAD.out HC.out hsy).symm.trans HS.out
      injection e with q1 q2
      subst q1
      subst q2
      have SY := Lib.hid (H1.out.went hsy (K.sync nmJ (H1.out.z HZ.out) H1.out.D (by decide)))
      unfold dpt strV at SY
      rw [strJ] at SY
      clear hsy
      go_wp2_with fail
      refine SY.out.mono ?_
      rintro e w2 ⟨rfl, F2, h2, t2⟩
      have T2 := Lib.hid (T1.out.trans t2)
      have H2 := Lib.hid h2
      by_cases hE2 : E2 = 0
      · subst hE2
        obtain rfl : l.take k = RES := by have := RE.out; rw [if_pos rfl] at this; simpa using this
        obtain ⟨J2, D2⟩ := J.out.turn T2.out DD.out
        have B2 := Lib.hid (B1.out.turned t2 (T1.out.notIn HB.out.lt (DD.out j ((HG.out j).2 (.inl rfl)))))
        have O2 := Lib.hid (HO.out.turns T2.out (fun k hk => DD.out k ((HG.out k).2 (.inr hk))))
        obtain ⟨J3, U3⟩ := JrAt.cut_ J2 B2.out O2.out HG.out HNE.out (k := k) (by rw [HNN.out]; exact HK.out)
        obtain ⟨H3, D3⟩ := have_turn H2.out U3 D2 (fun i hi => Nat.le_trans hbase (J2.ge i hi))
        have FIN := Lib.hid (And.intro J3 (And.intro U3 (And.intro H3 D3)))
        have z0 := B2.out.cell 0 rfl
        have z1 : w2.cell? ⟨j, 1, none⟩ = some (.slice A N c) := by have := B2.out.cell 1 rfl; rw [← HNN.out]; exact this
        have z2 := B2.out.frozen 1
        clear h2 t2 J2 D2 J3 U3 H3 D3 d0 e1
        go_wp2_with fail
        go_ret
        exact ⟨rfl, F2, _, FIN.out.2.2.1, FIN.out.1, FIN.out.2.2.2, (both_turn T2.out).trans (both_turn2 FIN.out.2.1)⟩
      · have hne : ((E2 : Int) != 0) = true := by rw [bne_iff_ne]; omega
        obtain rfl : l = RES := by have := RE.out; rwa [if_neg hE2] at this
        clear hE2 h2 t2
        go_wp2_with fail
        go_ret
        exact wentJ_disk H2.out T2.out J.out DD.out
    · have hne : ((E1 : Int) != 0) = true := by rw [bne_iff_ne]; omega
      have e := (backJ_no HBAD.out HC.out hE1).symm.trans HS.out
      injection e with q1 q2
      subst q1
      subst q2
      obtain rfl : l = RES := by have := RE.out; rwa [if_neg hE1] at this
      clear hE1
      go_wp2_with fail
      go_ret
      exact wentJ_disk H1.out T1.out J.out DD.out
end
theorem jrAdd_nil (r : RecS) (w : World) : Calls Tryz.prog 23 #[.pointer none, .agg (recC r).toArray] w fun e w' => e = .returned (.int .i64 2) ∧ Keeps w w' := by
  have k0 := keeps_alloc w (.cells (recC r).toArray 38)
  unfold recC at *
  go_enter Tryz.func23, Tryz.ntmps23
  go_wp2_with fail
  go_ret
  exact ⟨rfl, k0⟩
theorem jrBack_nil (n : Int) (w : World) : Calls Tryz.prog 25 #[.pointer none, .int .i64 n] w fun e w' => e = .returned (.int .i64 2) ∧ Keeps w w' := by
  go_enter Tryz.func25, Tryz.ntmps25
  go_wp2_with fail
  go_ret
  exact ⟨rfl, keeps_refl _⟩
end Go.Proofs.YtiohijkelagloaaGreatDoor
