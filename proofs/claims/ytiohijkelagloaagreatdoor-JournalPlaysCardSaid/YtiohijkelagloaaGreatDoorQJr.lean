/- What the calls of package journal answer: a journal in memory; its file found or made. -/
import Derived.Test.YtiohijkelagloaaGreatDoorQJrC
import Derived.Test.YtiohijkelagloaaGreatDoorQWent
import Derived.Deep.RegionWith
import Derived.Deep.RegionLaw
namespace Go.Proofs.YtiohijkelagloaaGreatDoor
open Go.RowKit
set_option linter.unusedSimpArgs false
set_option linter.unusedVariables false
set_option maxRecDepth 100000

/-- a journal of these records lies there, in these blocks -/
structure JrAt (w : World) (base j b : Nat) (G : Nat → Prop) (l : List RecS) : Prop where
  row : ∃ v, Box w j 88 #[.pointer (some ⟨b, 0, none⟩), v] ∧ Own w base 38 3 v l.length (rowsC l) ∧ ∀ i, G i ↔ (i = j ∨ v.ownBlock = some i)
  low : base ≤ j
  len : l.length ≤ 65536
  fine : Fine l
section
variable {w w' : World} {base j b : Nat} {G : Nat → Prop} {l : List RecS}
theorem JrAt.lt (h : JrAt w base j b G l) : ∀ i, G i → i < w.heap.size := fun i hi => by
  obtain ⟨v, hb, ho, hG⟩ := h.row
  rcases (hG i).1 hi with rfl | hv
  · exact hb.lt
  · exact (ho.lt i hv).2
theorem JrAt.ge (h : JrAt w base j b G l) : ∀ i, G i → base ≤ i := fun i hi => by
  obtain ⟨v, hb, ho, hG⟩ := h.row
  rcases (hG i).1 hi with rfl | hv
  · exact h.low
  · exact (ho.lt i hv).1
theorem JrAt.same (h : JrAt w base j b G l) (hs : ∀ i, G i → w'.heap[i]? = w.heap[i]?) : JrAt w' base j b G l := by
  obtain ⟨v, hb, ho, hG⟩ := h.row
  exact ⟨⟨v, (hs j ((hG j).2 (.inl rfl))).trans hb, ho.same (fun k hk => hs k ((hG k).2 (.inr hk))), hG⟩, h.low, h.len, h.fine⟩
theorem JrAt.keep (h : JrAt w base j b G l) (k : Keeps w w') : JrAt w' base j b G l := h.same fun i hi => k.block i (h.lt i hi)
theorem JrAt.turn {F F' : Nat → Prop} (h : JrAt w base j b G l) (t : Turns w w' F F') (hd : ∀ i, G i → ¬ F i) : JrAt w' base j b G l ∧ ∀ i, G i → ¬ F' i :=
  ⟨h.same fun i hi => t.only.block i (h.lt i hi) (hd i hi), fun i hi => t.notIn (h.lt i hi) (hd i hi)⟩
theorem JrAt.base_le {base' : Nat} (h : JrAt w base j b G l) (hb : base' ≤ base) : JrAt w base' j b G l := by
  obtain ⟨v, h1, h2, h3⟩ := h.row
  exact ⟨⟨v, h1, h2.base_le hb, h3⟩, Nat.le_trans hb h.low, h.len, h.fine⟩
end
theorem Own.capj {w : World} {base : Nat} {e : TypeId} {size : Nat} {A : Option Addr} {n c : Nat} {xs : List Value} (h : Own w base e size (.slice A n c) n xs) : n ≤ c ∧ c ≤ maxLen ∧ (A = none → n = 0) := by
  obtain ⟨A', c', hv, hc', hm, hz, -⟩ := h.form
  injection hv with e1 _ e3
  subst e1
  subst e3
  exact ⟨hc', hm, fun ha => (hz ha).1⟩
theorem strJ : str nmJ = ⟨#[106, 111, 117, 114, 110, 97, 108]⟩ := rfl
theorem openP_read {s s1 : Ds} {E : Nat} {b : List UInt8} (ok : DsOk s) (h : openP s = (s1, E, b)) (hE : E = 0) :
    readS s1 nmJ 0 (b.length : Int) = (b, 0) ∧ b.length ≤ 16777216 := by
  subst hE
  unfold openP at h
  by_cases h3 : (sizeS s nmJ).2 = 3
  · rw [if_pos h3] at h
    injection h with h1 h2
    injection h2 with h4 h5
    subst h5
    subst h1
    exact ⟨(made_read h4).2, by simp⟩
  · rw [if_neg h3] at h
    injection h with h1 h2
    injection h2 with h4 h5
    subst h1
    have hle := sizeJ_le ok nmJ
    obtain ⟨f, -, e1, e2⟩ := sizeJ_ok h4
    have e3 := e2 0 ((sizeS s nmJ).1 : Int) (by omega) (by omega)
    rw [e3] at h5
    simp only [Int.toNat_natCast, e1] at h5
    have h6 : f.now = b := by rw [← h5]; simp
    subst h6
    refine ⟨?_, by omega⟩
    have := e2 0 (f.now.length : Int) (by omega) (by omega)
    simpa using this
section
variable {K : DiskOk} {w0 w : World} {b : Nat} {F : Nat → Prop} {s : Ds}
/-- two answers, and the disk's turn -/
def WentP (K : DiskOk) (w0 w : World) (b : Nat) (F : Nat → Prop) (s' : Ds) (n E : Nat) (e : Ending) (w' : World) : Prop :=
  e = .returned (.tuple #[.int .i64 (n : Int), .int .i64 (E : Int)]) ∧ ∃ F', Have K w0 w' b F' s' ∧ Turns w w' F F'
set_option maxHeartbeats 4000000 in
theorem jsize_any (h : Have K w0 w b F s) (hZ : K.Z w0) {s1 : Ds} {E : Nat} {l : List UInt8} (hs : openP s = (s1, E, l)) :
    Calls Tryz.prog 65 #[.pointer (some ⟨b, 0, none⟩)] w fun e w' => ∃ n, WentP K w0 w b F s1 n E e w' ∧ (E = 0 → n = l.length) := by
  have ok := K.ok h.D
  obtain ⟨n, E0, hz⟩ : ∃ n E0, sizeS s nmJ = (n, E0) := ⟨_, _, rfl⟩
  have SZ := Lib.hid (h.size_ hZ nmJ _ strJ.symm hz)
  by_cases h3 : E0 = 3
  · subst h3
    have hc : createS s nmJ = (s1, E) ∧ l = [] := by
      unfold openP at hs
      rw [hz, if_pos rfl] at hs
      injection hs with h1 h2
      injection h2 with h4 h5
      exact ⟨Prod.ext h1 h4, h5.symm⟩
    have CR := Lib.hid (fun (V : World) (kk : Keeps w V) => (h.keep kk).went hc.1 (K.create nmJ ((h.keep kk).z hZ) (h.keep kk).D (by decide)))
    have HL := Lib.hid (show l.length = 0 by rw [hc.2]; rfl)
    unfold dpt strV at CR
    rw [strJ] at CR
    clear h hZ hs hz hc ok
    go_enter Tryz.func65, Tryz.ntmps65
    go_wp2_with fail
    refine SZ.out.mono ?_
    rintro e w1 ⟨rfl, -, k1⟩
    have C1 := Lib.hid (CR.out _ k1)
    go_wp2_with fail
    refine C1.out.mono ?_
    rintro e w2 ⟨rfl, F2, h2, t2⟩
    go_wp2_with fail
    go_returns
    exact ⟨0, ⟨rfl, F2, h2, (Turns.of_keeps k1).trans t2⟩, fun _ => HL.out.symm⟩
  · have hc : s1 = s ∧ E = E0 ∧ (E = 0 → n = l.length) := by
      unfold openP at hs
      rw [hz, if_neg h3] at hs
      injection hs with h1 h2
      injection h2 with h4 h5
      refine ⟨h1.symm, h4.symm, fun e0 => ?_⟩
      simp only at h4 h5
      have hz2 : (sizeS s nmJ).2 = 0 := by rw [hz]; omega
      obtain ⟨f, -, e1, e2⟩ := sizeJ_ok hz2
      have e3 := e2 0 (n : Int) (by omega) (by omega)
      rw [e3] at h5
      rw [hz] at e1
      simp only at e1
      rw [← h5, e1]
      simp
    obtain ⟨rfl, rfl, hl⟩ := hc
    have hne : ((E : Int) == 3) = false := by rw [beq_eq_false_iff_ne]; omega
    have HL := Lib.hid hl
    have H := Lib.hid h
    clear h hZ hs hz hl ok h3
    go_enter Tryz.func65, Tryz.ntmps65
    go_wp2_with fail
    refine SZ.out.mono ?_
    rintro e w1 ⟨rfl, -, k1⟩
    go_wp2_with fail
    go_returns
    exact ⟨n, ⟨rfl, F, H.out.keep k1, Turns.of_keeps k1⟩, HL.out⟩
set_option maxHeartbeats 4000000 in
theorem jcut_any (h : Have K w0 w b F s) (hZ : K.Z w0) (n : Nat) (hn : n ≤ 65536) {s1 : Ds} {E : Nat} (hs : cutS s nmJ ((64 * n : Nat) : Int) = (s1, E)) :
    Calls Tryz.prog 68 #[.pointer (some ⟨b, 0, none⟩), .int .i64 (n : Int)] w (WentU K w0 w b F s1 E) := by
  have C := Lib.hid (h.went hs (K.cut nmJ ((64 * n : Nat) : Int) (h.z hZ) h.D (by decide) (by omega) (by omega)))
  obtain ⟨m, hm⟩ : ∃ m, 64 * n = m := ⟨_, rfl⟩
  have hmi : (n : Int) * 64 = (m : Int) := by omega
  have hmb : (m : Int) ≤ 4194304 := by omega
  unfold dpt strV at C
  rw [strJ, hm] at C
  clear h hZ hs hn hm
  go_enter Tryz.func68, Tryz.ntmps68
  go_wp2_with fail
  refine C.out.mono ?_
  rintro e w1 ⟨rfl, F1, h1, t1⟩
  go_wp2_with fail
  go_returns
  exact ⟨rfl, F1, h1, t1⟩
end
end Go.Proofs.YtiohijkelagloaaGreatDoor
/- What Open of package journal answers. (Written by mkjr2.py.) -/
namespace Go.Proofs.YtiohijkelagloaaGreatDoor
open Go.RowKit
set_option linter.unusedSimpArgs false
set_option linter.unusedVariables false
set_option maxRecDepth 100000

section
variable {K : DiskOk} {w0 w : World} {b : Nat} {F : Nat → Prop} {s : Ds}
/-- a journal, or none -/
def MadeJ (K : DiskOk) (w0 w : World) (b : Nat) (F : Nat → Prop) (s' : Ds) (E : Nat) (l : List RecS) (e : Ending) (w' : World) : Prop :=
  ∃ F', Have K w0 w' b F' s' ∧ Turns w w' F F' ∧ ((E = 0 ∧ ∃ j G, e = .returned (.tuple #[.pointer (some ⟨j, 0, none⟩), .int .i64 0]) ∧ JrAt w' w.heap.size j b G l ∧ ∀ i, G i → ¬ F' i) ∨ (E ≠ 0 ∧ e = .returned (.tuple #[.pointer none, .int .i64 (E : Int)])))
/-- what is left to do behind the records: the box -/
theorem made_box {w9 : World} {F9 : Nat → Prop} {s' : Ds} {l : List RecS} {A : Option Addr} {c : Nat} (h9 : Have K w0 w9 b F9 s') (t9 : Turns w w9 F F9) (o : Own w9 w.heap.size 38 3 (.slice A l.length c) l.length (rowsC l)) (hnf : ∀ k, (Value.slice A l.length c).ownBlock = some k → ¬ F9 k) (hl : l.length ≤ 65536) (hf : Fine l) :
    MadeJ K w0 w b F s' 0 l (.returned (.tuple #[.pointer (some ⟨w9.heap.size, 0, none⟩), .int .i64 0])) (w9.alloc (.cells #[.pointer (some ⟨b, 0, none⟩), .slice A l.length c] 88)) := by
  have kA := keeps_alloc w9 (.cells #[.pointer (some ⟨b, 0, none⟩), .slice A l.length c] 88)
  refine ⟨F9, h9.keep kA, t9.trans (Turns.of_keeps kA), .inl ⟨rfl, w9.heap.size, fun i => i = w9.heap.size ∨ (Value.slice A l.length c).ownBlock = some i, rfl, ⟨⟨_, Box.new _ _ _, o.keep kA, fun i => Iff.rfl⟩, t9.only.size, hl, hf⟩, fun i hi => ?_⟩⟩
  rcases hi with rfl | hi
  · intro hh
    have := K.lt h9.D _ hh
    omega
  · exact hnf i hi
set_option maxHeartbeats 16000000 in
theorem jrOpen_any (h : Have K w0 w b F s) (hZ : K.Z w0) (hS : Sizes w0) {s' : Ds} {E : Nat} {l : List RecS} (hs : openJ s = (s', E, l)) :
    Calls Tryz.prog 22 #[.pointer (some ⟨b, 0, none⟩)] w (MadeJ K w0 w b F s' E l) := by
  obtain ⟨s1, E1, bb, hp⟩ : ∃ s1 E1 bb, openP s = (s1, E1, bb) := ⟨_, _, _, rfl⟩
  have SZ := Lib.hid (jsize_any h hZ hp)
  have HZ := Lib.hid hZ
  have HS := Lib.hid hS
  by_cases hE1 : E1 = 0
  · subst hE1
    have RR := Lib.hid (openP_read (K.ok h.D) hp rfl)
    have HP := Lib.hid hp
    have HOJ := Lib.hid hs
    clear h hZ hS hp hs
    go_enter Tryz.func22, Tryz.ntmps22
    go_wp2_with fail
    refine SZ.out.mono ?_
    rintro e w1 ⟨n, ⟨rfl, F1, h1, t1⟩, hnl⟩
    obtain rfl := hnl (by simp)
    have H1 := Lib.hid h1
    have T1 := Lib.hid t1
    have RD := Lib.hid (h1.read_ HZ.out nmJ 0 (bb.length : Int) ⟨by decide, by decide⟩ ⟨by omega, by have := RR.out.2; omega⟩ _ strJ.symm RR.out.1)
    have e1 : ((0 : Int) != 0) = false := rfl
    clear h1 t1 hnl
    go_wp2_with fail
    refine RD.out.mono ?_
    rintro e w2 ⟨A2, c2, rfl, hc2, o2, h2, k2⟩
    have H2 := Lib.hid h2
    have K2 := Lib.hid k2
    have O2 := Lib.hid o2
    have RC := Lib.hid (jrecords_any A2 bb.length c2 bb (sizes_have HS.out h2) o2.at_ rfl hc2 RR.out.2 o2.capj.2.2)
    have HC := Lib.hid hc2
    clear h2 k2 o2 hc2
    go_wp2_with fail
    refine RC.out.mono ?_
    rintro e w3 ⟨v3, rfl, o3, k3⟩
    obtain ⟨A3, c3, rfl, hc3, -⟩ := o3.form
    have hnf3 : ∀ k, (Value.slice A3 (recsOf bb).length c3).ownBlock = some k → ¬ F1 k := fun k hk hf => by
      have h1 := (o3.lt k hk).1
      have h2 := K.lt H2.out.D k hf
      omega
    have NF3 := Lib.hid hnf3
    have H3 := Lib.hid (H2.out.keep k3)
    have T3 := Lib.hid (T1.out.trans (Turns.of_keeps (keeps_trans K2.out k3)))
    have O3 := Lib.hid (o3.base_le (Nat.le_trans T1.out.only.size K2.out.size))
    clear hnf3 o3 k3 hc3
    have RL := Lib.hid (recsOf_len bb)
    have RF := Lib.hid (recsJ_fine 65536 1 bb)
    have RF2 := Lib.hid (show Fine (recsOf bb) from RF.out)
    clear RF
    generalize hrs : recsOf bb = rs at *
    have HRS := Lib.hid hrs
    clear hrs
    obtain ⟨m, hm⟩ : ∃ m, 64 * rs.length = m := ⟨_, rfl⟩
    have hmul : (rs.length : Int) * 64 = (m : Int) := by omega
    have hrl : (rs.length : Int) ≤ 65536 := by have := RL.out; omega
    have hmb : (m : Int) ≤ 4194304 := by omega
    have hbb : (bb.length : Int) ≤ 16777216 := by have := RR.out.2; omega
    by_cases hlt : m < bb.length
    · have hlti : (m : Int) < (bb.length : Int) := by omega
      obtain ⟨s2, E2, hct⟩ : ∃ s2 E2, cutS s1 nmJ ((64 * rs.length : Nat) : Int) = (s2, E2) := ⟨_, _, rfl⟩
      have TR := Lib.hid (show trimS s1 bb (recsOf bb).length = (s2, E2) by unfold trimS; rw [HRS.out, if_pos (by omega), hct])
      have CU := Lib.hid (jcut_any H3.out HZ.out rs.length RL.out hct)
      clear hlt hct hm
      go_wp2_with fail
      refine CU.out.mono ?_
      rintro e w4 ⟨rfl, F4, h4, t4'⟩
      have t4 := T3.out.trans t4'
      have o4 := O3.out.turns t4' NF3.out
      have nf4 : ∀ k, (Value.slice A3 rs.length c3).ownBlock = some k → ¬ F4 k := fun k hk => t4'.notIn (O3.out.lt k hk).2 (NF3.out k hk)
      clear t4'
      by_cases hE2 : E2 = 0
      · subst hE2
        have e2 : ((0 : Int) != 0) = false := rfl
        have OJ := Lib.hid (fun (s9 : Ds) (E9 : Nat) (hsy : syncS s2 nmJ = (s9, E9)) => (show s9 = s' ∧ E9 = E ∧ rs = l by
          have e := (openJ_go HP.out TR.out hsy).symm.trans HOJ.out
          injection e with q1 q2
          injection q2 with q2 q3
          exact ⟨q1, q2, by rw [← HRS.out, q3]⟩))
        have H4 := Lib.hid h4
        have T4 := Lib.hid t4
        have O4 := Lib.hid o4
        have NF4 := Lib.hid nf4
        obtain ⟨s9, E9, hsy⟩ : ∃ s9 E9, syncS s2 nmJ = (s9, E9) := ⟨_, _, rfl⟩
        have SY := Lib.hid (h4.went hsy (K.sync nmJ (h4.z HZ.out) h4.D (by decide)))
        have RES := Lib.hid (OJ.out s9 E9 hsy)
        unfold dpt strV at SY
        rw [strJ] at SY
        clear h4 t4 o4 nf4 hsy
        go_wp2_with fail
        refine SY.out.mono ?_
        rintro e w9 ⟨rfl, F9, h9, t9⟩
        have H9 := Lib.hid h9
        have T9 := Lib.hid (T4.out.trans t9)
        have O9 := Lib.hid (O4.out.turns t9 NF4.out)
        have NF9 := Lib.hid (show ∀ k, (Value.slice A3 rs.length c3).ownBlock = some k → ¬ F9 k from fun k hk => t9.notIn (O4.out.lt k hk).2 (NF4.out k hk))
        clear h9 t9
        obtain ⟨rfl, rfl, rfl⟩ := RES.out
        by_cases hE9 : E9 = 0
        · subst hE9
          have e3 : ((0 : Int) != 0) = false := rfl
          go_wp2_with fail
          go_returns
          exact made_box H9.out T9.out O9.out NF9.out RL.out RF2.out
        · have hne9 : ((E9 : Int) != 0) = true := by rw [bne_iff_ne]; omega
          have HE9 := Lib.hid hE9
          clear hE9
          go_wp2_with fail
          go_returns
          exact ⟨F9, H9.out, T9.out, .inr ⟨HE9.out, rfl⟩⟩
      · have hne2 : ((E2 : Int) != 0) = true := by rw [bne_iff_ne]; omega
        have e := (openJ_trim HP.out TR.out hE2).symm.trans HOJ.out
        injection e with q1 q2
        injection q2 with q2 q3
        subst q1
        subst q2
        have HE2 := Lib.hid (And.intro hE2 (And.intro h4 t4))
        clear hE2 h4 t4 o4 nf4 q3 e1
        go_wp2_with fail
        go_returns
        exact ⟨F4, HE2.out.2.1, HE2.out.2.2, .inr ⟨HE2.out.1, rfl⟩⟩
    · have hlti : ¬ (m : Int) < (bb.length : Int) := by omega
      have TR := Lib.hid (show trimS s1 bb (recsOf bb).length = (s1, 0) by unfold trimS; rw [HRS.out, if_neg (by omega)])
      obtain ⟨s2, hs2⟩ : ∃ s2, s1 = s2 := ⟨_, rfl⟩
      have OJ := Lib.hid (fun (s9 : Ds) (E9 : Nat) (hsy : syncS s2 nmJ = (s9, E9)) => (show s9 = s' ∧ E9 = E ∧ rs = l by
        rw [← hs2] at hsy
        have e := (openJ_go HP.out TR.out hsy).symm.trans HOJ.out
        injection e with q1 q2
        injection q2 with q2 q3
        exact ⟨q1, q2, by rw [← HRS.out, q3]⟩))
      have h4 := H3.out
      have t4 := T3.out
      have o4 := O3.out
      have nf4 := NF3.out
      rw [hs2] at h4
      clear hlt hm hs2
      have H4 := Lib.hid h4
      have T4 := Lib.hid t4
      have O4 := Lib.hid o4
      have NF4 := Lib.hid nf4
      obtain ⟨s9, E9, hsy⟩ : ∃ s9 E9, syncS s2 nmJ = (s9, E9) := ⟨_, _, rfl⟩
      have SY := Lib.hid (h4.went hsy (K.sync nmJ (h4.z HZ.out) h4.D (by decide)))
      have RES := Lib.hid (OJ.out s9 E9 hsy)
      unfold dpt strV at SY
      rw [strJ] at SY
      clear h4 t4 o4 nf4 hsy
      go_wp2_with fail
      refine SY.out.mono ?_
      rintro e w9 ⟨rfl, F9, h9, t9⟩
      have H9 := Lib.hid h9
      have T9 := Lib.hid (T4.out.trans t9)
      have O9 := Lib.hid (O4.out.turns t9 NF4.out)
      have NF9 := Lib.hid (show ∀ k, (Value.slice A3 rs.length c3).ownBlock = some k → ¬ F9 k from fun k hk => t9.notIn (O4.out.lt k hk).2 (NF4.out k hk))
      clear h9 t9
      obtain ⟨rfl, rfl, rfl⟩ := RES.out
      by_cases hE9 : E9 = 0
      · subst hE9
        have e3 : ((0 : Int) != 0) = false := rfl
        go_wp2_with fail
        go_returns
        exact made_box H9.out T9.out O9.out NF9.out RL.out RF2.out
      · have hne9 : ((E9 : Int) != 0) = true := by rw [bne_iff_ne]; omega
        have HE9 := Lib.hid hE9
        clear hE9
        go_wp2_with fail
        go_returns
        exact ⟨F9, H9.out, T9.out, .inr ⟨HE9.out, rfl⟩⟩
  · have hne1 : ((E1 : Int) != 0) = true := by rw [bne_iff_ne]; omega
    have e := (openJ_no hp hE1).symm.trans hs
    injection e with q1 q2
    injection q2 with q2 q3
    subst q1
    subst q2
    have HE1 := Lib.hid hE1
    clear h hZ hS hp hs hE1 q3
    go_enter Tryz.func22, Tryz.ntmps22
    go_wp2_with fail
    refine SZ.out.mono ?_
    rintro e w1 ⟨n, ⟨rfl, F1, h1, t1⟩, hnl⟩
    go_wp2_with fail
    go_returns
    exact ⟨F1, h1, t1, .inr ⟨HE1.out, rfl⟩⟩
end
end Go.Proofs.YtiohijkelagloaaGreatDoor
/- What Recs and Add of package journal answer. -/
namespace Go.Proofs.YtiohijkelagloaaGreatDoor
open Go.RowKit
set_option linter.unusedSimpArgs false
set_option linter.unusedVariables false
set_option maxRecDepth 100000

theorem step_appJ {P : Program} {w : World} {ops : Array Oper} {o : Oper} {a : Act} {K : Act → World → Prop} {Q : Exit → Act → World → Prop} {E : Prop} (hg : o.guard = none) (s x : Operand) (t : TypeId)
    (ho : o.op = .call { callee := .builtin .append, args := #[s, x], argTypes := #[t, t] })
    (base : Nat) (e : TypeId) (i : TypeInfo) (z : Value) (size bytes : Nat) (ht : P.underlying t = some (.slice e)) (hi : P.info? e = some i) (hz : i.zero = some z)
    (hsize : i.size = size) (hby : i.bytes = bytes) (hzs : z.cells.size = size) (hsz : 0 < size)
    (v : Value) (n : Nat) (xs : List Value) (hs : a.eval s = v) (hown : Own w base e size v n xs)
    (B : Nat) (A : Option Addr) (m c : Nat) (news : List Value) (hx : a.eval x = .slice A m c) (hm : news.length = m * size) (hr : At w B A news) (h1 : ∀ u ∈ news, u.oneCell' = true)
    (h63 : n + m ≤ maxLen) (hbytes : (n + m) * bytes ≤ 140737488355328) (hbase : base ≤ w.heap.size)
    (hK : ∀ v' w', Own w' base e size v' (n + m) (xs ++ news) → w.grownBy w' v.ownBlock → (v'.ownBlock = v.ownBlock ∨ v'.ownBlock = some w.heap.size) → K (a.put o.dst v') w') :
    if Region.wanted o (yielded ops a.tmps) = true then Oper.wp P o a w K Q else E := by
  have hw : Region.wanted o (yielded ops a.tmps) = true := by simp [Region.wanted, hg]
  rw [if_pos hw]
  exact wp_app w s x t ho base e i z size bytes ht hi hz hsize hby hzs hsz v n xs hs hown B A m c news hx hm hr h1 h63 hbytes hbase hK
set_option maxHeartbeats 4000000 in
theorem cloneRec_any (A : Option Addr) (n c : Nat) (l : List RecS) (w : World) (hB : At w w.heap.size A (rowsC l)) (hn : n = l.length) (h0 : A = none → c = 0) (hmax : n ≤ 20000000) :
    Calls Tryz.prog 40 #[.slice A n c] w fun e w' => ∃ v, e = .returned v ∧ Own w' w.heap.size 38 3 v l.length (rowsC l) ∧ Keeps w w' := by
  obtain ⟨i0, hi, hz0, hz1, hz2⟩ := info_parts infoRec
  have heq := fun (a : Option Addr) (n c : Nat) (w : World) => Lib.run_eql_slice_nil (P := Tryz.prog) w 46 38 a n c 0 0 Tryz.underlying46
  cases A with
  | none =>
    have hl : l = [] := by
      rcases hB with h1 | ⟨ad, h1, _⟩
      · cases l with
        | nil => rfl
        | cons => simp [rowsC, recC] at h1
      · cases h1
    subst hl
    have hz : n = 0 := by simpa using hn
    have hz2 : c = 0 := h0 rfl
    subst hz
    subst hz2
    clear hB h0 hmax hn hz0 hz1 hi
    go_enter Tryz.func40, Tryz.ntmps40
    go_wp2_with fail
    go_ret
    exact ⟨_, rfl, Own.nil _ _ _ _, keeps_refl _⟩
  | some ad =>
    have HN := Lib.hid hn
    have k0 := keeps_alloc w (.cells #[] 38)
    have hB2 := Lib.hid ((At.keep hB k0).more k0.size)
    have O0 := Lib.hid (show Own (w.alloc (.cells #[] 38)) w.heap.size 38 3 (.slice (some ⟨w.heap.size, 0, none⟩) 0 0) 0 [] from ⟨rfl, .inr ⟨w.heap.size, 0, #[], (0, 0), rfl, Nat.le_refl _, heap_alloc_new w _, .inl rfl, Nat.le_refl _, by simp [maxLen], rfl, rfl⟩⟩)
    have HMX := Lib.hid hmax
    have ONE := Lib.hid (show ∀ u ∈ rowsC l, u.oneCell' = true from fun u hu => by
      obtain ⟨r, -, hr⟩ := List.mem_flatMap.1 hu
      exact recC_one r u hr)
    clear hn hB h0 hmax
    go_enter Tryz.func40, Tryz.ntmps40
    go_wp2_with (at_builtin; refine wpList_app _ rfl _ _ 46 rfl w.heap.size 38 i0 (.agg #[.int .u32 0, .int .u32 0, .int .u32 0]) 3 12 Tryz.underlying46 hi hz0 hz1 hz2 rfl (by decide) _ 0 [] rfl O0.out _ (some ad) n c (rowsC l) rfl (by rw [rowsC_length, HN.out, Nat.mul_comm]) hB2.out ONE.out (by have := HMX.out; unfold maxLen; omega) (by have := HMX.out; omega) (by simp) ?_; intro v2 w2 hown2 hgrow2 hblk2)
    have k2 : Keeps w w2 := Below.grown k0 hgrow2 k0.size (fun g hg => (O0.out.lt g hg).1)
    have HO := Lib.hid (show Own w2 w.heap.size 38 3 v2 l.length (rowsC l) by have := hown2; rw [HN.out] at this; simpa using this)
    clear hown2 hgrow2 hblk2
    go_wp2_with fail
    go_ret
    exact ⟨_, rfl, HO.out, k2⟩
theorem Own.recapj {w : World} {base : Nat} {e : TypeId} {size : Nat} {A : Option Addr} {n c : Nat} {xs : List Value} (h : Own w base e size (.slice A n c) n xs) : A = none → c = 0 := fun ha => by
  obtain ⟨A', c', hv, hc', hm, hz, -⟩ := h.form
  injection hv with e1 _ e3
  subst e1
  subst e3
  exact (hz ha).2
section
variable {w : World} {base j b : Nat} {G : Nat → Prop} {l : List RecS}
theorem jrRecs_any (h : JrAt w base j b G l) : Calls Tryz.prog 12 #[.pointer (some ⟨j, 0, none⟩)] w fun e w' => ∃ A c, e = .returned (.slice A l.length c) ∧ Own w' w.heap.size 38 3 (.slice A l.length c) l.length (rowsC l) ∧ Keeps w w' := by
  obtain ⟨v, hb, ho, -⟩ := h.row
  obtain ⟨A, c, rfl, -⟩ := ho.form
  have CL := Lib.hid (cloneRec_any A l.length c l w ho.at_ rfl ho.recapj (by have := h.len; omega))
  have c1 := hb.cell 1 rfl
  clear hb ho h
  go_enter Tryz.func12, Tryz.ntmps12
  go_wp2_with fail
  refine CL.out.mono ?_
  rintro e w1 ⟨v1, rfl, o1, k1⟩
  obtain ⟨A1, c1', rfl, -⟩ := o1.form
  go_wp2_with fail
  go_ret
  exact ⟨A1, c1', rfl, o1, k1⟩
theorem jrRecs_nil (w : World) : Calls Tryz.prog 12 #[.pointer none] w fun e w' => e = .returned (.slice none 0 0) ∧ Keeps w w' := by
  go_enter Tryz.func12, Tryz.ntmps12
  go_wp2_with fail
  go_ret
  exact ⟨rfl, keeps_refl _⟩
end
end Go.Proofs.YtiohijkelagloaaGreatDoor
