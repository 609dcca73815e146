/- Layer 9's statements: the same records; the anchor. -/
import Derived.Test.YtiohijkelagloaaGreatDoorQJr4
import Derived.Test.YtiohijkelagloaaGreatDoorQJrMath
import Derived.Laws.StructEq
import Derived.BigQuiet
import Derived.Test.YtiohijkelagloaaGreatDoorQJrU
import Derived.Test.YtiohijkelagloaaGreatDoorQRefJr5
import Derived.Test.YtiohijkelagloaaGreatDoorQLawDisk6
namespace Go.Proofs.YtiohijkelagloaaGreatDoor
open Go.RowKit
set_option linter.unusedSimpArgs false
set_option linter.unusedVariables false
set_option maxRecDepth 100000

/-- what a law leaves -/
def Yes9 (w : World) (e : Ending) (w' : World) : Prop := e = .returned (.bool true) ∧ Keeps w w'
theorem run_recEq (a b c a' b' c' : Int) (w : World) : (Op.equalIn 10000 38 (.agg #[.int .u32 a, .int .u32 b, .int .u32 c]) (.agg #[.int .u32 a', .int .u32 b', .int .u32 c'])).run Tryz.prog w = .ok (a == a' && b == b' && c == c') w := by
  have hu := Tryz.underlying36
  have hS : Tryz.prog.underlying 38 = some (.struct (Tryz.prog.fieldsOf 38)) := by simp [Program.fieldsOf, Tryz.underlying38]
  have hF : (Tryz.prog.fieldsOf 38).toList.map (fun f => (f.name, f.type, f.offset)) = [("Kind", 36, 0), ("A", 36, 1), ("B", 36, 2)] := by kernel_rfl
  show (Op.equalIn (9999 + 1) 38 _ _).run Tryz.prog w = _
  rw [run_equalIn_struct w 9999 38 _ _ hS (by kernel_rfl)]
  have hL : (Tryz.prog.fieldsOf 38).toList.length = 3 := by kernel_rfl
  generalize (Tryz.prog.fieldsOf 38).toList = fs at hF hL ⊢
  match fs, hL with
  | [f1, f2, f3], _ =>
    simp only [List.map_cons, List.map_nil, List.cons.injEq, Prod.mk.injEq, and_true] at hF
    obtain ⟨⟨n1, t1, o1⟩, ⟨n2, t2, o2⟩, ⟨n3, t3, o3⟩⟩ := hF
    have he : ∀ (x y : Int) (w : World), (Op.equalIn 9999 36 (.int .u32 x) (.int .u32 y)).run Tryz.prog w = .ok (x == y) w := fun x y w => run_equalIn_int w 9998 36 .u32 .u32 _ _ hu
    have p0 : ∀ (a b c : Int) (w : World), (part 36 #[.int .u32 a, .int .u32 b, .int .u32 c] 0).run Tryz.prog w = .ok (.int .u32 a) w := fun a b c w => by simp [part, hu, underlying, isAgg]
    have p1 : ∀ (a b c : Int) (w : World), (part 36 #[.int .u32 a, .int .u32 b, .int .u32 c] 1).run Tryz.prog w = .ok (.int .u32 b) w := fun a b c w => by simp [part, hu, underlying, isAgg]
    have p2 : ∀ (a b c : Int) (w : World), (part 36 #[.int .u32 a, .int .u32 b, .int .u32 c] 2).run Tryz.prog w = .ok (.int .u32 c) w := fun a b c w => by simp [part, hu, underlying, isAgg]
    generalize 9999 = dd at *
    simp only [Op.eqFields, n1, n2, n3, t1, t2, t3, o1, o2, o3, Sem.run_bind, Sem.run_ite, p0, p1, p2, Result.andThen_ok, he]
    by_cases h1 : a = a'
    · by_cases h2 : b = b'
      · by_cases h3 : c = c'
        · simp [h1, h2, h3]
        · simp [h1, h2, h3]
      · simp [h1, h2]
    · simp [h1]
theorem rec_beq (r q : RecS) : ((r.kind : Int) == (q.kind : Int) && (r.a : Int) == (q.a : Int) && (r.b : Int) == (q.b : Int)) = decide (r = q) := by
  by_cases h : r = q
  · subst h; simp
  · rw [decide_eq_false h]
    by_cases h1 : r.kind = q.kind
    · by_cases h2 : r.a = q.a
      · by_cases h3 : r.b = q.b
        · exact absurd (RecS.ext' h1 h2 h3) h
        · have : ¬ (r.b : Int) = (q.b : Int) := by omega
          simp [this]
      · have : ¬ (r.a : Int) = (q.a : Int) := by omega
        simp [this]
    · have : ¬ (r.kind : Int) = (q.kind : Int) := by omega
      simp [this]
theorem rowsC_get (l : List RecS) (j k : Nat) (hk : k < 3) : (rowsC l)[j * 3 + k]? = (l[j]?).bind fun r => (recC r)[k]? := by
  induction l generalizing j with
  | nil => simp [rowsC]
  | cons r l ih =>
    cases j with
    | zero =>
      simp only [rowsC, List.flatMap_cons, Nat.zero_mul, Nat.zero_add, List.getElem?_cons_zero, Option.bind_some]
      rw [List.getElem?_append_left (by rw [recC_length]; exact hk)]
    | succ j =>
      have h := ih j
      simp only [rowsC, List.flatMap_cons, List.getElem?_cons_succ] at h ⊢
      rw [List.getElem?_append_right (by rw [recC_length]; omega), recC_length, show (j + 1) * 3 + k - 3 = j * 3 + k by omega]
      exact h
theorem add_posJ (p : Addr) (k : Nat) (hk : 0 < k) : p.add k = ⟨p.block, p.off + k, none⟩ := by unfold Addr.add; rw [if_neg (by omega)]
/-- the cells of one record -/
theorem rec_cells {w : World} {B : Nat} {A : Option Addr} {l : List RecS} (h : At w B A (rowsC l)) {j : Nat} {r : RecS} (hr : l[j]? = some r) :
    ∃ ad, A = some ad ∧ w.cell? (ad.add (j * 3)) = some (.int .u32 (r.kind : Int)) ∧ w.cell? ⟨(ad.add (j * 3)).block, (ad.add (j * 3)).off + 1, none⟩ = some (.int .u32 (r.a : Int)) ∧ w.cell? ⟨(ad.add (j * 3)).block, (ad.add (j * 3)).off + 2, none⟩ = some (.int .u32 (r.b : Int)) := by
  have hj : j < l.length := (List.getElem?_eq_some_iff.1 hr).1
  have hL := rowsC_length l
  obtain ⟨ad, e, -, -⟩ := At.get h (k := j * 3) (by omega)
  refine ⟨ad, e, ?_, ?_, ?_⟩
  · obtain ⟨ad', e', -, hc⟩ := At.get h (k := j * 3 + 0) (by omega)
    rw [e] at e'
    obtain rfl := Option.some.inj e'
    rw [rowsC_get _ _ _ (by decide), hr] at hc
    exact hc
  · obtain ⟨ad', e', -, hc⟩ := At.get h (k := j * 3 + 1) (by omega)
    rw [e] at e'
    obtain rfl := Option.some.inj e'
    rw [rowsC_get _ _ _ (by decide), hr, ← addr_add, add_posJ _ _ (by decide)] at hc
    exact hc
  · obtain ⟨ad', e', -, hc⟩ := At.get h (k := j * 3 + 2) (by omega)
    rw [e] at e'
    obtain rfl := Option.some.inj e'
    rw [rowsC_get _ _ _ (by decide), hr, ← addr_add, add_posJ _ _ (by decide)] at hc
    exact hc
set_option maxHeartbeats 4000000 in
theorem same9_any (A : Option Addr) (n c : Nat) (l : List RecS) (B : Option Addr) (m d : Nat) (k : List RecS) (w : World) (hA : At w w.heap.size A (rowsC l)) (hn : n = l.length) (hB : At w w.heap.size B (rowsC k)) (hm : m = k.length) (hmax : n ≤ 1000000) :
    Calls Tryz.prog 11 #[.slice A n c, .slice B m d] w fun e w' => e = .returned (.bool (decide (l = k))) ∧ Keeps w w' := by
  by_cases h : n = m
  · subst h
    have HN := Lib.hid hn
    have HM := Lib.hid hm
    have HA := Lib.hid hA
    have HB := Lib.hid hB
    clear hn hm hA hB
    obtain ⟨RR, hRR⟩ : ∃ RR, decide (l = k) = RR := ⟨_, rfl⟩
    rw [hRR]
    have HRR := Lib.hid hRR
    clear hRR
    go_enter Tryz.func11, Tryz.ntmps11
    go_wp2_with fail
    go_loopw [5] (fun i wr => ∃ j : Nat, j ≤ n ∧ i = .int .i64 j ∧ l.take j = k.take j ∧ Keeps w wr) (fun i _ => n - (intOf i).toNat)
    case atStart => exact ⟨0, Nat.zero_le _, rfl, rfl, keeps_refl _⟩
    case round =>
      obtain ⟨j, hj, rfl, hpre, hkp⟩ := hrel
      have HP := Lib.hid hpre
      clear hpre
      by_cases hlt : j < n
      · have hjn : (j : Int) < (n : Int) := by omega
        obtain ⟨r, hr⟩ : ∃ r, l[j]? = some r := ⟨_, List.getElem?_eq_getElem (by have := HN.out; omega)⟩
        obtain ⟨q, hq⟩ : ∃ q, k[j]? = some q := ⟨_, List.getElem?_eq_getElem (by have := HM.out; omega)⟩
        obtain ⟨ad, rfl, a0, a1, a2⟩ := rec_cells (At.keep HA.out hkp) hr
        obtain ⟨bd, rfl, b0, b1, b2⟩ := rec_cells (At.keep HB.out hkp) hq
        have EQ := run_recEq (r.kind : Int) (r.a : Int) (r.b : Int) (q.kind : Int) (q.a : Int) (q.b : Int)
        rw [rec_beq] at EQ
        have G1 := Lib.hid hr
        have G2 := Lib.hid hq
        clear hr hq
        by_cases hv : r = q
        · have PN := Lib.hid (show l.take (j + 1) = k.take (j + 1) by
            rw [List.take_add_one, List.take_add_one, HP.out, G1.out, G2.out, hv])
          rw [decide_eq_true hv] at EQ
          clear hv
          go_wp2_with fail
          go_quiet (fail)
          go_wp2_with fail
          go_roundw
          case rel => exact ⟨j + 1, by omega, by go_num, PN.out, keeps_trans hkp (keeps_drewN _ _)⟩
          case measure => simp [intOf]; omega
        · have NO := Lib.hid (show RR = false by
            rw [← HRR.out]
            refine decide_eq_false fun e => hv ?_
            have h1 := G1.out
            rw [e, G2.out] at h1
            exact (Option.some.inj h1).symm)
          rw [decide_eq_false hv] at EQ
          clear hv
          go_wp2_with fail
          go_quiet (fail)
          go_wp2_with fail
          go_ret
          exact ⟨by rw [NO.out]; rfl, keeps_trans hkp (keeps_drewN _ _)⟩
      · obtain rfl : j = n := by omega
        have YES := Lib.hid (show RR = true by
          rw [← HRR.out]
          refine decide_eq_true ?_
          have h1 := HP.out
          have h2 : l.take j = l := by rw [HN.out, List.take_length]
          have h3 : k.take j = k := by rw [HM.out, List.take_length]
          rwa [h2, h3] at h1)
        clear hlt hj
        go_wp2_with fail
        go_ret
        exact ⟨by rw [YES.out]; rfl, hkp⟩
  · have e1 : (decide (l = k)) = false := decide_eq_false (fun e => h (by rw [hn, hm, e]))
    rw [e1]
    have h' : ((n : Int) != (m : Int)) = true := by rw [bne_iff_ne]; omega
    have HN := Lib.hid hn
    have HM := Lib.hid hm
    clear hn hm h e1 hA hB
    go_enter Tryz.func11, Tryz.ntmps11
    go_wp2_with fail
    go_ret
    exact ⟨rfl, keeps_refl _⟩
def rec1 : RecS := ⟨1, 2, 3⟩
theorem rec1_ok : RecOk rec1 := ⟨by decide, by decide, by decide⟩
theorem fine1 : Fine [rec1] := Fine.nil.snoc rec1_ok (by decide)
set_option maxHeartbeats 8000000 in
theorem works9 (K : DiskOk) (w : World) (hZ : K.Z w) (hS : Sizes w) : Calls Tryz.prog 6 #[] w (Yes9 w) := by
  have N := Lib.hid (K.new 10 w hZ (by decide) (by decide))
  have HZ := Lib.hid hZ
  have HS := Lib.hid hS
  have o0 : openJ ⟨[], 10, 0, false⟩ = (DJ 10 (syncF f0J) 0 false, 0, []) := by rw [openJ_none]; rfl
  obtain ⟨g1, ha, hc1⟩ := addJ_on (q := 10) Clean.none.sync (r := rec1) (by decide) (by decide) (by decide)
  obtain ⟨g2, ho2, hc2⟩ : ∃ g2, openJ (DJ 10 g1 0 false) = (DJ 10 g2 0 false, 0, [rec1]) ∧ Clean g2 [rec1] := by
    have := openJ_clean (q := 10) hc1 fine1 (by decide) 0
    exact ⟨_, this, hc1.sync⟩
  have OPN := Lib.hid o0
  have ADD := Lib.hid ha
  have OPN2 := Lib.hid ho2
  clear hZ hS o0 ha ho2 hc1 hc2
  go_enter Tryz.func6, Tryz.ntmps6
  go_wp2_with fail
  refine N.out.mono ?_
  rintro e w1 (⟨-, -, b, F, rfl, hD, hF, k1⟩ | ⟨h, -⟩)
  rotate_left
  · exfalso; omega
  have V1 := Lib.hid (show Have K w w1 b F ⟨[], 10, 0, false⟩ from ⟨hD, hF, k1⟩)
  have C1 := Lib.hid (jrOpen_any V1.out HZ.out HS.out OPN.out)
  clear hD hF k1
  unfold dpt
  go_wp2_with fail
  refine C1.out.mono ?_
  rintro e w2 ⟨F2, h2, t2, ⟨-, j, G, rfl, hj, hd⟩ | ⟨hbad, -⟩⟩
  rotate_left
  · exact absurd rfl hbad
  have V2 := Lib.hid h2
  have C2 := Lib.hid (jrAdd_any h2 HZ.out HS.out (hj.base_le V1.out.kp.size) hd (Nat.le_refl _) rec1 rec1_ok ADD.out)
  rw [if_pos rfl] at C2
  clear h2 t2 hj hd
  unfold recC rec1 at C2
  go_wp2_with fail
  refine C2.out.mono ?_
  rintro e w3 ⟨rfl, F3, G3, h3, j3, d3, -⟩
  have V3 := Lib.hid h3
  have C3 := Lib.hid (jrOpen_any h3 HZ.out HS.out OPN2.out)
  clear h3 j3 d3
  go_wp2_with fail
  refine C3.out.mono ?_
  rintro e w4 ⟨F4, h4, t4, ⟨-, j4, G4, rfl, hj4, hd4⟩ | ⟨hbad, -⟩⟩
  rotate_left
  · exact absurd rfl hbad
  have V4 := Lib.hid h4
  have C4 := Lib.hid (jrRecs_any hj4)
  clear h4 t4 hj4 hd4
  go_wp2_with fail
  refine C4.out.mono ?_
  rintro e w5 ⟨A5, c5, rfl, o5, k5⟩
  obtain ⟨ad, rfl, -, q1, -⟩ := rec_cells o5.at_ (j := 0) (r := rec1) rfl
  obtain ⟨g, hg, -⟩ := o5.cell (j := 0) (by simp [rowsC, recC])
  obtain rfl := Option.some.inj hg
  have q2 : w5.cell? ⟨g, 1, none⟩ = some (.int .u32 2) := q1
  have K5 := Lib.hid (keeps_trans V4.out.kp k5)
  rw [show ([rec1] : List RecS).length = 1 from rfl]
  clear o5 k5 q1
  go_wp2_with fail
  go_ret
  exact ⟨rfl, K5.out⟩
end Go.Proofs.YtiohijkelagloaaGreatDoor
/- JournalPlays. (Written by mkplays9w.py.) -/
namespace Go.Proofs.YtiohijkelagloaaGreatDoor
open Go.RowKit
set_option linter.unusedSimpArgs false
set_option linter.unusedVariables false
set_option maxRecDepth 100000

set_option maxHeartbeats 32000000 in
theorem plays9_walk (K : DiskOk) (R : Ref.DiskOk) (q : Int) (hq : IsI q) (A : Option Addr) (n c : Nat) (l : List Op9) (w : World) (hZ : K.Z w) (hY : R.Z w) (hS : Sizes w) (h : Ops9At w A l) (hn : n = l.length) (hm : n ≤ 9223372036854775807) :
    Calls Tryz.prog 3 #[.int .i64 q, .slice A n c] w (Yes9 w) := by
  have WK := Lib.hid (fun (W : World) (q : Keeps w W) => works9 K W (K.keep hZ q) (hS.keep q))
  have VA := Lib.hid (vast9_any A n c l w h hn hm)
  have H := Lib.hid h
  have HN := Lib.hid hn
  have HZ := Lib.hid hZ
  have HY := Lib.hid hY
  have HQ := Lib.hid hq
  have HS := Lib.hid hS
  clear h hn hZ hY hq hS
  go_enter Tryz.func3, Tryz.ntmps3
  go_wp2_with fail
  refine VA.out.mono ?_
  rintro e w1 ⟨vv, rfl, k1, hv⟩
  have K1 := Lib.hid k1
  clear k1
  rcases vv with _ | _
  · have FW := Lib.hid (hv rfl)
    have NW := Lib.hid (K.new q w1 (K.keep HZ.out K1.out) HQ.out.1 HQ.out.2)
    have NR := Lib.hid (fun (V : World) (k : Keeps w1 V) => R.new q V (R.keep HY.out (keeps_trans K1.out k)) HQ.out.1 HQ.out.2)
    have hbi : (n : Int) ≤ 80 := by have := FW.out.most; have := HN.out; omega
    clear hv
    go_wp2_with fail
    refine NW.out.mono ?_
    rintro e w2 (⟨hq0, hq1, b, F, rfl, hD, hF, k2⟩ | ⟨hbad, rfl, k2⟩)
    · have HK := Lib.hid (show Have K w w2 b F ⟨[], q.toNat, 0, false⟩ from ⟨hD, fun i hi => Nat.le_trans K1.out.size (hF i hi), keeps_trans K1.out k2⟩)
      have Q2 := Lib.hid k2
      clear hD hF k2
      unfold dpt
      go_wp2_with fail
      refine (NR.out _ Q2.out).mono ?_
      rintro e w3 (⟨-, -, b2, F2, rfl, hD2, hF2, k3⟩ | ⟨hbad, -, -⟩)
      · have HK3 := Lib.hid (HK.out.keep k3)
        have HR3 := Lib.hid (show Ref.Have R w w3 b2 F2 ⟨[], q.toNat, 0, false⟩ from ⟨hD2, fun i hi => Nat.le_trans HK.out.kp.size (hF2 i hi), HK3.out.kp⟩)
        have DJ3 := Lib.hid (show ∀ i, (F i ∨ False) → ¬ (F2 i ∨ False) from fun i hi h2 => by
          rcases hi with hi | hi
          · rcases h2 with h2 | h2
            · have h3 := K.lt HK.out.D i hi
              have h4 := hF2 i h2
              omega
            · exact h2
          · exact hi)
        clear hD2 hF2 k3
        unfold dpt
        go_wp2_with fail
        go_loopw [11, 9, 10] (fun i v u wr => ∃ (j : Nat) (s : Ds) (F G F2 G2 : Nat → Prop) (jl : Option (List RecS)), j ≤ n ∧ i = .int .i64 j ∧ Hid (s.l.length ≤ 3 * j) ∧ Hid (Have K w wr b F s) ∧ Hid (Ref.Have R w wr b2 F2 s) ∧ Hid (JH wr w.heap.size b F G v jl) ∧ Hid (Ref.JH wr w.heap.size b2 F2 G2 u jl) ∧ Hid (∀ i, (F i ∨ G i) → ¬ (F2 i ∨ G2 i))) (fun i _ _ _ => n - (intOf i).toNat)
        case atStart => exact ⟨0, _, F, fun _ => False, F2, fun _ => False, none, Nat.zero_le _, rfl, Lib.hid (Nat.zero_le _), HK3, HR3, Lib.hid (.inl ⟨rfl, rfl, fun _ h => h⟩), Lib.hid (.inl ⟨rfl, rfl, fun _ h => h⟩), DJ3⟩
        case round =>
          obtain ⟨j, s, F, G, F2, G2, jl, hj, rfl, hsl, HH, RR, HJ, RJH, DJ⟩ := hrel
          by_cases hlt : j < n
          · have hjn : (j : Int) < (n : Int) := by omega
            obtain ⟨o, ho⟩ : ∃ o, l[j]? = some o := ⟨_, List.getElem?_eq_getElem (by have := HN.out; omega)⟩
            have HO := Lib.hid ho
            clear ho
            have OA := H.out.keep HH.out.kp
            obtain ⟨ad, rfl, q0⟩ := OA.cell0 HO.out
            have c0 : (wr).cell? (ad.add (j * 8)) = some (.int .i64 o.kind) := by have := q0 0 (by decide); simpa [op9C, Addr.add] using this
            have c1 := q0 1 (by decide)
            have c2 := q0 2 (by decide)
            have c3 := q0 3 (by decide)
            have c4 := q0 4 (by decide)
            have c5 := q0 5 (by decide)
            have c6 := q0 6 (by decide)
            have c7 := q0 7 (by decide)
            rw [add_pos6 _ _ (by decide)] at c1 c2 c3 c4 c5 c6 c7
            simp only [op9C, List.getElem?_cons_zero, List.getElem?_cons_succ] at c1 c2 c3 c4 c5 c6 c7
            have fe := FW.out.each o (List.mem_of_getElem? HO.out)
            have FE := Lib.hid fe
            obtain ⟨s5, r5, hdo⟩ : ∃ s5 r5, doJ s jl o = (s5, r5) := ⟨_, _, rfl⟩
            obtain ⟨E5, jl5⟩ := r5
            have DO := Lib.hid (show Calls Tryz.prog 9 _ _ (Done9 K w wr b F G (s5, E5, jl5)) by rw [← hdo]; exact does9_any HZ.out HS.out HH.out HJ.out o (H.out.ok o (List.mem_of_getElem? HO.out)) fe.1 fe.2)
            have SL5 := Lib.hid (show s5.l.length ≤ 3 * (j + 1) by have h1 := doJ_len s jl o; rw [hdo] at h1; simp only at h1; have := hsl.out; omega)
            have HDO := Lib.hid hdo
            unfold op9C at DO
            clear q0 OA fe hdo
            go_wp2_with fail
            refine DO.out.mono ?_
            rintro e w5 ⟨F5, G5, v5, he, h5, j5, t5⟩
            dsimp only at he h5 j5
            subst he
            have H5 := Lib.hid h5
            have J5 := Lib.hid j5
            have R5 := Lib.hid (show Ref.Have R w w5 b2 F2 s from ⟨R.same RR.out.D (fun i hi => t5.only.block i (R.lt RR.out.D i hi) (fun e => DJ.out i e (.inl hi))) t5.only.size, RR.out.low, h5.kp⟩)
            have RJ5 := Lib.hid (RJH.out.far t5 (fun i hi e => DJ.out i e (.inr hi)))
            have DJ5 := Lib.hid (show ∀ i, (F5 i ∨ G5 i) → ¬ (F2 i ∨ G2 i) from fun i hi h2 => by
              have lt : i < wr.heap.size := by
                rcases h2 with h2 | h2
                · exact R.lt RR.out.D i h2
                · exact RJH.out.lt i h2
              exact t5.notIn lt (fun e => DJ.out i e h2) hi)
            clear h5 j5 t5 c0 c1 c2 c3 c4 c5 c6 c7 DO
            have OA := H.out.keep H5.out.kp
            obtain ⟨ad', e', q0⟩ := OA.cell0 HO.out
            obtain rfl := Option.some.inj e'
            have c0 : (w5).cell? (ad.add (j * 8)) = some (.int .i64 o.kind) := by have := q0 0 (by decide); simpa [op9C, Addr.add] using this
            have c1 := q0 1 (by decide)
            have c2 := q0 2 (by decide)
            have c3 := q0 3 (by decide)
            have c4 := q0 4 (by decide)
            have c5 := q0 5 (by decide)
            have c6 := q0 6 (by decide)
            have c7 := q0 7 (by decide)
            rw [add_pos6 _ _ (by decide)] at c1 c2 c3 c4 c5 c6 c7
            simp only [op9C, List.getElem?_cons_zero, List.getElem?_cons_succ] at c1 c2 c3 c4 c5 c6 c7
            have MO := Lib.hid (show Calls Tryz.prog 10 _ _ (Ref.Done9 R w w5 b2 F2 G2 (s5, E5, jl5)) by rw [← HDO.out]; exact Ref.does9_any HY.out (by have := hsl.out; omega) R5.out RJ5.out o (H.out.ok o (List.mem_of_getElem? HO.out)) FE.out.1 FE.out.2)
            unfold op9C at MO
            clear q0 OA
            go_wp2_with fail
            refine MO.out.mono ?_
            rintro e w6 ⟨F6, G6, v6, he, h6, j6, t6⟩
            dsimp only at he h6 j6
            subst he
            have R6 := Lib.hid h6
            have H6 := Lib.hid (show Have K w w6 b F5 s5 from ⟨K.same H5.out.D (fun i hi => t6.only.block i (K.lt H5.out.D i hi) (fun e => DJ5.out i (.inl hi) e)) t6.only.size, H5.out.low, h6.kp⟩)
            have J6 := J5.out.far t6 (fun i hi e => DJ5.out i (.inr hi) e)
            have DJ6 := Lib.hid (show ∀ i, (F5 i ∨ G5 i) → ¬ (F6 i ∨ G6 i) from fun i hi => by
              have lt : i < w5.heap.size := by
                rcases hi with hi | hi
                · exact K.lt H5.out.D i hi
                · exact J5.out.lt i hi
              exact t6.notIn lt (DJ5.out i hi))
            have y1 : ((E5 : Int) != (E5 : Int)) = false := by simp
            clear h6 t6 c0 c1 c2 c3 c4 c5 c6 c7 MO J5
            rcases J6 with ⟨rfl, hjl, hG⟩ | ⟨a, ll, rfl, hjl, ja, da⟩
            · rcases j6 with ⟨rfl, -, hG2⟩ | ⟨a2, l2, -, hjl2, -, -⟩
              rotate_left
              · rw [hjl] at hjl2; cases hjl2
              subst hjl
              have RC := Lib.hid (jrRecs_nil w6)
              have J9 := Lib.hid (show JH w6 w.heap.size b F5 G5 (.pointer none) none from .inl ⟨rfl, rfl, hG⟩)
              have RJ9 := Lib.hid (show Ref.JH w6 w.heap.size b2 F6 G6 (.pointer none) none from .inl ⟨rfl, rfl, hG2⟩)
              clear hG hG2
              go_wp2_with fail
              refine RC.out.mono ?_
              rintro e w7 ⟨rfl, k7⟩
              have RC2 := Lib.hid (Ref.jrRecs_nil w7)
              have K7 := Lib.hid k7
              clear k7
              go_wp2_with fail
              refine RC2.out.mono ?_
              rintro e w8 ⟨rfl, k8⟩
              have SM := Lib.hid (same9_any none 0 0 [] none 0 0 [] w8 (At.nil _ _ _) rfl (At.nil _ _ _) rfl (by decide))
              rw [decide_eq_true rfl] at SM
              have K8 := Lib.hid (keeps_trans K7.out k8)
              clear k8
              go_wp2_with fail
              refine SM.out.mono ?_
              rintro e w9 ⟨rfl, k9⟩
              have K9 := Lib.hid (keeps_trans K8.out k9)
              have H9 := Lib.hid (H6.out.keep K9.out)
              have R9 := Lib.hid (R6.out.keep K9.out)
              have J99 := Lib.hid (J9.out.keep K9.out)
              have RJ99 := Lib.hid (RJ9.out.keep K9.out)
              clear k9
              go_wp2_with fail
              first
                | exact ⟨⟨j + 1, s5, F5, G5, F6, G6, _, by omega, by go_num, SL5, H9, R9, J99, RJ99, DJ6⟩, by simp [intOf]; omega⟩
                | (refine ⟨?_, by simp [intOf]; omega⟩
                   (repeat apply Exists.intro)
                   refine ⟨?_, rfl⟩
                   exact ⟨j + 1, s5, F5, G5, F6, G6, _, by omega, by go_num, SL5, H9, R9, J99, RJ99, DJ6⟩)
            · rcases j6 with ⟨-, hjl2, -⟩ | ⟨a2, l2, rfl, hjl2, rja, rda⟩
              · rw [hjl] at hjl2; cases hjl2
              subst hjl
              obtain rfl := Option.some.inj hjl2
              clear hjl2
              obtain ⟨N, hN⟩ : ∃ N, ll.length = N := ⟨_, rfl⟩
              have RC := Lib.hid (jrRecs_any ja)
              have NB := Lib.hid (show N ≤ 65536 by have := ja.len; omega)
              rw [hN] at RC
              have HN9 := Lib.hid hN
              have RJ := Lib.hid rja
              have J9 := Lib.hid (show JH w6 w.heap.size b F5 G5 (.pointer (some ⟨a, 0, none⟩)) (some ll) from .inr ⟨a, ll, rfl, rfl, ja, da⟩)
              have RJ9 := Lib.hid (show Ref.JH w6 w.heap.size b2 F6 G6 (.pointer (some ⟨a2, 0, none⟩)) (some ll) from .inr ⟨a2, ll, rfl, rfl, rja, rda⟩)
              clear ja da rja rda hN
              go_wp2_with fail
              refine RC.out.mono ?_
              rintro e w7 ⟨A7, c7', rfl, o7, k7⟩
              have RC2 := Lib.hid (Ref.jrRecs_any (RJ.out.keep k7))
              rw [HN9.out] at RC2
              have O7 := Lib.hid o7
              have K7 := Lib.hid k7
              clear o7 k7
              go_wp2_with fail
              refine RC2.out.mono ?_
              rintro e w8 ⟨A8, c8', rfl, o8, k8⟩
              have SM := Lib.hid (same9_any A7 N c7' ll A8 N c8' ll w8 (O7.out.keep k8).at_ HN9.out.symm o8.at_ HN9.out.symm (by have := NB.out; omega))
              rw [decide_eq_true rfl] at SM
              have K8 := Lib.hid (keeps_trans K7.out k8)
              clear k8
              go_wp2_with fail
              refine SM.out.mono ?_
              rintro e w9 ⟨rfl, k9⟩
              have K9 := Lib.hid (keeps_trans K8.out k9)
              have H9 := Lib.hid (H6.out.keep K9.out)
              have R9 := Lib.hid (R6.out.keep K9.out)
              have J99 := Lib.hid (J9.out.keep K9.out)
              have RJ99 := Lib.hid (RJ9.out.keep K9.out)
              clear k9
              go_wp2_with fail
              first
                | exact ⟨⟨j + 1, s5, F5, G5, F6, G6, _, by omega, by go_num, SL5, H9, R9, J99, RJ99, DJ6⟩, by simp [intOf]; omega⟩
                | (refine ⟨?_, by simp [intOf]; omega⟩
                   (repeat apply Exists.intro)
                   refine ⟨?_, rfl⟩
                   exact ⟨j + 1, s5, F5, G5, F6, G6, _, by omega, by go_num, SL5, H9, R9, J99, RJ99, DJ6⟩)
          · obtain rfl : j = n := by omega
            clear hlt hj
            have FI := Lib.hid (K.files (HH.out.z HZ.out) HH.out.D (by have := hsl.out; omega))
            have FR := Lib.hid (fun (V : World) (k : Keeps wr V) => R.files ((RR.out.keep k).z HY.out) (RR.out.keep k).D (by have := hsl.out; omega))
            have OKS := Lib.hid (K.ok HH.out.D)
            unfold dpt at FI FR
            go_wp2_with fail
            refine FI.out.mono ?_
            rintro e w4 ⟨v4, rfl, f4, k4⟩
            have F4 := Lib.hid f4
            have K4 := Lib.hid k4
            clear f4 k4
            go_wp2_with fail
            refine (FR.out _ K4.out).mono ?_
            rintro e w5 ⟨v5, rfl, f5, k5⟩
            have SF := Lib.hid (samefiles_any _ _ v4 v5 _ _ w5 (F4.out.keep k5) f5 (by rw [List.length_map]; have := hsl.out; omega) (by rw [List.length_map]; have := hsl.out; omega) (by
              intro p hp
              obtain ⟨f, hf, rfl⟩ := List.mem_map.1 hp
              exact (OKS.out.files f hf).size))
            rw [decide_eq_true rfl] at SF
            have K5 := Lib.hid (keeps_trans HH.out.kp (keeps_trans K4.out k5))
            clear f5 k5
            go_wp2_with fail
            refine SF.out.mono ?_
            rintro e w6 ⟨rfl, k6⟩
            have K6 := Lib.hid (keeps_trans K5.out k6)
            clear k6
            go_wp2_with fail
            refine (WK.out _ K6.out).mono ?_
            rintro e w7 ⟨rfl, k7⟩
            go_wp2_with fail
            go_ret
            exact ⟨rfl, keeps_trans K6.out k7⟩
      · exfalso
        omega
    · go_wp2_with fail
      refine (NR.out _ k2).mono ?_
      rintro e w3 (⟨h0, h1, -⟩ | ⟨-, rfl, k3⟩)
      · exfalso
        omega
      · have K3 := Lib.hid (keeps_trans K1.out (keeps_trans k2 k3))
        clear k2 k3
        go_wp2_with fail
        refine (WK.out _ K3.out).mono ?_
        rintro e w4 ⟨rfl, k4⟩
        go_wp2_with fail
        go_ret
        exact ⟨rfl, keeps_trans K3.out k4⟩
  · clear hv
    go_wp2_with fail
    refine (WK.out _ K1.out).mono ?_
    rintro e w2 ⟨rfl, k2⟩
    go_wp2_with fail
    go_ret
    exact ⟨rfl, keeps_trans K1.out k2⟩
end Go.Proofs.YtiohijkelagloaaGreatDoor
