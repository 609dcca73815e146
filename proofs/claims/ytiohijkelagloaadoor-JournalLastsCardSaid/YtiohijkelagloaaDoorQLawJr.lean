/- Layer 9's statements: the same records; the anchor. -/
import Derived.Test.YtiohijkelagloaaDoorQJr4
import Derived.Test.YtiohijkelagloaaDoorQJrMath
import Derived.Laws.StructEq
import Derived.BigQuiet
import Derived.Deep.RegionHeld3
namespace Go.Proofs.YtiohijkelagloaaDoor
open Go.RowKit
set_option linter.unusedSimpArgs false
set_option linter.unusedVariables false
set_option maxRecDepth 100000

/-- what a law leaves -/
def Yes9 (w : World) (e : Ending) (w' : World) : Prop := e = .returned (.bool true) ∧ Keeps w w'
theorem run_recEq (a b c a' b' c' : Int) (w : World) : (Op.equalIn 10000 43 (.agg #[.int .u32 a, .int .u32 b, .int .u32 c]) (.agg #[.int .u32 a', .int .u32 b', .int .u32 c'])).run Tryd.prog w = .ok (a == a' && b == b' && c == c') w := by
  have hu := Tryd.underlying41
  have hS : Tryd.prog.underlying 43 = some (.struct (Tryd.prog.fieldsOf 43)) := by simp [Program.fieldsOf, Tryd.underlying43]
  have hF : (Tryd.prog.fieldsOf 43).toList.map (fun f => (f.name, f.type, f.offset)) = [("Kind", 41, 0), ("A", 41, 1), ("B", 41, 2)] := by kernel_rfl
  show (Op.equalIn (9999 + 1) 43 _ _).run Tryd.prog w = _
  rw [run_equalIn_struct w 9999 43 _ _ hS (by kernel_rfl)]
  have hL : (Tryd.prog.fieldsOf 43).toList.length = 3 := by kernel_rfl
  generalize (Tryd.prog.fieldsOf 43).toList = fs at hF hL ⊢
  match fs, hL with
  | [f1, f2, f3], _ =>
    simp only [List.map_cons, List.map_nil, List.cons.injEq, Prod.mk.injEq, and_true] at hF
    obtain ⟨⟨n1, t1, o1⟩, ⟨n2, t2, o2⟩, ⟨n3, t3, o3⟩⟩ := hF
    have he : ∀ (x y : Int) (w : World), (Op.equalIn 9999 41 (.int .u32 x) (.int .u32 y)).run Tryd.prog w = .ok (x == y) w := fun x y w => run_equalIn_int w 9998 41 .u32 .u32 _ _ hu
    have p0 : ∀ (a b c : Int) (w : World), (part 41 #[.int .u32 a, .int .u32 b, .int .u32 c] 0).run Tryd.prog w = .ok (.int .u32 a) w := fun a b c w => by simp [part, hu, underlying, isAgg]
    have p1 : ∀ (a b c : Int) (w : World), (part 41 #[.int .u32 a, .int .u32 b, .int .u32 c] 1).run Tryd.prog w = .ok (.int .u32 b) w := fun a b c w => by simp [part, hu, underlying, isAgg]
    have p2 : ∀ (a b c : Int) (w : World), (part 41 #[.int .u32 a, .int .u32 b, .int .u32 c] 2).run Tryd.prog w = .ok (.int .u32 c) w := fun a b c w => by simp [part, hu, underlying, isAgg]
    generalize 9999 = dd at *
    simp only [Op.eqFields, n1, n2, n3, t1, t2, t3, o1, o2, o3, Sem.run_bind, Sem.run_ite, p0, p1, p2, Result.andThen_ok, he]
    by_cases h1 : a = a'
    · by_cases h2 : b = b'
      · by_cases h3 : c = c'
        · simp [h1, h2, h3]
        · simp [h1, h2, h3]
      · simp [h1, h2]
    · simp [h1]
theorem rec_beq (r q : RecS) : ((r.kind : Int) == (q.kind : Int) && (r.a : Int) == (q.a : Int) && (r.b : Int) == (q.b : Int)) = decide (r = q) := by
  by_cases h : r = q
  · subst h; simp
  · rw [decide_eq_false h]
    by_cases h1 : r.kind = q.kind
    · by_cases h2 : r.a = q.a
      · by_cases h3 : r.b = q.b
        · exact absurd (RecS.ext' h1 h2 h3) h
        · have : ¬ (r.b : Int) = (q.b : Int) := by omega
          simp [this]
      · have : ¬ (r.a : Int) = (q.a : Int) := by omega
        simp [this]
    · have : ¬ (r.kind : Int) = (q.kind : Int) := by omega
      simp [this]
theorem rowsC_get (l : List RecS) (j k : Nat) (hk : k < 3) : (rowsC l)[j * 3 + k]? = (l[j]?).bind fun r => (recC r)[k]? := by
  induction l generalizing j with
  | nil => simp [rowsC]
  | cons r l ih =>
    cases j with
    | zero =>
      simp only [rowsC, List.flatMap_cons, Nat.zero_mul, Nat.zero_add, List.getElem?_cons_zero, Option.bind_some]
      rw [List.getElem?_append_left (by rw [recC_length]; exact hk)]
    | succ j =>
      have h := ih j
      simp only [rowsC, List.flatMap_cons, List.getElem?_cons_succ] at h ⊢
      rw [List.getElem?_append_right (by rw [recC_length]; omega), recC_length, show (j + 1) * 3 + k - 3 = j * 3 + k by omega]
      exact h
theorem add_posJ (p : Addr) (k : Nat) (hk : 0 < k) : p.add k = ⟨p.block, p.off + k, none⟩ := by unfold Addr.add; rw [if_neg (by omega)]
/-- the cells of one record -/
theorem rec_cells {w : World} {B : Nat} {A : Option Addr} {l : List RecS} (h : At w B A (rowsC l)) {j : Nat} {r : RecS} (hr : l[j]? = some r) :
    ∃ ad, A = some ad ∧ w.cell? (ad.add (j * 3)) = some (.int .u32 (r.kind : Int)) ∧ w.cell? ⟨(ad.add (j * 3)).block, (ad.add (j * 3)).off + 1, none⟩ = some (.int .u32 (r.a : Int)) ∧ w.cell? ⟨(ad.add (j * 3)).block, (ad.add (j * 3)).off + 2, none⟩ = some (.int .u32 (r.b : Int)) := by
  have hj : j < l.length := (List.getElem?_eq_some_iff.1 hr).1
  have hL := rowsC_length l
  obtain ⟨ad, e, -, -⟩ := At.get h (k := j * 3) (by omega)
  refine ⟨ad, e, ?_, ?_, ?_⟩
  · obtain ⟨ad', e', -, hc⟩ := At.get h (k := j * 3 + 0) (by omega)
    rw [e] at e'
    obtain rfl := Option.some.inj e'
    rw [rowsC_get _ _ _ (by decide), hr] at hc
    exact hc
  · obtain ⟨ad', e', -, hc⟩ := At.get h (k := j * 3 + 1) (by omega)
    rw [e] at e'
    obtain rfl := Option.some.inj e'
    rw [rowsC_get _ _ _ (by decide), hr, ← addr_add, add_posJ _ _ (by decide)] at hc
    exact hc
  · obtain ⟨ad', e', -, hc⟩ := At.get h (k := j * 3 + 2) (by omega)
    rw [e] at e'
    obtain rfl := Option.some.inj e'
    rw [rowsC_get _ _ _ (by decide), hr, ← addr_add, add_posJ _ _ (by decide)] at hc
    exact hc
set_option maxHeartbeats 4000000 in
theorem same9_any (A : Option Addr) (n c : Nat) (l : List RecS) (B : Option Addr) (m d : Nat) (k : List RecS) (w : World) (hA : At w w.heap.size A (rowsC l)) (hn : n = l.length) (hB : At w w.heap.size B (rowsC k)) (hm : m = k.length) (hmax : n ≤ 1000000) :
    Calls Tryd.prog 19 #[.slice A n c, .slice B m d] w fun e w' => e = .returned (.bool (decide (l = k))) ∧ Keeps w w' := by
  by_cases h : n = m
  · subst h
    have HN := Lib.hid hn
    have HM := Lib.hid hm
    have HA := Lib.hid hA
    have HB := Lib.hid hB
    clear hn hm hA hB
    obtain ⟨RR, hRR⟩ : ∃ RR, decide (l = k) = RR := ⟨_, rfl⟩
    rw [hRR]
    have HRR := Lib.hid hRR
    clear hRR
    go_enter Tryd.func19, Tryd.ntmps19
    go_wp2_with fail
    go_loopw [5] (fun i wr => ∃ j : Nat, j ≤ n ∧ i = .int .i64 j ∧ l.take j = k.take j ∧ Keeps w wr) (fun i _ => n - (intOf i).toNat)
    case atStart => exact ⟨0, Nat.zero_le _, rfl, rfl, keeps_refl _⟩
    case round =>
      obtain ⟨j, hj, rfl, hpre, hkp⟩ := hrel
      have HP := Lib.hid hpre
      clear hpre
      by_cases hlt : j < n
      · have hjn : (j : Int) < (n : Int) := by omega
        obtain ⟨r, hr⟩ : ∃ r, l[j]? = some r := ⟨_, List.getElem?_eq_getElem (by have := HN.out; omega)⟩
        obtain ⟨q, hq⟩ : ∃ q, k[j]? = some q := ⟨_, List.getElem?_eq_getElem (by have := HM.out; omega)⟩
        obtain ⟨ad, rfl, a0, a1, a2⟩ := rec_cells (At.keep HA.out hkp) hr
        obtain ⟨bd, rfl, b0, b1, b2⟩ := rec_cells (At.keep HB.out hkp) hq
        have EQ := run_recEq (r.kind : Int) (r.a : Int) (r.b : Int) (q.kind : Int) (q.a : Int) (q.b : Int)
        rw [rec_beq] at EQ
        have G1 := Lib.hid hr
        have G2 := Lib.hid hq
        clear hr hq
        by_cases hv : r = q
        · have PN := Lib.hid (show l.take (j + 1) = k.take (j + 1) by
            rw [List.take_add_one, List.take_add_one, HP.out, G1.out, G2.out, hv])
          rw [decide_eq_true hv] at EQ
          clear hv
          go_wp2_with fail
          go_quiet (fail)
          go_wp2_with fail
          go_roundw
          case rel => exact ⟨j + 1, by omega, by go_num, PN.out, keeps_trans hkp (keeps_drewN _ _)⟩
          case measure => simp [intOf]; omega
        · have NO := Lib.hid (show RR = false by
            rw [← HRR.out]
            refine decide_eq_false fun e => hv ?_
            have h1 := G1.out
            rw [e, G2.out] at h1
            exact (Option.some.inj h1).symm)
          rw [decide_eq_false hv] at EQ
          clear hv
          go_wp2_with fail
          go_quiet (fail)
          go_wp2_with fail
          go_ret
          exact ⟨by rw [NO.out]; rfl, keeps_trans hkp (keeps_drewN _ _)⟩
      · obtain rfl : j = n := by omega
        have YES := Lib.hid (show RR = true by
          rw [← HRR.out]
          refine decide_eq_true ?_
          have h1 := HP.out
          have h2 : l.take j = l := by rw [HN.out, List.take_length]
          have h3 : k.take j = k := by rw [HM.out, List.take_length]
          rwa [h2, h3] at h1)
        clear hlt hj
        go_wp2_with fail
        go_ret
        exact ⟨by rw [YES.out]; rfl, hkp⟩
  · have e1 : (decide (l = k)) = false := decide_eq_false (fun e => h (by rw [hn, hm, e]))
    rw [e1]
    have h' : ((n : Int) != (m : Int)) = true := by rw [bne_iff_ne]; omega
    have HN := Lib.hid hn
    have HM := Lib.hid hm
    clear hn hm h e1 hA hB
    go_enter Tryd.func19, Tryd.ntmps19
    go_wp2_with fail
    go_ret
    exact ⟨rfl, keeps_refl _⟩
def rec1 : RecS := ⟨1, 2, 3⟩
theorem rec1_ok : RecOk rec1 := ⟨by decide, by decide, by decide⟩
theorem fine1 : Fine [rec1] := Fine.nil.snoc rec1_ok (by decide)
set_option maxHeartbeats 8000000 in
theorem works9 (K : DiskOk) (w : World) (hZ : K.Z w) (hS : Sizes w) : Calls Tryd.prog 10 #[] w (Yes9 w) := by
  have N := Lib.hid (K.new 10 w hZ (by decide) (by decide))
  have HZ := Lib.hid hZ
  have HS := Lib.hid hS
  have o0 : openJ ⟨[], 10, 0, false⟩ = (DJ 10 (syncF f0J) 0 false, 0, []) := by rw [openJ_none]; rfl
  obtain ⟨g1, ha, hc1⟩ := addJ_on (q := 10) Clean.none.sync (r := rec1) (by decide) (by decide) (by decide)
  obtain ⟨g2, ho2, hc2⟩ : ∃ g2, openJ (DJ 10 g1 0 false) = (DJ 10 g2 0 false, 0, [rec1]) ∧ Clean g2 [rec1] := by
    have := openJ_clean (q := 10) hc1 fine1 (by decide) 0
    exact ⟨_, this, hc1.sync⟩
  have OPN := Lib.hid o0
  have ADD := Lib.hid ha
  have OPN2 := Lib.hid ho2
  clear hZ hS o0 ha ho2 hc1 hc2
  go_enter Tryd.func10, Tryd.ntmps10
  go_wp2_with fail
  refine N.out.mono ?_
  rintro e w1 (⟨-, -, b, F, rfl, hD, hF, k1⟩ | ⟨h, -⟩)
  rotate_left
  · exfalso; omega
  have V1 := Lib.hid (show Have K w w1 b F ⟨[], 10, 0, false⟩ from ⟨hD, hF, k1⟩)
  have C1 := Lib.hid (jrOpen_any V1.out HZ.out HS.out OPN.out)
  clear hD hF k1
  unfold dpt
  go_wp2_with fail
  refine C1.out.mono ?_
  rintro e w2 ⟨F2, h2, t2, ⟨-, j, G, rfl, hj, hd⟩ | ⟨hbad, -⟩⟩
  rotate_left
  · exact absurd rfl hbad
  have V2 := Lib.hid h2
  have C2 := Lib.hid (jrAdd_any h2 HZ.out HS.out (hj.base_le V1.out.kp.size) hd (Nat.le_refl _) rec1 rec1_ok ADD.out)
  rw [if_pos rfl] at C2
  clear h2 t2 hj hd
  unfold recC rec1 at C2
  go_wp2_with fail
  refine C2.out.mono ?_
  rintro e w3 ⟨rfl, F3, G3, h3, j3, d3, -⟩
  have V3 := Lib.hid h3
  have C3 := Lib.hid (jrOpen_any h3 HZ.out HS.out OPN2.out)
  clear h3 j3 d3
  go_wp2_with fail
  refine C3.out.mono ?_
  rintro e w4 ⟨F4, h4, t4, ⟨-, j4, G4, rfl, hj4, hd4⟩ | ⟨hbad, -⟩⟩
  rotate_left
  · exact absurd rfl hbad
  have V4 := Lib.hid h4
  have C4 := Lib.hid (jrRecs_any hj4)
  clear h4 t4 hj4 hd4
  go_wp2_with fail
  refine C4.out.mono ?_
  rintro e w5 ⟨A5, c5, rfl, o5, k5⟩
  obtain ⟨ad, rfl, -, q1, -⟩ := rec_cells o5.at_ (j := 0) (r := rec1) rfl
  obtain ⟨g, hg, -⟩ := o5.cell (j := 0) (by simp [rowsC, recC])
  obtain rfl := Option.some.inj hg
  have q2 : w5.cell? ⟨g, 1, none⟩ = some (.int .u32 2) := q1
  have K5 := Lib.hid (keeps_trans V4.out.kp k5)
  rw [show ([rec1] : List RecS).length = 1 from rfl]
  clear o5 k5 q1
  go_wp2_with fail
  go_ret
  exact ⟨rfl, K5.out⟩
end Go.Proofs.YtiohijkelagloaaDoor
/- A journal that the laws fill. -/
namespace Go.Proofs.YtiohijkelagloaaDoor
open Go.RowKit
set_option linter.unusedSimpArgs false
set_option linter.unusedVariables false
set_option maxRecDepth 100000

/-- records as a slice that was handed in has them -/
structure RecsAt (w : World) (A : Option Addr) (l : List RecS) : Prop where
  cells : At w w.heap.size A (rowsC l)
  ok : ∀ r ∈ l, RecOk r
theorem RecsAt.keep {w w' : World} {A : Option Addr} {l : List RecS} (h : RecsAt w A l) (k : Keeps w w') : RecsAt w' A l := ⟨(h.cells.keep k).more k.size, h.ok⟩
/-- a new disk of 1024 sectors -/
theorem newJ_ (K : DiskOk) (w : World) (hZ : K.Z w) : Calls Tryd.prog 11 #[.int .i64 1024] w fun e w' => ∃ b F, e = .returned (.tuple #[.pointer (some ⟨b, 0, none⟩), .int .i64 0]) ∧ Have K w w' b F ⟨[], 1024, 0, false⟩ := by
  refine (K.new 1024 w hZ (by decide) (by decide)).mono ?_
  rintro e w' (⟨-, -, b, F, rfl, hD, hF, k⟩ | ⟨h, -⟩)
  · exact ⟨b, F, rfl, hD, hF, k⟩
  · exfalso; omega
theorem open0J : openJ ⟨[], 1024, 0, false⟩ = (DJ 1024 (syncF f0J) 0 false, 0, []) := by rw [openJ_none]; rfl
/-- a disk with a journal of these records, and the journal -/
structure LaidJ (K : DiskOk) (w w' : World) (b j : Nat) (F G : Nat → Prop) (f : Fl) (l : List RecS) : Prop where
  h : Have K w w' b F (DJ 1024 f 0 false)
  clean : Clean f l
  at_ : JrAt w' w.heap.size j b G l
  out : ∀ i, G i → ¬ F i
  fine : Fine l
theorem LaidJ.keep {K : DiskOk} {w w1 w2 : World} {b j : Nat} {F G : Nat → Prop} {f : Fl} {l : List RecS} (h : LaidJ K w w1 b j F G f l) (k : Keeps w1 w2) : LaidJ K w w2 b j F G f l := ⟨h.h.keep k, h.clean, h.at_.keep k, h.out, h.fine⟩
def FilledV (K : DiskOk) (w : World) (l : List RecS) (e : Ending) (w' : World) : Prop :=
  (∃ b j F G f, e = .returned (.tuple #[.pointer (some ⟨b, 0, none⟩), .pointer (some ⟨j, 0, none⟩), .bool true]) ∧ LaidJ K w w' b j F G f l) ∨
  (∃ b, e = .returned (.tuple #[.pointer (some ⟨b, 0, none⟩), .pointer none, .bool true]) ∧ Keeps w w')
set_option maxHeartbeats 8000000 in
theorem filled_any (K : DiskOk) (w : World) (hZ : K.Z w) (hS : Sizes w) (A : Option Addr) (n c : Nat) (l : List RecS) (h : RecsAt w A l) (hn : n = l.length) (hm : n ≤ 60) :
    Calls Tryd.prog 30 #[.slice A n c] w (FilledV K w l) := by
  have N := Lib.hid (newJ_ K w hZ)
  have HZ := Lib.hid hZ
  have HS := Lib.hid hS
  have H := Lib.hid h
  have HN := Lib.hid hn
  have hmi : (n : Int) ≤ 60 := by omega
  clear hZ hS h hn
  go_enter Tryd.func30, Tryd.ntmps30
  go_wp2_with fail
  refine N.out.mono ?_
  rintro e w1 ⟨b, F1, rfl, h1⟩
  have C1 := Lib.hid (jrOpen_any h1 HZ.out HS.out open0J)
  have K1 := Lib.hid h1.kp
  clear h1
  go_wp2_with fail
  refine C1.out.mono ?_
  rintro e w2 ⟨F2, h2, t2, ⟨-, jb, G2, rfl, hj, hd⟩ | ⟨hbad, -⟩⟩
  rotate_left
  · exact absurd rfl hbad
  have L2 := Lib.hid (show LaidJ K w w2 b jb F2 G2 (syncF f0J) [] from ⟨h2, Clean.none.sync, hj.base_le K1.out.size, hd, Fine.nil⟩)
  clear h2 t2 hj hd
  go_wp2_with fail
  go_loopw [8] (fun i wr => ∃ (j : Nat) (F' G' : Nat → Prop) (f : Fl), j ≤ n ∧ i = .int .i64 j ∧ Hid (LaidJ K w wr b jb F' G' f (l.take j))) (fun i _ => n - (intOf i).toNat)
  case atStart => exact ⟨0, F2, G2, _, Nat.zero_le _, rfl, L2⟩
  case round =>
    obtain ⟨j, F', G', f, hj, rfl, HL⟩ := hrel
    by_cases hlt : j < n
    · have hjn : (j : Int) < (n : Int) := by omega
      obtain ⟨r, hr⟩ : ∃ r, l[j]? = some r := ⟨_, List.getElem?_eq_getElem (by have := HN.out; omega)⟩
      have hro := H.out.ok r (List.mem_of_getElem? hr)
      have HR := Lib.hid hr
      obtain ⟨ad, rfl, a0, a1, a2⟩ := rec_cells (H.out.keep HL.out.h.kp).cells hr
      have htk : l.take (j + 1) = l.take j ++ [r] := by rw [List.take_add_one, hr]; rfl
      have HTK := Lib.hid htk
      have hlen : (l.take j).length = j := by rw [List.length_take]; have := HN.out; omega
      by_cases hk : r.kind = 0
      · have hkk : ((r.kind : Int) == 0) = true := by rw [beq_iff_eq]; omega
        have AD := Lib.hid (jrAdd_any HL.out.h HZ.out HS.out HL.out.at_ HL.out.out (Nat.le_refl _) r hro (addJ_none (s := DJ 1024 f 0 false) (l := l.take j) hk))
        rw [if_neg (by decide)] at AD
        unfold recC at AD
        clear hlen htk hr hk hlt
        go_wp2_with fail
        refine AD.out.mono ?_
        rintro e w3 ⟨rfl, F3, G3, h3, j3, d3, -⟩
        obtain ⟨ad', e', b0, b1, b2⟩ := rec_cells (H.out.keep h3.kp).cells HR.out
        obtain rfl := Option.some.inj e'
        have K3 := Lib.hid h3.kp
        clear h3 j3 d3 a0 a1 a2 e'
        go_wp2_with fail
        go_returns
        exact .inr ⟨b, rfl, K3.out⟩
      · have hkk : ((r.kind : Int) == 0) = false := by rw [beq_eq_false_iff_ne]; omega
        obtain ⟨g, hg, hcl⟩ := addJ_on (q := 1024) HL.out.clean (r := r) hk (by omega) (by omega)
        have AD := Lib.hid (jrAdd_any HL.out.h HZ.out HS.out HL.out.at_ HL.out.out (Nat.le_refl _) r hro hg)
        rw [if_pos rfl] at AD
        have FI := Lib.hid (HL.out.fine.snoc hro hk)
        have CL := Lib.hid hcl
        have e1 : ((0 : Int) != 0) = false := rfl
        unfold recC at AD
        clear hlen htk hr hk hlt hg hcl
        go_wp2_with fail
        refine AD.out.mono ?_
        rintro e w3 ⟨rfl, F3, G3, h3, j3, d3, -⟩
        obtain ⟨ad', e', b0, b1, b2⟩ := rec_cells (H.out.keep h3.kp).cells HR.out
        obtain rfl := Option.some.inj e'
        have L3 := Lib.hid (show LaidJ K w w3 b jb F3 G3 g (l.take (j + 1)) by rw [HTK.out]; exact ⟨h3, CL.out, j3, d3, FI.out⟩)
        clear h3 j3 d3 a0 a1 a2 e'
        go_wp2_with fail
        go_roundw
        case rel => exact ⟨j + 1, F3, G3, g, by omega, by go_num, L3⟩
        case measure => simp [intOf]; omega
    · obtain rfl : j = n := by omega
      have L9 := Lib.hid (show LaidJ K w wr b jb F' G' f l by have := HL.out; rwa [List.take_of_length_le (by have := HN.out; omega)] at this)
      clear hlt hj
      go_wp2_with fail
      go_returns
      exact .inl ⟨b, jb, F', G', f, rfl, L9.out⟩
end Go.Proofs.YtiohijkelagloaaDoor
/- JournalCut. -/
namespace Go.Proofs.YtiohijkelagloaaDoor
open Go.RowKit
set_option linter.unusedSimpArgs false
set_option linter.unusedVariables false
set_option maxRecDepth 100000

theorem recs_front {w : World} {A : Option Addr} {l : List RecS} (h : RecsAt w A l) (k : Nat) : At w w.heap.size A (rowsC (l.take k)) := by
  rw [rowsC_take]
  exact h.cells.take _
set_option maxHeartbeats 16000000 in
theorem cut9_walk (K : DiskOk) (A : Option Addr) (n c : Nat) (l : List RecS) (x : Nat) (hx : x < 65536) (w : World) (hZ : K.Z w) (hS : Sizes w) (h : RecsAt w A l) (hn : n = l.length) (hc : n ≤ c) (hnx : n ≤ maxLen) :
    Calls Tryd.prog 8 #[.slice A n c, .int .u16 (x : Int)] w (Yes9 w) := by
  have WK := Lib.hid (fun (W : World) (q : Keeps w W) => works9 K W (K.keep hZ q) (hS.keep q))
  have HZ := Lib.hid hZ
  have HS := Lib.hid hS
  have H := Lib.hid h
  have HN := Lib.hid hn
  unfold maxLen at hnx
  by_cases big : 60 < n
  · have bi : (60 : Int) < (n : Int) := by omega
    clear hZ hS h hn big
    go_enter Tryd.func8, Tryd.ntmps8
    go_wp2_with fail
    refine (WK.out _ (keeps_refl _)).mono ?_
    rintro e w9 ⟨rfl, k9⟩
    go_wp2_with fail
    go_ret
    exact ⟨rfl, k9⟩
  · have bi : ¬ (60 : Int) < (n : Int) := by omega
    have b0 : (n : Int) ≤ 60 := by omega
    have FI := Lib.hid (filled_any K w hZ hS A n c l h hn (by omega))
    obtain ⟨m, hm⟩ : ∃ m : Nat, 64 * n = m := ⟨_, rfl⟩
    obtain ⟨M, hM⟩ : ∃ M : Nat, m + 1 = M := ⟨_, rfl⟩
    obtain ⟨k, hk⟩ : ∃ k : Nat, x % M = k := ⟨_, rfl⟩
    obtain ⟨q, hq⟩ : ∃ q : Nat, k / 64 = q := ⟨_, rfl⟩
    obtain ⟨p, hp⟩ : ∃ p : Nat, q * 64 = p := ⟨_, rfl⟩
    have hkm : k < M := by rw [← hk]; exact Nat.mod_lt _ (by omega)
    have hmul : (64 : Int) * (n : Int) = (m : Int) := by omega
    have hsum : (m : Int) + 1 = (M : Int) := by omega
    have hM0 : ¬ (M : Int) = 0 := by omega
    have hrem : (x : Int).tmod (M : Int) = (k : Int) := by rw [Int.tmod_eq_emod_of_nonneg (by omega), ← Int.natCast_emod, hk]
    have hdiv : (k : Int).tdiv 64 = (q : Int) := by rw [Int.tdiv_eq_ediv_of_nonneg (by omega)]; omega
    have hpq : (q : Int) * 64 = (p : Int) := by omega
    have hqc : (q : Int) ≤ (c : Int) := by omega
    have hMb : (M : Int) ≤ 3841 := by omega
    have hkb : (k : Int) ≤ 3840 := by omega
    have hxi : (x : Int) ≤ 65535 := by omega
    have w1 : IntKind.i64.wrap (q : Int) = (q : Int) := IntWalk.i64_in _ (by omega)
    have w2 : IntKind.i64.wrap (p : Int) = (p : Int) := IntWalk.i64_in _ (by omega)
    have w3 : IntKind.i64.wrap (k : Int) = (k : Int) := IntWalk.i64_in _ (by omega)
    have HK := Lib.hid (And.intro hkm (And.intro hM (And.intro hm (And.intro hq hp))))
    have HNB := Lib.hid (show n ≤ 60 by omega)
    clear hZ hS h hn big hkm hM hm hq hp hk
    go_enter Tryd.func8, Tryd.ntmps8
    go_wp2_with fail
    refine FI.out.mono ?_
    rintro e u1 (⟨b, j, F, G, f, rfl, L1⟩ | ⟨b, rfl, k1⟩)
    rotate_left
    · go_wp2_with fail
      refine (WK.out _ k1).mono ?_
      rintro e w9 ⟨rfl, k9⟩
      go_wp2_with fail
      go_ret
      exact ⟨rfl, keeps_trans k1 k9⟩
    have hkl : k ≤ f.now.length := by
      have := L1.clean.len
      have := HN.out
      obtain ⟨a1, a2, a3, -⟩ := HK.out
      omega
    have CU := Lib.hid (L1.h.cut_ HZ.out nmJ (k : Int) ⟨by omega, by omega⟩ _ strJ.symm (cutj0 L1.clean.name hkl))
    have LL := Lib.hid L1
    clear L1 hkl
    go_wp2_with fail
    refine CU.out.mono ?_
    rintro e u2 ⟨rfl, F2, h2⟩
    obtain ⟨g, ho, hcl⟩ := openJ_file (q := 1024) (f := cutF f k) LL.out.clean.name
    have hrec : recsOf (cutF f k).now = l.take q := by
      show recsOf (f.now.take k) = _
      rw [LL.out.clean.now]
      obtain ⟨a1, a2, a3, a4, -⟩ := HK.out
      rw [recs_cut LL.out.fine (by have := HN.out; have := HNB.out; omega) (by have := HN.out; omega), a4]
    rw [hrec] at ho hcl
    have OP := Lib.hid (jrOpen_any h2 HZ.out HS.out ho)
    have K2 := Lib.hid h2.kp
    have CL := Lib.hid hcl
    clear h2 ho hcl hrec
    go_wp2_with fail
    refine OP.out.mono ?_
    rintro e u3 ⟨F3, h3, t3, ⟨-, j3, G3, rfl, hj3, hd3⟩ | ⟨hbad, -⟩⟩
    rotate_left
    · exact absurd rfl hbad
    have hlen : (l.take q).length = q := by
      rw [List.length_take]
      have := HN.out
      obtain ⟨a1, a2, a3, a4, -⟩ := HK.out
      omega
    have hsz : sizeS (DJ 1024 g 0 false) nmJ = (p, 0) := by
      rw [sizej CL.out.name, CL.out.len, hlen]
      obtain ⟨a1, a2, a3, a4, a5⟩ := HK.out
      rw [Nat.mul_comm, a5]
    have SZ := Lib.hid (h3.size_ HZ.out nmJ _ strJ.symm hsz)
    have J3 := Lib.hid hj3
    have K3 := Lib.hid h3.kp
    have HLEN := Lib.hid hlen
    clear h3 t3 hj3 hd3 hsz hlen
    go_wp2_with fail
    refine SZ.out.mono ?_
    rintro e u4 ⟨rfl, -, k4⟩
    have RC := Lib.hid (fun (V : World) (kk : Keeps u4 V) => jrRecs_any (J3.out.keep (keeps_trans k4 kk)))
    have K4 := Lib.hid (keeps_trans K3.out k4)
    have SM := Lib.hid (fun (V : World) (kk : Keeps u4 V) (A5 : Option Addr) (c5 : Nat) (o : At V V.heap.size A5 (rowsC (l.take q))) => same9_any A5 q c5 (l.take q) A q c (l.take q) V o HLEN.out.symm (recs_front (H.out.keep (keeps_trans K4.out kk)) q) HLEN.out.symm (by have := HLEN.out; rw [List.length_take] at this; have := HN.out; have := HNB.out; omega))
    rw [decide_eq_true rfl] at SM
    rw [HLEN.out] at RC
    clear k4
    have e1 : ((0 : Int) == 0) = true := rfl
    have e2 : ((p : Int) == (p : Int)) = true := by simp
    go_wp2_with fail
    go_region_held3 (fun _ => True) (trivial) (first
      | (go_at_call 20; refine (RC.out _ (keeps_drew _)).mono ?_; rintro e u5 ⟨A5, c5, rfl, o5, k5⟩; have K5 := Lib.hid (keeps_trans (keeps_drew _) k5); have S5 := Lib.hid (SM.out _ K5.out A5 c5 o5.at_); clear o5 k5)
      | (go_at_call 19; refine S5.out.mono ?_; rintro e u6 ⟨rfl, k6⟩; have K6 := Lib.hid (keeps_trans K4.out (keeps_trans K5.out k6)); clear k6)
      | (go_at_call 10; refine (WK.out _ K6.out).mono ?_; rintro e u7 ⟨rfl, k7⟩; have K7 := Lib.hid (keeps_trans K6.out k7); clear k7))
    go_wp2_with fail
    go_ret
    exact ⟨rfl, K7.out⟩
end Go.Proofs.YtiohijkelagloaaDoor
