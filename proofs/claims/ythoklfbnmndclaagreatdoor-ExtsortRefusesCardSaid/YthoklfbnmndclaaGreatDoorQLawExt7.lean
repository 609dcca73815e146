/- ExtsortRefuses. -/
import Derived.Test.YthoklfbnmndclaaGreatDoorQExtRf
import Derived.Test.YthoklfbnmndclaaGreatDoorQLawExt0
namespace Go.Proofs.YthoklfbnmndclaaGreatDoor
open Go.RowKit
set_option linter.unusedSimpArgs false
set_option linter.unusedVariables false
set_option maxRecDepth 100000

def one12 : List Ed := [⟨1, 2, 3, 4294967295⟩]
theorem one_ok : ∀ e ∈ one12, EdOk e := by
  intro e he
  simp only [one12, List.mem_cons, List.not_mem_nil, or_false] at he
  rcases he with rfl
  exact ⟨by decide, by decide, by decide, by decide⟩
theorem str_is12 (a c : List UInt8) : ((str a).toList == (str c).toList) = decide (a = c) := by
  rw [str_toList, str_toList]
  by_cases e : a = c
  · rw [e]; simp
  · rw [decide_eq_false e, beq_eq_false_iff_ne]; exact e
/-- what the first sort leaves -/
def Ref12 (K : DiskOk) (w0 : World) (B : PB) (N : Nat) (nI nO : List UInt8) (bi : Int) (e : Ending) (w' : World) : Prop :=
  ∃ (E : Nat) (q : Pst) (V' : Vw) (ns' : List (List UInt8)) (S' : Nat → Prop), e = .returned (.int .i64 (E : Int)) ∧ ExS K w0 B N 65536 61 50 q V' ns' S' w' ∧ ns'.length ≤ 70000 ∧
    ((SortNo N nI nO bi ∧ E = 1 ∧ ns'.length = 1) ∨ (¬ SortNo N nI nO bi ∧ nI ≠ inN ∧ E = openT q nI 20 ∧ E ≠ 0 ∧ ns'.length = 1) ∨
      (¬ SortNo N nI nO bi ∧ nI = inN ∧ E = 0 ∧ ns'.length = 2) ∨ (¬ SortNo N nI nO bi ∧ nI = inN ∧ E = 1 ∧ ns'.length = 1))
theorem open_none {K : DiskOk} {w0 w : World} {B : PB} {N Q A C : Nat} {p : Pst} {V : Vw} {ns : List (List UInt8)} {S : Nat → Prop} {nm : List UInt8} (h : ExS K w0 B N Q A C p V ns S w) (hm : nm ∉ ns) : openT p nm 20 ≠ 0 := by
  unfold openT
  rw [if_neg (by decide), find_heal0 h.tid.heal (h.tid.no hm)]
  exact nmE_pos nm
theorem ref12_any {K : DiskOk} (SK : SortOk K) {w0 w : World} {B : PB} {N : Nat} {p : Pst} {V : Vw} {S : Nat → Prop} {nI nO : List UInt8} {bi : Int} (x : ExS K w0 B N 65536 61 50 p V [inN] S w) (hZ : K.Z w0) (hS : Sizes w0) (hN : N ≤ 4096) (s : IsS V inN 20 (one12.map edB)) (d : Tidy p inN) (hI : nI.length ≤ 100) (hO : nO.length ≤ 100) :
    Calls Tryz.prog 15 #[.pointer (some ⟨B.pb, 0, none⟩), .string (str nI), .string (str nO), .int .i64 bi] w (Ref12 K w0 B N nI nO bi) := by
  have hmx : (100 : Nat) ≤ maxLen := by decide
  by_cases hno : SortNo N nI nO bi
  · refine (sort_no x hno).mono ?_
    rintro e w' ⟨rfl, k⟩
    exact ⟨1, p, V, [inN], S, rfl, x.keep k, by decide, .inl ⟨hno, rfl, rfl⟩⟩
  · have hno' := hno
    unfold SortNo at hno'
    by_cases hin : nI = inN
    · subst hin
      by_cases hk : nameOk nO = true
      · have hbi : bi = 0 ∨ bi = 1 := Classical.byContradiction fun g => hno' (.inl g)
        have h8 : 8 ≤ N := by
          have : ¬ N < 8 := fun g => hno' (.inr (.inr (.inr (.inr g))))
          omega
        refine (SK.sort (nmO := nO) (bi := bi) x hZ hS h8 hN s one_ok d hk (fun g => hno' (.inr (.inl (List.mem_singleton.1 g).symm))) (by decide) (fun g => hno' (.inr (.inr (.inr (.inl g))))) hbi (by decide) (by decide) (by decide)).mono ?_
        rintro e w2 ⟨E, q, V', ns', S', rfl, x2, -, ⟨rfl, -, rfl, -, -⟩ | ⟨-, hbad, -⟩⟩
        · exact ⟨0, q, V', _, S', rfl, x2, by simp, .inr (.inr (.inl ⟨hno, rfl, rfl, rfl⟩))⟩
        · exact absurd hbad (by decide)
      · refine (sort_create x hZ hno s (Nat.le_trans hO hmx) (by simpa using hk)).mono ?_
        rintro e w2 ⟨S', rfl, x2, -⟩
        exact ⟨1, p, V, [inN], S', rfl, x2, by decide, .inr (.inr (.inr ⟨hno, rfl, rfl, rfl⟩))⟩
    · have hz : openT p nI 20 ≠ 0 := open_none x (fun g => hin (List.mem_singleton.1 g))
      refine (sort_open x hZ hno (Nat.le_trans hI hmx) hz).mono ?_
      rintro e w' ⟨rfl, k⟩
      exact ⟨_, p, V, [inN], S, rfl, x.keep k, by decide, .inr (.inl ⟨hno, hin, rfl, hz, rfl⟩)⟩
/-- the beginning of a name, as the law reads it -/
theorem cut12 (nm : List UInt8) : (2 ≤ nm.length ∧ ∃ sx : ByteArray, (∀ W : World, (Instr.slice 9 (.string (str nm)) none (some (.int .i64 2)) none).run Tryz.prog W = .ok (.string sx) W) ∧ (sx.toList == ([116, 46] : List UInt8)) = decide (nm.take 2 = [116, 46])) ∨ (nm.length < 2 ∧ decide (nm.take 2 = [116, 46]) = false) := by
  by_cases hl : 2 ≤ nm.length
  · refine .inl ⟨hl, str (nm.take 2), fun W => ?_, by rw [str_toList]; by_cases h : nm.take 2 = [116, 46] <;> simp [h]⟩
    rw [run_slice_string_h (ht := Tryz.underlying9) (h0 := by decide) (h2 := by rw [str_size]; omega)]
    congr 2
    apply ByteArray.ext
    simp [str]
  · refine .inr ⟨by omega, decide_eq_false fun h => ?_⟩
    have := congrArg List.length h
    rw [List.length_take] at this
    simp at this
    omega
/-- what the law asks of the names, seven ways -/
def Own12 (sI sO : ByteArray) (nI nO : List UInt8) (ow : Bool) : Prop :=
  let SL := fun (s sx : ByteArray) => ∀ W : World, (Instr.slice 9 (.string s) none (some (.int .i64 2)) none).run Tryz.prog W = .ok (.string sx) W
  ((2 ≤ nI.length ∧ ∃ sx, SL sI sx ∧ (sx.toList == ([116, 46] : List UInt8)) = true) ∧ ow = true) ∨
  ((2 ≤ nI.length ∧ ∃ sx, SL sI sx ∧ (sx.toList == ([116, 46] : List UInt8)) = false) ∧ (2 ≤ nO.length ∧ ∃ sx, SL sO sx ∧ (sx.toList == ([116, 46] : List UInt8)) = ow)) ∨
  ((2 ≤ nI.length ∧ ∃ sx, SL sI sx ∧ (sx.toList == ([116, 46] : List UInt8)) = false) ∧ nO.length < 2 ∧ ow = false) ∨
  (nI.length < 2 ∧ (2 ≤ nO.length ∧ ∃ sx, SL sO sx ∧ (sx.toList == ([116, 46] : List UInt8)) = ow)) ∨
  (nI.length < 2 ∧ nO.length < 2 ∧ ow = false)
theorem own12_any (nI nO : List UInt8) : ∃ ow, Own12 (str nI) (str nO) nI nO ow ∧ (ow = true ↔ (nI.take 2 = [116, 46] ∨ nO.take 2 = [116, 46])) := by
  refine ⟨decide (nI.take 2 = [116, 46]) || decide (nO.take 2 = [116, 46]), ?_, by simp⟩
  unfold Own12
  rcases cut12 nI with ⟨hI, sx, h1, h2⟩ | ⟨hI, h2⟩
  · by_cases c : nI.take 2 = [116, 46]
    · rw [decide_eq_true c] at h2 ⊢
      exact .inl ⟨⟨hI, sx, h1, h2⟩, rfl⟩
    · rw [decide_eq_false c] at h2 ⊢
      rcases cut12 nO with ⟨hO, sy, h3, h4⟩ | ⟨hO, h4⟩
      · exact .inr (.inl ⟨⟨hI, sx, h1, h2⟩, hO, sy, h3, by rw [h4]; rfl⟩)
      · exact .inr (.inr (.inl ⟨⟨hI, sx, h1, h2⟩, hO, by rw [h4]; rfl⟩))
  · rw [h2]
    rcases cut12 nO with ⟨hO, sy, h3, h4⟩ | ⟨hO, h4⟩
    · exact .inr (.inr (.inr (.inl ⟨hI, hO, sy, h3, by rw [h4]; rfl⟩)))
    · exact .inr (.inr (.inr (.inr ⟨hI, hO, by rw [h4]; rfl⟩)))
set_option maxHeartbeats 64000000 in
theorem refuses12_walk (K : DiskOk) (PK : PageOk) (SK : SortOk K) (w : World) (hZ : K.Z w) (hS : Sizes w) (n1 : Nat) (hn1 : n1 < 256) (bi : Int) (nI nO : List UInt8) :
    Calls Tryz.prog 7 #[.int .u8 (n1 : Int), .int .i64 bi, .string (str nI), .string (str nO)] w (Yes12 w) := by
  have WK := Lib.hid (fun (W : World) (k : Keeps w W) => works12 K PK SK W (K.keep hZ k) (hS.keep k))
  have HZ := Lib.hid hZ
  have HS := Lib.hid hS
  have hszI : (str nI).size = nI.length := str_size nI
  have hszO : (str nO).size = nO.length := str_size nO
  by_cases hI : 100 < nI.length
  · have hIi : (100 : Int) < (nI.length : Int) := by omega
    clear hI
    generalize str nI = sI at *
    generalize str nO = sO at *
    go_enter Tryz.func7, Tryz.ntmps7
    go_wp2_with fail
    refine (WK.out w (keeps_refl w)).mono ?_
    rintro e w1 ⟨rfl, k1⟩
    have K1 := Lib.hid k1
    clear k1
    go_wp2_with fail
    go_ret
    exact ⟨rfl, K1.out⟩
  have hIi : ¬ (100 : Int) < (nI.length : Int) := by omega
  by_cases hO : 100 < nO.length
  · have hOi : (100 : Int) < (nO.length : Int) := by omega
    clear hI hO
    generalize str nI = sI at *
    generalize str nO = sO at *
    go_enter Tryz.func7, Tryz.ntmps7
    go_wp2_with fail
    refine (WK.out w (keeps_refl w)).mono ?_
    rintro e w1 ⟨rfl, k1⟩
    have K1 := Lib.hid k1
    clear k1
    go_wp2_with fail
    go_ret
    exact ⟨rfl, K1.out⟩
  have hOi : ¬ (100 : Int) < (nO.length : Int) := by omega
  have h20 : ((n1 : Int)).tmod 20 = ((n1 % 20 : Nat) : Int) := by rw [Int.tmod_eq_emod_of_nonneg (by omega)]; omega
  have hm20 : n1 % 20 < 20 := Nat.mod_lt _ (by decide)
  generalize n1 % 20 = m at *
  have HM := Lib.hid hm20
  have hmi : (m : Int) < 20 := by omega
  have LI := Lib.hid (show nI.length ≤ 100 by omega)
  have LO := Lib.hid (show nO.length ≤ 100 by omega)
  have kz := keeps_alloc w (.cells #[.int .u32 1, .int .u32 2, .int .u64 3, .int .u32 4294967295] 60)
  have hB : At (w.alloc (.cells #[.int .u32 1, .int .u32 2, .int .u64 3, .int .u32 4294967295] 60)) (w.alloc (.cells #[.int .u32 1, .int .u32 2, .int .u64 3, .int .u32 4294967295] 60)).heap.size (some ⟨w.heap.size, 0, none⟩) (edsC one12) := At.new _ _ _ _ (by simp)
  have KZ := Lib.hid kz
  have BG0 := begun12_any K PK _ (K.keep HZ.out KZ.out) (HS.out.keep KZ.out) (n := 1 + m) (Q := 65536) ⟨by omega, by omega⟩ (by decide) (m := 1) (c := 1) hB one_ok rfl (by decide)
  rw [show ((1 + m : Nat) : Int) = 1 + (m : Int) by omega] at BG0
  have BG := Lib.hid BG0
  have S1 := Lib.hid (fun (W : World) (B : PB) (p : Pst) (V : Vw) (S : Nat → Prop) (x : ExS K (w.alloc (.cells #[.int .u32 1, .int .u32 2, .int .u64 3, .int .u32 4294967295] 60)) B (1 + m) 65536 61 50 p V [inN] S W) (s : IsS V inN 20 (one12.map edB)) (d : Tidy p inN) =>
    ref12_any (bi := bi) SK x (K.keep HZ.out KZ.out) (HS.out.keep KZ.out) (by have := HM.out; omega) s d LI.out LO.out)
  have SN := Lib.hid (fun (W : World) => sort_nil (str nI) (str nO) bi W)
  have OP := Lib.hid (fun (W : World) (B : PB) (q : Pst) (V : Vw) (ns : List (List UInt8)) (S : Nat → Prop) (x : ExS K (w.alloc (.cells #[.int .u32 1, .int .u32 2, .int .u64 3, .int .u32 4294967295] 60)) B (1 + m) 65536 61 50 q V ns S W) =>
    sopen_any (nm := nI) x.pj (K.keep HZ.out KZ.out) x.runs (by omega) (Nat.le_trans LI.out (by decide)) 20)
  obtain ⟨ow, how, how2⟩ := own12_any nI nO
  have HOW := Lib.hid how
  have hse : ((str nI).toList == (str nO).toList) = decide (nI = nO) := str_is12 nI nO
  have hin : ((str nI).toList == ([105, 110] : List UInt8)) = decide (nI = inN) := by
    have h := str_is12 nI inN
    rw [str_toList inN] at h
    exact h
  have HNO := Lib.hid (show SortNo (1 + m) nI nO bi ↔ (¬ (bi = 0 ∨ bi = 1) ∨ nI = nO ∨ ow = true ∨ 1 + m < 8) by
    unfold SortNo
    rw [how2]
    constructor
    · rintro (h | h | h | h | h)
      · exact .inl h
      · exact .inr (.inl h)
      · exact .inr (.inr (.inl (.inl h)))
      · exact .inr (.inr (.inl (.inr h)))
      · exact .inr (.inr (.inr h))
    · rintro (h | h | (h | h) | h)
      · exact .inl h
      · exact .inr (.inl h)
      · exact .inr (.inr (.inl h))
      · exact .inr (.inr (.inr (.inl h)))
      · exact .inr (.inr (.inr (.inr h))))
  have HSE := Lib.hid hse
  have HIN := Lib.hid hin
  clear hZ hS hI hO kz hB BG0 how how2 hse hin hm20
  generalize str nI = sI at *
  generalize str nO = sO at *
  go_enter Tryz.func7, Tryz.ntmps7
  go_wp2_with fail
  refine BG.out.mono ?_
  rintro e w1 ⟨B, S, p, V, rfl, x1, s1, d1⟩
  have SR := Lib.hid (S1.out w1 B p V S (x1.more (by decide) (Nat.le_refl _) (by decide)) s1 d1)
  clear x1 s1 d1 S1 BG
  have hw : Own12 sI sO nI nO ow := HOW.out
  unfold Own12 at hw
  clear HOW
  have ho7 : ∃ o2 : Bool, o2 = ow := ⟨ow, rfl⟩
  obtain ⟨o2, ho2⟩ := ho7
  have HO2 := Lib.hid ho2
  clear ho2
  rcases hw with ⟨⟨c1, sx, c2, c3⟩, rfl⟩ | ⟨⟨c1, sx, c2, c3⟩, c4, sy, c5, c6⟩ | ⟨⟨c1, sx, c2, c3⟩, c4, rfl⟩ | ⟨c1, c4, sy, c5, c6⟩ | ⟨c1, c4, rfl⟩
  rotate_left
  · have d1 : (2 : Int) ≤ (nI.length : Int) := by omega
    have d2 : (2 : Int) ≤ (nO.length : Int) := by omega
    clear c1 c4
    cases ow
    all_goals
      go_wp2_with fail
      refine SR.out.mono ?_
      rintro e w2 ⟨E, q, V2, ns2, S2, rfl, x2, hns, hcase⟩
      have X2 := Lib.hid x2
      have KK := Lib.hid (keeps_trans KZ.out x2.pj.kp)
      have NM := Lib.hid (fun (W : World) (k : Keeps w2 W) => names_pj (x2.keep k).pj (K.keep HZ.out KZ.out) (by rw [x_num x2]; exact hns))
      have HC := Lib.hid hcase
      have XN := Lib.hid (x_num x2)
      clear x2 hns hcase SR
      go_wp2_with fail
      refine (SN.out _).mono ?_
      rintro e w3 ⟨rfl, k3⟩
      have K3 := Lib.hid k3
      clear k3
      go_wp2_with fail
      refine (NM.out _ K3.out).mono ?_
      rintro e w4 ⟨v, rfl, o4, k4⟩
      obtain ⟨A4, c4, rfl, -, -, -, -⟩ := o4.form
      have K4 := Lib.hid (keeps_trans K3.out k4)
      clear o4 k4
      generalize hLL : q.d.l.length = LL at *
      have HL := Lib.hid (show LL = ns2.length from hLL.symm.trans (by rw [hLL]; exact XN.out))
      clear hLL
      rcases HC.out with ⟨hno, rfl, hn1⟩ | ⟨hno, hi, hE, hE0, hn1⟩ | ⟨hno, hi, rfl, hn1⟩ | ⟨hno, hi, rfl, hn1⟩
      · obtain rfl : LL = 1 := HL.out.trans hn1
        have hb := HNO.out.1 hno
        clear hno hn1
        by_cases b1 : bi = 0 ∨ bi = 1
        rotate_left
        · have g1 : (bi != 0) = true := by simpa using fun e => b1 (.inl e)
          have g2 : (bi != 1) = true := by simpa using fun e => b1 (.inr e)
          clear hb b1
          go_wp2_with fail
          refine (WK.out _ (keeps_trans KK.out K4.out)).mono ?_
          rintro e w9 ⟨rfl, k9⟩
          have K9 := Lib.hid (keeps_trans (keeps_trans KK.out K4.out) k9)
          clear k9
          go_wp2_with fail
          go_ret
          exact ⟨rfl, K9.out⟩
        have hb := hb.resolve_left (fun g => g b1)
        have g : ((bi != 0) = true ∧ (bi != 1) = false) ∨ (bi != 0) = false := by rcases b1 with rfl | rfl <;> simp
        clear b1
        by_cases b2 : nI = nO
        · have hse := HSE.out
          rw [decide_eq_true b2] at hse
          clear hb b2
          rcases g with ⟨g1, g2⟩ | g1
          all_goals
            go_wp2_with fail
            refine (WK.out _ (keeps_trans KK.out K4.out)).mono ?_
            rintro e w9 ⟨rfl, k9⟩
            have K9 := Lib.hid (keeps_trans (keeps_trans KK.out K4.out) k9)
            clear k9
            go_wp2_with fail
            go_ret
            exact ⟨rfl, K9.out⟩
        have hse := HSE.out
        rw [decide_eq_false b2] at hse
        have hb := hb.resolve_left b2
        clear b2
        rcases hb with hb | hb
        · first
          | exact absurd hb (by decide)
          | (clear hb
             rcases g with ⟨g1, g2⟩ | g1
             all_goals
               go_wp2_with fail
               refine (WK.out _ (keeps_trans KK.out K4.out)).mono ?_
               rintro e w9 ⟨rfl, k9⟩
               have K9 := Lib.hid (keeps_trans (keeps_trans KK.out K4.out) k9)
               clear k9
               go_wp2_with fail
               go_ret
               exact ⟨rfl, K9.out⟩)
        · have hlt : (1 : Int) + (m : Int) < 8 := by omega
          clear hb
          rcases g with ⟨g1, g2⟩ | g1
          all_goals
            go_wp2_with fail
            refine (WK.out _ (keeps_trans KK.out K4.out)).mono ?_
            rintro e w9 ⟨rfl, k9⟩
            have K9 := Lib.hid (keeps_trans (keeps_trans KK.out K4.out) k9)
            clear k9
            go_wp2_with fail
            go_ret
            exact ⟨rfl, K9.out⟩
      · have hn := fun g => hno (HNO.out.2 g)
        first
        | exact absurd (.inr (.inr (.inl (by first | trivial | rfl)))) hn
        | (have g : ((bi != 0) = true ∧ (bi != 1) = false) ∨ (bi != 0) = false := by
             have b1 : bi = 0 ∨ bi = 1 := Classical.byContradiction fun g => hn (.inl g)
             rcases b1 with rfl | rfl <;> simp
           have hse := HSE.out
           rw [decide_eq_false (fun e => hn (.inr (.inl e)))] at hse
           have hlt : ¬ (1 : Int) + (m : Int) < 8 := fun e => hn (.inr (.inr (.inr (by omega))))
           clear hno hn
           obtain rfl : LL = 1 := HL.out.trans hn1
           have hin := HIN.out
           rw [decide_eq_false hi] at hin
           have hEi : ((E : Int) != 0) = true := by simpa using fun e => hE0 (by omega)
           have HE0 := Lib.hid hE0
           have OPN := OP.out w4 B q V2 ns2 S2 (X2.out.keep K4.out)
           rw [← hE] at OPN
           have OPN := Lib.hid OPN
           clear hi hE hE0 hn1
           rcases g with ⟨g1, g2⟩ | g1
           all_goals
             go_wp2_with fail
             refine OPN.out.mono ?_
             rintro e w5 ⟨k5, ⟨hz, -⟩ | ⟨-, rfl⟩⟩
             · exact absurd hz HE0.out
             have K5 := Lib.hid (keeps_trans K4.out k5)
             clear k5
             go_wp2_with fail
             refine (WK.out _ (keeps_trans KK.out K5.out)).mono ?_
             rintro e w9 ⟨rfl, k9⟩
             have K9 := Lib.hid (keeps_trans (keeps_trans KK.out K5.out) k9)
             clear k9
             go_wp2_with fail
             go_ret
             exact ⟨rfl, K9.out⟩)
      · have hn := fun g => hno (HNO.out.2 g)
        first
        | exact absurd (.inr (.inr (.inl (by first | trivial | rfl)))) hn
        | (have g : ((bi != 0) = true ∧ (bi != 1) = false) ∨ (bi != 0) = false := by
             have b1 : bi = 0 ∨ bi = 1 := Classical.byContradiction fun g => hn (.inl g)
             rcases b1 with rfl | rfl <;> simp
           have hse := HSE.out
           rw [decide_eq_false (fun e => hn (.inr (.inl e)))] at hse
           have hlt : ¬ (1 : Int) + (m : Int) < 8 := fun e => hn (.inr (.inr (.inr (by omega))))
           clear hno hn
           obtain rfl : LL = 2 := HL.out.trans hn1
           have hin := HIN.out
           rw [decide_eq_true hi] at hin
           have OPN := OP.out w4 B q V2 ns2 S2 (X2.out.keep K4.out)
           have OPN := Lib.hid OPN
           clear hi hn1
           generalize openT q nI 20 = G at *
           rcases g with ⟨g1, g2⟩ | g1
           all_goals
             go_wp2_with fail
             refine OPN.out.mono ?_
             rintro e w5 ⟨k5, ⟨-, -, -, sb, rfl, -, -⟩ | ⟨-, rfl⟩⟩
             all_goals
               have K5 := Lib.hid (keeps_trans K4.out k5)
               clear k5
               go_wp2_with fail
               refine (WK.out _ (keeps_trans KK.out K5.out)).mono ?_
               rintro e w9 ⟨rfl, k9⟩
               have K9 := Lib.hid (keeps_trans (keeps_trans KK.out K5.out) k9)
               clear k9
               go_wp2_with fail
               go_ret
               exact ⟨rfl, K9.out⟩)
      · have hn := fun g => hno (HNO.out.2 g)
        first
        | exact absurd (.inr (.inr (.inl (by first | trivial | rfl)))) hn
        | (have g : ((bi != 0) = true ∧ (bi != 1) = false) ∨ (bi != 0) = false := by
             have b1 : bi = 0 ∨ bi = 1 := Classical.byContradiction fun g => hn (.inl g)
             rcases b1 with rfl | rfl <;> simp
           have hse := HSE.out
           rw [decide_eq_false (fun e => hn (.inr (.inl e)))] at hse
           have hlt : ¬ (1 : Int) + (m : Int) < 8 := fun e => hn (.inr (.inr (.inr (by omega))))
           clear hno hn
           obtain rfl : LL = 1 := HL.out.trans hn1
           have hin := HIN.out
           rw [decide_eq_true hi] at hin
           have OPN := OP.out w4 B q V2 ns2 S2 (X2.out.keep K4.out)
           have OPN := Lib.hid OPN
           clear hi hn1
           generalize openT q nI 20 = G at *
           rcases g with ⟨g1, g2⟩ | g1
           all_goals
             go_wp2_with fail
             refine OPN.out.mono ?_
             rintro e w5 ⟨k5, ⟨-, -, -, sb, rfl, -, -⟩ | ⟨-, rfl⟩⟩
             all_goals
               have K5 := Lib.hid (keeps_trans K4.out k5)
               clear k5
               go_wp2_with fail
               refine (WK.out _ (keeps_trans KK.out K5.out)).mono ?_
               rintro e w9 ⟨rfl, k9⟩
               have K9 := Lib.hid (keeps_trans (keeps_trans KK.out K5.out) k9)
               clear k9
               go_wp2_with fail
               go_ret
               exact ⟨rfl, K9.out⟩)
  · have d1 : (2 : Int) ≤ (nI.length : Int) := by omega
    have d2 : ¬ (2 : Int) ≤ (nO.length : Int) := by omega
    clear c1 c4
    go_wp2_with fail
    refine SR.out.mono ?_
    rintro e w2 ⟨E, q, V2, ns2, S2, rfl, x2, hns, hcase⟩
    have X2 := Lib.hid x2
    have KK := Lib.hid (keeps_trans KZ.out x2.pj.kp)
    have NM := Lib.hid (fun (W : World) (k : Keeps w2 W) => names_pj (x2.keep k).pj (K.keep HZ.out KZ.out) (by rw [x_num x2]; exact hns))
    have HC := Lib.hid hcase
    have XN := Lib.hid (x_num x2)
    clear x2 hns hcase SR
    go_wp2_with fail
    refine (SN.out _).mono ?_
    rintro e w3 ⟨rfl, k3⟩
    have K3 := Lib.hid k3
    clear k3
    go_wp2_with fail
    refine (NM.out _ K3.out).mono ?_
    rintro e w4 ⟨v, rfl, o4, k4⟩
    obtain ⟨A4, c4, rfl, -, -, -, -⟩ := o4.form
    have K4 := Lib.hid (keeps_trans K3.out k4)
    clear o4 k4
    generalize hLL : q.d.l.length = LL at *
    have HL := Lib.hid (show LL = ns2.length from hLL.symm.trans (by rw [hLL]; exact XN.out))
    clear hLL
    rcases HC.out with ⟨hno, rfl, hn1⟩ | ⟨hno, hi, hE, hE0, hn1⟩ | ⟨hno, hi, rfl, hn1⟩ | ⟨hno, hi, rfl, hn1⟩
    · obtain rfl : LL = 1 := HL.out.trans hn1
      have hb := HNO.out.1 hno
      clear hno hn1
      by_cases b1 : bi = 0 ∨ bi = 1
      rotate_left
      · have g1 : (bi != 0) = true := by simpa using fun e => b1 (.inl e)
        have g2 : (bi != 1) = true := by simpa using fun e => b1 (.inr e)
        clear hb b1
        go_wp2_with fail
        refine (WK.out _ (keeps_trans KK.out K4.out)).mono ?_
        rintro e w9 ⟨rfl, k9⟩
        have K9 := Lib.hid (keeps_trans (keeps_trans KK.out K4.out) k9)
        clear k9
        go_wp2_with fail
        go_ret
        exact ⟨rfl, K9.out⟩
      have hb := hb.resolve_left (fun g => g b1)
      have g : ((bi != 0) = true ∧ (bi != 1) = false) ∨ (bi != 0) = false := by rcases b1 with rfl | rfl <;> simp
      clear b1
      by_cases b2 : nI = nO
      · have hse := HSE.out
        rw [decide_eq_true b2] at hse
        clear hb b2
        rcases g with ⟨g1, g2⟩ | g1
        all_goals
          go_wp2_with fail
          refine (WK.out _ (keeps_trans KK.out K4.out)).mono ?_
          rintro e w9 ⟨rfl, k9⟩
          have K9 := Lib.hid (keeps_trans (keeps_trans KK.out K4.out) k9)
          clear k9
          go_wp2_with fail
          go_ret
          exact ⟨rfl, K9.out⟩
      have hse := HSE.out
      rw [decide_eq_false b2] at hse
      have hb := hb.resolve_left b2
      clear b2
      rcases hb with hb | hb
      · first
        | exact absurd hb (by decide)
        | (clear hb
           rcases g with ⟨g1, g2⟩ | g1
           all_goals
             go_wp2_with fail
             refine (WK.out _ (keeps_trans KK.out K4.out)).mono ?_
             rintro e w9 ⟨rfl, k9⟩
             have K9 := Lib.hid (keeps_trans (keeps_trans KK.out K4.out) k9)
             clear k9
             go_wp2_with fail
             go_ret
             exact ⟨rfl, K9.out⟩)
      · have hlt : (1 : Int) + (m : Int) < 8 := by omega
        clear hb
        rcases g with ⟨g1, g2⟩ | g1
        all_goals
          go_wp2_with fail
          refine (WK.out _ (keeps_trans KK.out K4.out)).mono ?_
          rintro e w9 ⟨rfl, k9⟩
          have K9 := Lib.hid (keeps_trans (keeps_trans KK.out K4.out) k9)
          clear k9
          go_wp2_with fail
          go_ret
          exact ⟨rfl, K9.out⟩
    · have hn := fun g => hno (HNO.out.2 g)
      first
      | exact absurd (.inr (.inr (.inl (by first | trivial | rfl)))) hn
      | (have g : ((bi != 0) = true ∧ (bi != 1) = false) ∨ (bi != 0) = false := by
           have b1 : bi = 0 ∨ bi = 1 := Classical.byContradiction fun g => hn (.inl g)
           rcases b1 with rfl | rfl <;> simp
         have hse := HSE.out
         rw [decide_eq_false (fun e => hn (.inr (.inl e)))] at hse
         have hlt : ¬ (1 : Int) + (m : Int) < 8 := fun e => hn (.inr (.inr (.inr (by omega))))
         clear hno hn
         obtain rfl : LL = 1 := HL.out.trans hn1
         have hin := HIN.out
         rw [decide_eq_false hi] at hin
         have hEi : ((E : Int) != 0) = true := by simpa using fun e => hE0 (by omega)
         have HE0 := Lib.hid hE0
         have OPN := OP.out w4 B q V2 ns2 S2 (X2.out.keep K4.out)
         rw [← hE] at OPN
         have OPN := Lib.hid OPN
         clear hi hE hE0 hn1
         rcases g with ⟨g1, g2⟩ | g1
         all_goals
           go_wp2_with fail
           refine OPN.out.mono ?_
           rintro e w5 ⟨k5, ⟨hz, -⟩ | ⟨-, rfl⟩⟩
           · exact absurd hz HE0.out
           have K5 := Lib.hid (keeps_trans K4.out k5)
           clear k5
           go_wp2_with fail
           refine (WK.out _ (keeps_trans KK.out K5.out)).mono ?_
           rintro e w9 ⟨rfl, k9⟩
           have K9 := Lib.hid (keeps_trans (keeps_trans KK.out K5.out) k9)
           clear k9
           go_wp2_with fail
           go_ret
           exact ⟨rfl, K9.out⟩)
    · have hn := fun g => hno (HNO.out.2 g)
      first
      | exact absurd (.inr (.inr (.inl (by first | trivial | rfl)))) hn
      | (have g : ((bi != 0) = true ∧ (bi != 1) = false) ∨ (bi != 0) = false := by
           have b1 : bi = 0 ∨ bi = 1 := Classical.byContradiction fun g => hn (.inl g)
           rcases b1 with rfl | rfl <;> simp
         have hse := HSE.out
         rw [decide_eq_false (fun e => hn (.inr (.inl e)))] at hse
         have hlt : ¬ (1 : Int) + (m : Int) < 8 := fun e => hn (.inr (.inr (.inr (by omega))))
         clear hno hn
         obtain rfl : LL = 2 := HL.out.trans hn1
         have hin := HIN.out
         rw [decide_eq_true hi] at hin
         have OPN := OP.out w4 B q V2 ns2 S2 (X2.out.keep K4.out)
         have OPN := Lib.hid OPN
         clear hi hn1
         generalize openT q nI 20 = G at *
         rcases g with ⟨g1, g2⟩ | g1
         all_goals
           go_wp2_with fail
           refine OPN.out.mono ?_
           rintro e w5 ⟨k5, ⟨-, -, -, sb, rfl, -, -⟩ | ⟨-, rfl⟩⟩
           all_goals
             have K5 := Lib.hid (keeps_trans K4.out k5)
             clear k5
             go_wp2_with fail
             refine (WK.out _ (keeps_trans KK.out K5.out)).mono ?_
             rintro e w9 ⟨rfl, k9⟩
             have K9 := Lib.hid (keeps_trans (keeps_trans KK.out K5.out) k9)
             clear k9
             go_wp2_with fail
             go_ret
             exact ⟨rfl, K9.out⟩)
    · have hn := fun g => hno (HNO.out.2 g)
      first
      | exact absurd (.inr (.inr (.inl (by first | trivial | rfl)))) hn
      | (have g : ((bi != 0) = true ∧ (bi != 1) = false) ∨ (bi != 0) = false := by
           have b1 : bi = 0 ∨ bi = 1 := Classical.byContradiction fun g => hn (.inl g)
           rcases b1 with rfl | rfl <;> simp
         have hse := HSE.out
         rw [decide_eq_false (fun e => hn (.inr (.inl e)))] at hse
         have hlt : ¬ (1 : Int) + (m : Int) < 8 := fun e => hn (.inr (.inr (.inr (by omega))))
         clear hno hn
         obtain rfl : LL = 1 := HL.out.trans hn1
         have hin := HIN.out
         rw [decide_eq_true hi] at hin
         have OPN := OP.out w4 B q V2 ns2 S2 (X2.out.keep K4.out)
         have OPN := Lib.hid OPN
         clear hi hn1
         generalize openT q nI 20 = G at *
         rcases g with ⟨g1, g2⟩ | g1
         all_goals
           go_wp2_with fail
           refine OPN.out.mono ?_
           rintro e w5 ⟨k5, ⟨-, -, -, sb, rfl, -, -⟩ | ⟨-, rfl⟩⟩
           all_goals
             have K5 := Lib.hid (keeps_trans K4.out k5)
             clear k5
             go_wp2_with fail
             refine (WK.out _ (keeps_trans KK.out K5.out)).mono ?_
             rintro e w9 ⟨rfl, k9⟩
             have K9 := Lib.hid (keeps_trans (keeps_trans KK.out K5.out) k9)
             clear k9
             go_wp2_with fail
             go_ret
             exact ⟨rfl, K9.out⟩)
  · have d1 : ¬ (2 : Int) ≤ (nI.length : Int) := by omega
    have d2 : (2 : Int) ≤ (nO.length : Int) := by omega
    clear c1 c4
    cases ow
    all_goals
      go_wp2_with fail
      refine SR.out.mono ?_
      rintro e w2 ⟨E, q, V2, ns2, S2, rfl, x2, hns, hcase⟩
      have X2 := Lib.hid x2
      have KK := Lib.hid (keeps_trans KZ.out x2.pj.kp)
      have NM := Lib.hid (fun (W : World) (k : Keeps w2 W) => names_pj (x2.keep k).pj (K.keep HZ.out KZ.out) (by rw [x_num x2]; exact hns))
      have HC := Lib.hid hcase
      have XN := Lib.hid (x_num x2)
      clear x2 hns hcase SR
      go_wp2_with fail
      refine (SN.out _).mono ?_
      rintro e w3 ⟨rfl, k3⟩
      have K3 := Lib.hid k3
      clear k3
      go_wp2_with fail
      refine (NM.out _ K3.out).mono ?_
      rintro e w4 ⟨v, rfl, o4, k4⟩
      obtain ⟨A4, c4, rfl, -, -, -, -⟩ := o4.form
      have K4 := Lib.hid (keeps_trans K3.out k4)
      clear o4 k4
      generalize hLL : q.d.l.length = LL at *
      have HL := Lib.hid (show LL = ns2.length from hLL.symm.trans (by rw [hLL]; exact XN.out))
      clear hLL
      rcases HC.out with ⟨hno, rfl, hn1⟩ | ⟨hno, hi, hE, hE0, hn1⟩ | ⟨hno, hi, rfl, hn1⟩ | ⟨hno, hi, rfl, hn1⟩
      · obtain rfl : LL = 1 := HL.out.trans hn1
        have hb := HNO.out.1 hno
        clear hno hn1
        by_cases b1 : bi = 0 ∨ bi = 1
        rotate_left
        · have g1 : (bi != 0) = true := by simpa using fun e => b1 (.inl e)
          have g2 : (bi != 1) = true := by simpa using fun e => b1 (.inr e)
          clear hb b1
          go_wp2_with fail
          refine (WK.out _ (keeps_trans KK.out K4.out)).mono ?_
          rintro e w9 ⟨rfl, k9⟩
          have K9 := Lib.hid (keeps_trans (keeps_trans KK.out K4.out) k9)
          clear k9
          go_wp2_with fail
          go_ret
          exact ⟨rfl, K9.out⟩
        have hb := hb.resolve_left (fun g => g b1)
        have g : ((bi != 0) = true ∧ (bi != 1) = false) ∨ (bi != 0) = false := by rcases b1 with rfl | rfl <;> simp
        clear b1
        by_cases b2 : nI = nO
        · have hse := HSE.out
          rw [decide_eq_true b2] at hse
          clear hb b2
          rcases g with ⟨g1, g2⟩ | g1
          all_goals
            go_wp2_with fail
            refine (WK.out _ (keeps_trans KK.out K4.out)).mono ?_
            rintro e w9 ⟨rfl, k9⟩
            have K9 := Lib.hid (keeps_trans (keeps_trans KK.out K4.out) k9)
            clear k9
            go_wp2_with fail
            go_ret
            exact ⟨rfl, K9.out⟩
        have hse := HSE.out
        rw [decide_eq_false b2] at hse
        have hb := hb.resolve_left b2
        clear b2
        rcases hb with hb | hb
        · first
          | exact absurd hb (by decide)
          | (clear hb
             rcases g with ⟨g1, g2⟩ | g1
             all_goals
               go_wp2_with fail
               refine (WK.out _ (keeps_trans KK.out K4.out)).mono ?_
               rintro e w9 ⟨rfl, k9⟩
               have K9 := Lib.hid (keeps_trans (keeps_trans KK.out K4.out) k9)
               clear k9
               go_wp2_with fail
               go_ret
               exact ⟨rfl, K9.out⟩)
        · have hlt : (1 : Int) + (m : Int) < 8 := by omega
          clear hb
          rcases g with ⟨g1, g2⟩ | g1
          all_goals
            go_wp2_with fail
            refine (WK.out _ (keeps_trans KK.out K4.out)).mono ?_
            rintro e w9 ⟨rfl, k9⟩
            have K9 := Lib.hid (keeps_trans (keeps_trans KK.out K4.out) k9)
            clear k9
            go_wp2_with fail
            go_ret
            exact ⟨rfl, K9.out⟩
      · have hn := fun g => hno (HNO.out.2 g)
        first
        | exact absurd (.inr (.inr (.inl (by first | trivial | rfl)))) hn
        | (have g : ((bi != 0) = true ∧ (bi != 1) = false) ∨ (bi != 0) = false := by
             have b1 : bi = 0 ∨ bi = 1 := Classical.byContradiction fun g => hn (.inl g)
             rcases b1 with rfl | rfl <;> simp
           have hse := HSE.out
           rw [decide_eq_false (fun e => hn (.inr (.inl e)))] at hse
           have hlt : ¬ (1 : Int) + (m : Int) < 8 := fun e => hn (.inr (.inr (.inr (by omega))))
           clear hno hn
           obtain rfl : LL = 1 := HL.out.trans hn1
           have hin := HIN.out
           rw [decide_eq_false hi] at hin
           have hEi : ((E : Int) != 0) = true := by simpa using fun e => hE0 (by omega)
           have HE0 := Lib.hid hE0
           have OPN := OP.out w4 B q V2 ns2 S2 (X2.out.keep K4.out)
           rw [← hE] at OPN
           have OPN := Lib.hid OPN
           clear hi hE hE0 hn1
           rcases g with ⟨g1, g2⟩ | g1
           all_goals
             go_wp2_with fail
             refine OPN.out.mono ?_
             rintro e w5 ⟨k5, ⟨hz, -⟩ | ⟨-, rfl⟩⟩
             · exact absurd hz HE0.out
             have K5 := Lib.hid (keeps_trans K4.out k5)
             clear k5
             go_wp2_with fail
             refine (WK.out _ (keeps_trans KK.out K5.out)).mono ?_
             rintro e w9 ⟨rfl, k9⟩
             have K9 := Lib.hid (keeps_trans (keeps_trans KK.out K5.out) k9)
             clear k9
             go_wp2_with fail
             go_ret
             exact ⟨rfl, K9.out⟩)
      · have hn := fun g => hno (HNO.out.2 g)
        first
        | exact absurd (.inr (.inr (.inl (by first | trivial | rfl)))) hn
        | (have g : ((bi != 0) = true ∧ (bi != 1) = false) ∨ (bi != 0) = false := by
             have b1 : bi = 0 ∨ bi = 1 := Classical.byContradiction fun g => hn (.inl g)
             rcases b1 with rfl | rfl <;> simp
           have hse := HSE.out
           rw [decide_eq_false (fun e => hn (.inr (.inl e)))] at hse
           have hlt : ¬ (1 : Int) + (m : Int) < 8 := fun e => hn (.inr (.inr (.inr (by omega))))
           clear hno hn
           obtain rfl : LL = 2 := HL.out.trans hn1
           have hin := HIN.out
           rw [decide_eq_true hi] at hin
           have OPN := OP.out w4 B q V2 ns2 S2 (X2.out.keep K4.out)
           have OPN := Lib.hid OPN
           clear hi hn1
           generalize openT q nI 20 = G at *
           rcases g with ⟨g1, g2⟩ | g1
           all_goals
             go_wp2_with fail
             refine OPN.out.mono ?_
             rintro e w5 ⟨k5, ⟨-, -, -, sb, rfl, -, -⟩ | ⟨-, rfl⟩⟩
             all_goals
               have K5 := Lib.hid (keeps_trans K4.out k5)
               clear k5
               go_wp2_with fail
               refine (WK.out _ (keeps_trans KK.out K5.out)).mono ?_
               rintro e w9 ⟨rfl, k9⟩
               have K9 := Lib.hid (keeps_trans (keeps_trans KK.out K5.out) k9)
               clear k9
               go_wp2_with fail
               go_ret
               exact ⟨rfl, K9.out⟩)
      · have hn := fun g => hno (HNO.out.2 g)
        first
        | exact absurd (.inr (.inr (.inl (by first | trivial | rfl)))) hn
        | (have g : ((bi != 0) = true ∧ (bi != 1) = false) ∨ (bi != 0) = false := by
             have b1 : bi = 0 ∨ bi = 1 := Classical.byContradiction fun g => hn (.inl g)
             rcases b1 with rfl | rfl <;> simp
           have hse := HSE.out
           rw [decide_eq_false (fun e => hn (.inr (.inl e)))] at hse
           have hlt : ¬ (1 : Int) + (m : Int) < 8 := fun e => hn (.inr (.inr (.inr (by omega))))
           clear hno hn
           obtain rfl : LL = 1 := HL.out.trans hn1
           have hin := HIN.out
           rw [decide_eq_true hi] at hin
           have OPN := OP.out w4 B q V2 ns2 S2 (X2.out.keep K4.out)
           have OPN := Lib.hid OPN
           clear hi hn1
           generalize openT q nI 20 = G at *
           rcases g with ⟨g1, g2⟩ | g1
           all_goals
             go_wp2_with fail
             refine OPN.out.mono ?_
             rintro e w5 ⟨k5, ⟨-, -, -, sb, rfl, -, -⟩ | ⟨-, rfl⟩⟩
             all_goals
               have K5 := Lib.hid (keeps_trans K4.out k5)
               clear k5
               go_wp2_with fail
               refine (WK.out _ (keeps_trans KK.out K5.out)).mono ?_
               rintro e w9 ⟨rfl, k9⟩
               have K9 := Lib.hid (keeps_trans (keeps_trans KK.out K5.out) k9)
               clear k9
               go_wp2_with fail
               go_ret
               exact ⟨rfl, K9.out⟩)
  · have d1 : ¬ (2 : Int) ≤ (nI.length : Int) := by omega
    have d2 : ¬ (2 : Int) ≤ (nO.length : Int) := by omega
    clear c1 c4
    go_wp2_with fail
    refine SR.out.mono ?_
    rintro e w2 ⟨E, q, V2, ns2, S2, rfl, x2, hns, hcase⟩
    have X2 := Lib.hid x2
    have KK := Lib.hid (keeps_trans KZ.out x2.pj.kp)
    have NM := Lib.hid (fun (W : World) (k : Keeps w2 W) => names_pj (x2.keep k).pj (K.keep HZ.out KZ.out) (by rw [x_num x2]; exact hns))
    have HC := Lib.hid hcase
    have XN := Lib.hid (x_num x2)
    clear x2 hns hcase SR
    go_wp2_with fail
    refine (SN.out _).mono ?_
    rintro e w3 ⟨rfl, k3⟩
    have K3 := Lib.hid k3
    clear k3
    go_wp2_with fail
    refine (NM.out _ K3.out).mono ?_
    rintro e w4 ⟨v, rfl, o4, k4⟩
    obtain ⟨A4, c4, rfl, -, -, -, -⟩ := o4.form
    have K4 := Lib.hid (keeps_trans K3.out k4)
    clear o4 k4
    generalize hLL : q.d.l.length = LL at *
    have HL := Lib.hid (show LL = ns2.length from hLL.symm.trans (by rw [hLL]; exact XN.out))
    clear hLL
    rcases HC.out with ⟨hno, rfl, hn1⟩ | ⟨hno, hi, hE, hE0, hn1⟩ | ⟨hno, hi, rfl, hn1⟩ | ⟨hno, hi, rfl, hn1⟩
    · obtain rfl : LL = 1 := HL.out.trans hn1
      have hb := HNO.out.1 hno
      clear hno hn1
      by_cases b1 : bi = 0 ∨ bi = 1
      rotate_left
      · have g1 : (bi != 0) = true := by simpa using fun e => b1 (.inl e)
        have g2 : (bi != 1) = true := by simpa using fun e => b1 (.inr e)
        clear hb b1
        go_wp2_with fail
        refine (WK.out _ (keeps_trans KK.out K4.out)).mono ?_
        rintro e w9 ⟨rfl, k9⟩
        have K9 := Lib.hid (keeps_trans (keeps_trans KK.out K4.out) k9)
        clear k9
        go_wp2_with fail
        go_ret
        exact ⟨rfl, K9.out⟩
      have hb := hb.resolve_left (fun g => g b1)
      have g : ((bi != 0) = true ∧ (bi != 1) = false) ∨ (bi != 0) = false := by rcases b1 with rfl | rfl <;> simp
      clear b1
      by_cases b2 : nI = nO
      · have hse := HSE.out
        rw [decide_eq_true b2] at hse
        clear hb b2
        rcases g with ⟨g1, g2⟩ | g1
        all_goals
          go_wp2_with fail
          refine (WK.out _ (keeps_trans KK.out K4.out)).mono ?_
          rintro e w9 ⟨rfl, k9⟩
          have K9 := Lib.hid (keeps_trans (keeps_trans KK.out K4.out) k9)
          clear k9
          go_wp2_with fail
          go_ret
          exact ⟨rfl, K9.out⟩
      have hse := HSE.out
      rw [decide_eq_false b2] at hse
      have hb := hb.resolve_left b2
      clear b2
      rcases hb with hb | hb
      · first
        | exact absurd hb (by decide)
        | (clear hb
           rcases g with ⟨g1, g2⟩ | g1
           all_goals
             go_wp2_with fail
             refine (WK.out _ (keeps_trans KK.out K4.out)).mono ?_
             rintro e w9 ⟨rfl, k9⟩
             have K9 := Lib.hid (keeps_trans (keeps_trans KK.out K4.out) k9)
             clear k9
             go_wp2_with fail
             go_ret
             exact ⟨rfl, K9.out⟩)
      · have hlt : (1 : Int) + (m : Int) < 8 := by omega
        clear hb
        rcases g with ⟨g1, g2⟩ | g1
        all_goals
          go_wp2_with fail
          refine (WK.out _ (keeps_trans KK.out K4.out)).mono ?_
          rintro e w9 ⟨rfl, k9⟩
          have K9 := Lib.hid (keeps_trans (keeps_trans KK.out K4.out) k9)
          clear k9
          go_wp2_with fail
          go_ret
          exact ⟨rfl, K9.out⟩
    · have hn := fun g => hno (HNO.out.2 g)
      first
      | exact absurd (.inr (.inr (.inl (by first | trivial | rfl)))) hn
      | (have g : ((bi != 0) = true ∧ (bi != 1) = false) ∨ (bi != 0) = false := by
           have b1 : bi = 0 ∨ bi = 1 := Classical.byContradiction fun g => hn (.inl g)
           rcases b1 with rfl | rfl <;> simp
         have hse := HSE.out
         rw [decide_eq_false (fun e => hn (.inr (.inl e)))] at hse
         have hlt : ¬ (1 : Int) + (m : Int) < 8 := fun e => hn (.inr (.inr (.inr (by omega))))
         clear hno hn
         obtain rfl : LL = 1 := HL.out.trans hn1
         have hin := HIN.out
         rw [decide_eq_false hi] at hin
         have hEi : ((E : Int) != 0) = true := by simpa using fun e => hE0 (by omega)
         have HE0 := Lib.hid hE0
         have OPN := OP.out w4 B q V2 ns2 S2 (X2.out.keep K4.out)
         rw [← hE] at OPN
         have OPN := Lib.hid OPN
         clear hi hE hE0 hn1
         rcases g with ⟨g1, g2⟩ | g1
         all_goals
           go_wp2_with fail
           refine OPN.out.mono ?_
           rintro e w5 ⟨k5, ⟨hz, -⟩ | ⟨-, rfl⟩⟩
           · exact absurd hz HE0.out
           have K5 := Lib.hid (keeps_trans K4.out k5)
           clear k5
           go_wp2_with fail
           refine (WK.out _ (keeps_trans KK.out K5.out)).mono ?_
           rintro e w9 ⟨rfl, k9⟩
           have K9 := Lib.hid (keeps_trans (keeps_trans KK.out K5.out) k9)
           clear k9
           go_wp2_with fail
           go_ret
           exact ⟨rfl, K9.out⟩)
    · have hn := fun g => hno (HNO.out.2 g)
      first
      | exact absurd (.inr (.inr (.inl (by first | trivial | rfl)))) hn
      | (have g : ((bi != 0) = true ∧ (bi != 1) = false) ∨ (bi != 0) = false := by
           have b1 : bi = 0 ∨ bi = 1 := Classical.byContradiction fun g => hn (.inl g)
           rcases b1 with rfl | rfl <;> simp
         have hse := HSE.out
         rw [decide_eq_false (fun e => hn (.inr (.inl e)))] at hse
         have hlt : ¬ (1 : Int) + (m : Int) < 8 := fun e => hn (.inr (.inr (.inr (by omega))))
         clear hno hn
         obtain rfl : LL = 2 := HL.out.trans hn1
         have hin := HIN.out
         rw [decide_eq_true hi] at hin
         have OPN := OP.out w4 B q V2 ns2 S2 (X2.out.keep K4.out)
         have OPN := Lib.hid OPN
         clear hi hn1
         generalize openT q nI 20 = G at *
         rcases g with ⟨g1, g2⟩ | g1
         all_goals
           go_wp2_with fail
           refine OPN.out.mono ?_
           rintro e w5 ⟨k5, ⟨-, -, -, sb, rfl, -, -⟩ | ⟨-, rfl⟩⟩
           all_goals
             have K5 := Lib.hid (keeps_trans K4.out k5)
             clear k5
             go_wp2_with fail
             refine (WK.out _ (keeps_trans KK.out K5.out)).mono ?_
             rintro e w9 ⟨rfl, k9⟩
             have K9 := Lib.hid (keeps_trans (keeps_trans KK.out K5.out) k9)
             clear k9
             go_wp2_with fail
             go_ret
             exact ⟨rfl, K9.out⟩)
    · have hn := fun g => hno (HNO.out.2 g)
      first
      | exact absurd (.inr (.inr (.inl (by first | trivial | rfl)))) hn
      | (have g : ((bi != 0) = true ∧ (bi != 1) = false) ∨ (bi != 0) = false := by
           have b1 : bi = 0 ∨ bi = 1 := Classical.byContradiction fun g => hn (.inl g)
           rcases b1 with rfl | rfl <;> simp
         have hse := HSE.out
         rw [decide_eq_false (fun e => hn (.inr (.inl e)))] at hse
         have hlt : ¬ (1 : Int) + (m : Int) < 8 := fun e => hn (.inr (.inr (.inr (by omega))))
         clear hno hn
         obtain rfl : LL = 1 := HL.out.trans hn1
         have hin := HIN.out
         rw [decide_eq_true hi] at hin
         have OPN := OP.out w4 B q V2 ns2 S2 (X2.out.keep K4.out)
         have OPN := Lib.hid OPN
         clear hi hn1
         generalize openT q nI 20 = G at *
         rcases g with ⟨g1, g2⟩ | g1
         all_goals
           go_wp2_with fail
           refine OPN.out.mono ?_
           rintro e w5 ⟨k5, ⟨-, -, -, sb, rfl, -, -⟩ | ⟨-, rfl⟩⟩
           all_goals
             have K5 := Lib.hid (keeps_trans K4.out k5)
             clear k5
             go_wp2_with fail
             refine (WK.out _ (keeps_trans KK.out K5.out)).mono ?_
             rintro e w9 ⟨rfl, k9⟩
             have K9 := Lib.hid (keeps_trans (keeps_trans KK.out K5.out) k9)
             clear k9
             go_wp2_with fail
             go_ret
             exact ⟨rfl, K9.out⟩)
  · have d1 : (2 : Int) ≤ (nI.length : Int) := by omega
    clear c1
    go_wp2_with fail
    refine SR.out.mono ?_
    rintro e w2 ⟨E, q, V2, ns2, S2, rfl, x2, hns, hcase⟩
    have X2 := Lib.hid x2
    have KK := Lib.hid (keeps_trans KZ.out x2.pj.kp)
    have NM := Lib.hid (fun (W : World) (k : Keeps w2 W) => names_pj (x2.keep k).pj (K.keep HZ.out KZ.out) (by rw [x_num x2]; exact hns))
    have HC := Lib.hid hcase
    have XN := Lib.hid (x_num x2)
    clear x2 hns hcase SR
    go_wp2_with fail
    refine (SN.out _).mono ?_
    rintro e w3 ⟨rfl, k3⟩
    have K3 := Lib.hid k3
    clear k3
    go_wp2_with fail
    refine (NM.out _ K3.out).mono ?_
    rintro e w4 ⟨v, rfl, o4, k4⟩
    obtain ⟨A4, c4, rfl, -, -, -, -⟩ := o4.form
    have K4 := Lib.hid (keeps_trans K3.out k4)
    clear o4 k4
    generalize hLL : q.d.l.length = LL at *
    have HL := Lib.hid (show LL = ns2.length from hLL.symm.trans (by rw [hLL]; exact XN.out))
    clear hLL
    rcases HC.out with ⟨hno, rfl, hn1⟩ | ⟨hno, hi, hE, hE0, hn1⟩ | ⟨hno, hi, rfl, hn1⟩ | ⟨hno, hi, rfl, hn1⟩
    · obtain rfl : LL = 1 := HL.out.trans hn1
      have hb := HNO.out.1 hno
      clear hno hn1
      by_cases b1 : bi = 0 ∨ bi = 1
      rotate_left
      · have g1 : (bi != 0) = true := by simpa using fun e => b1 (.inl e)
        have g2 : (bi != 1) = true := by simpa using fun e => b1 (.inr e)
        clear hb b1
        go_wp2_with fail
        refine (WK.out _ (keeps_trans KK.out K4.out)).mono ?_
        rintro e w9 ⟨rfl, k9⟩
        have K9 := Lib.hid (keeps_trans (keeps_trans KK.out K4.out) k9)
        clear k9
        go_wp2_with fail
        go_ret
        exact ⟨rfl, K9.out⟩
      have hb := hb.resolve_left (fun g => g b1)
      have g : ((bi != 0) = true ∧ (bi != 1) = false) ∨ (bi != 0) = false := by rcases b1 with rfl | rfl <;> simp
      clear b1
      by_cases b2 : nI = nO
      · have hse := HSE.out
        rw [decide_eq_true b2] at hse
        clear hb b2
        rcases g with ⟨g1, g2⟩ | g1
        all_goals
          go_wp2_with fail
          refine (WK.out _ (keeps_trans KK.out K4.out)).mono ?_
          rintro e w9 ⟨rfl, k9⟩
          have K9 := Lib.hid (keeps_trans (keeps_trans KK.out K4.out) k9)
          clear k9
          go_wp2_with fail
          go_ret
          exact ⟨rfl, K9.out⟩
      have hse := HSE.out
      rw [decide_eq_false b2] at hse
      have hb := hb.resolve_left b2
      clear b2
      rcases hb with hb | hb
      · first
        | exact absurd hb (by decide)
        | (clear hb
           rcases g with ⟨g1, g2⟩ | g1
           all_goals
             go_wp2_with fail
             refine (WK.out _ (keeps_trans KK.out K4.out)).mono ?_
             rintro e w9 ⟨rfl, k9⟩
             have K9 := Lib.hid (keeps_trans (keeps_trans KK.out K4.out) k9)
             clear k9
             go_wp2_with fail
             go_ret
             exact ⟨rfl, K9.out⟩)
      · have hlt : (1 : Int) + (m : Int) < 8 := by omega
        clear hb
        rcases g with ⟨g1, g2⟩ | g1
        all_goals
          go_wp2_with fail
          refine (WK.out _ (keeps_trans KK.out K4.out)).mono ?_
          rintro e w9 ⟨rfl, k9⟩
          have K9 := Lib.hid (keeps_trans (keeps_trans KK.out K4.out) k9)
          clear k9
          go_wp2_with fail
          go_ret
          exact ⟨rfl, K9.out⟩
    · have hn := fun g => hno (HNO.out.2 g)
      first
      | exact absurd (.inr (.inr (.inl (by first | trivial | rfl)))) hn
      | (have g : ((bi != 0) = true ∧ (bi != 1) = false) ∨ (bi != 0) = false := by
           have b1 : bi = 0 ∨ bi = 1 := Classical.byContradiction fun g => hn (.inl g)
           rcases b1 with rfl | rfl <;> simp
         have hse := HSE.out
         rw [decide_eq_false (fun e => hn (.inr (.inl e)))] at hse
         have hlt : ¬ (1 : Int) + (m : Int) < 8 := fun e => hn (.inr (.inr (.inr (by omega))))
         clear hno hn
         obtain rfl : LL = 1 := HL.out.trans hn1
         have hin := HIN.out
         rw [decide_eq_false hi] at hin
         have hEi : ((E : Int) != 0) = true := by simpa using fun e => hE0 (by omega)
         have HE0 := Lib.hid hE0
         have OPN := OP.out w4 B q V2 ns2 S2 (X2.out.keep K4.out)
         rw [← hE] at OPN
         have OPN := Lib.hid OPN
         clear hi hE hE0 hn1
         rcases g with ⟨g1, g2⟩ | g1
         all_goals
           go_wp2_with fail
           refine OPN.out.mono ?_
           rintro e w5 ⟨k5, ⟨hz, -⟩ | ⟨-, rfl⟩⟩
           · exact absurd hz HE0.out
           have K5 := Lib.hid (keeps_trans K4.out k5)
           clear k5
           go_wp2_with fail
           refine (WK.out _ (keeps_trans KK.out K5.out)).mono ?_
           rintro e w9 ⟨rfl, k9⟩
           have K9 := Lib.hid (keeps_trans (keeps_trans KK.out K5.out) k9)
           clear k9
           go_wp2_with fail
           go_ret
           exact ⟨rfl, K9.out⟩)
    · have hn := fun g => hno (HNO.out.2 g)
      first
      | exact absurd (.inr (.inr (.inl (by first | trivial | rfl)))) hn
      | (have g : ((bi != 0) = true ∧ (bi != 1) = false) ∨ (bi != 0) = false := by
           have b1 : bi = 0 ∨ bi = 1 := Classical.byContradiction fun g => hn (.inl g)
           rcases b1 with rfl | rfl <;> simp
         have hse := HSE.out
         rw [decide_eq_false (fun e => hn (.inr (.inl e)))] at hse
         have hlt : ¬ (1 : Int) + (m : Int) < 8 := fun e => hn (.inr (.inr (.inr (by omega))))
         clear hno hn
         obtain rfl : LL = 2 := HL.out.trans hn1
         have hin := HIN.out
         rw [decide_eq_true hi] at hin
         have OPN := OP.out w4 B q V2 ns2 S2 (X2.out.keep K4.out)
         have OPN := Lib.hid OPN
         clear hi hn1
         generalize openT q nI 20 = G at *
         rcases g with ⟨g1, g2⟩ | g1
         all_goals
           go_wp2_with fail
           refine OPN.out.mono ?_
           rintro e w5 ⟨k5, ⟨-, -, -, sb, rfl, -, -⟩ | ⟨-, rfl⟩⟩
           all_goals
             have K5 := Lib.hid (keeps_trans K4.out k5)
             clear k5
             go_wp2_with fail
             refine (WK.out _ (keeps_trans KK.out K5.out)).mono ?_
             rintro e w9 ⟨rfl, k9⟩
             have K9 := Lib.hid (keeps_trans (keeps_trans KK.out K5.out) k9)
             clear k9
             go_wp2_with fail
             go_ret
             exact ⟨rfl, K9.out⟩)
    · have hn := fun g => hno (HNO.out.2 g)
      first
      | exact absurd (.inr (.inr (.inl (by first | trivial | rfl)))) hn
      | (have g : ((bi != 0) = true ∧ (bi != 1) = false) ∨ (bi != 0) = false := by
           have b1 : bi = 0 ∨ bi = 1 := Classical.byContradiction fun g => hn (.inl g)
           rcases b1 with rfl | rfl <;> simp
         have hse := HSE.out
         rw [decide_eq_false (fun e => hn (.inr (.inl e)))] at hse
         have hlt : ¬ (1 : Int) + (m : Int) < 8 := fun e => hn (.inr (.inr (.inr (by omega))))
         clear hno hn
         obtain rfl : LL = 1 := HL.out.trans hn1
         have hin := HIN.out
         rw [decide_eq_true hi] at hin
         have OPN := OP.out w4 B q V2 ns2 S2 (X2.out.keep K4.out)
         have OPN := Lib.hid OPN
         clear hi hn1
         generalize openT q nI 20 = G at *
         rcases g with ⟨g1, g2⟩ | g1
         all_goals
           go_wp2_with fail
           refine OPN.out.mono ?_
           rintro e w5 ⟨k5, ⟨-, -, -, sb, rfl, -, -⟩ | ⟨-, rfl⟩⟩
           all_goals
             have K5 := Lib.hid (keeps_trans K4.out k5)
             clear k5
             go_wp2_with fail
             refine (WK.out _ (keeps_trans KK.out K5.out)).mono ?_
             rintro e w9 ⟨rfl, k9⟩
             have K9 := Lib.hid (keeps_trans (keeps_trans KK.out K5.out) k9)
             clear k9
             go_wp2_with fail
             go_ret
             exact ⟨rfl, K9.out⟩)
end Go.Proofs.YthoklfbnmndclaaGreatDoor
